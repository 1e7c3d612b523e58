/-
  DERIVED. GIVEN WITH THE SEED: THE CARDS: each row of YtececghifehjeaaDoorRows.lean that lists a variable, with what it lists TIED to the program's text (the seventh form; the later family's looks); each row that meets fmt, with fmt's text TOLD by the authors' own Lean function (tested against real Go, not proved from fmt's source: count such statements apart). THE CARD IS WHAT COUNTS. Prove the row's statement (the work); the ties are given (YtececghifehjeaaDoorTie.lean); close each card by the builder's one call (the guide's Derived/Test/ToyasCard.lean, 'card_holds'). Laid BY PROGRAM, IN A SANDBOX (cutbox-door.mjs). By AI agents, Wed Nov 11 2026. No macro, syntax, notation, axiom, sorry.
-/
import Derived.Test.YtececghifehjeaaDoorRows
import GoSem.ClaimSeven
namespace Go.Proofs.YtececghifehjeaaDoor
namespace Rows

/-- THE TIED CARD OF 'laws.FnBays'. -/
def fnBaysCard : Claim7 := { stood := { row := fnBaysRow, standIns := [], harness := (true, "7c6e37db007ac05759d915bb106abb5b30bebb5507ecf4087f669db69be05394"), looks := true }, kinds := [], alts := [], laidByText := true, laidKinds := [.data, .data, .data, .sentinel, .sentinel], laidTests := true, laidLooks := .later }
def FnBaysCardSaid : Prop := Claim7.holds Tryd.pinned (.plain (OpenSpec.ofChange fnBaysSpec)) fnBaysCard

/-- THE TIED CARD OF 'laws.FnExactBayText'. -/
def fnExactBayTextCard : Claim7 := { stood := { row := fnExactBayTextRow, standIns := [], harness := (true, "7c6e37db007ac05759d915bb106abb5b30bebb5507ecf4087f669db69be05394"), looks := true }, kinds := [], alts := [], laidByText := true, laidKinds := [.data, .data, .data], laidTests := true, laidLooks := .later }
def FnExactBayTextCardSaid : Prop := Claim7.holds Tryd.pinned (.plain (OpenSpec.ofChange fnExactBayTextSpec)) fnExactBayTextCard

/-- THE TIED CARD OF 'laws.FnExactParseBay'. -/
def fnExactParseBayCard : Claim7 := { stood := { row := fnExactParseBayRow, standIns := [], harness := (true, "7c6e37db007ac05759d915bb106abb5b30bebb5507ecf4087f669db69be05394"), looks := true }, kinds := [], alts := [], laidByText := true, laidKinds := [.data, .data, .data, .sentinel, .sentinel], laidTests := true, laidLooks := .later }
def FnExactParseBayCardSaid : Prop := Claim7.holds Tryd.pinned (.plain (OpenSpec.ofChange fnExactParseBaySpec)) fnExactParseBayCard

/-- THE SECOND FORM's CARD OF 'laws.FnBays'. -/
def fnBaysUptoCard : Claim7 := { stood := { row := fnBaysUptoRow, standIns := [], harness := (true, "7c6e37db007ac05759d915bb106abb5b30bebb5507ecf4087f669db69be05394"), looks := true }, kinds := [], alts := [], laidByText := true, laidKinds := [.data, .data, .data, .sentinel, .sentinel], laidTests := true, laidLooks := .later }
def FnBaysUptoCardSaid : Prop := Claim7.holds Tryd.pinned (.plain (OpenSpec.upto fnBaysSpec)) fnBaysUptoCard

/-- THE SECOND FORM's CARD OF 'laws.FnExactBayText'. -/
def fnExactBayTextUptoCard : Claim7 := { stood := { row := fnExactBayTextUptoRow, standIns := [], harness := (true, "7c6e37db007ac05759d915bb106abb5b30bebb5507ecf4087f669db69be05394"), looks := true }, kinds := [], alts := [], laidByText := true, laidKinds := [.data, .data, .data], laidTests := true, laidLooks := .later }
def FnExactBayTextUptoCardSaid : Prop := Claim7.holds Tryd.pinned (.plain (OpenSpec.upto fnExactBayTextSpec)) fnExactBayTextUptoCard

/-- THE SECOND FORM's CARD OF 'laws.FnExactParseBay'. -/
def fnExactParseBayUptoCard : Claim7 := { stood := { row := fnExactParseBayUptoRow, standIns := [], harness := (true, "7c6e37db007ac05759d915bb106abb5b30bebb5507ecf4087f669db69be05394"), looks := true }, kinds := [], alts := [], laidByText := true, laidKinds := [.data, .data, .data, .sentinel, .sentinel], laidTests := true, laidLooks := .later }
def FnExactParseBayUptoCardSaid : Prop := Claim7.holds Tryd.pinned (.plain (OpenSpec.upto fnExactParseBaySpec)) fnExactParseBayUptoCard
end Rows
end Go.Proofs.YtececghifehjeaaDoor
