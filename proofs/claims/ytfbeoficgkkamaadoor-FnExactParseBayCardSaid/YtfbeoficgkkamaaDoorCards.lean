/-
  DERIVED. GIVEN WITH THE SEED: THE CARDS: each row of YtfbeoficgkkamaaDoorRows.lean that lists a variable, with what it lists TIED to the program's text (the seventh form; the later family's looks); each row that meets fmt, with fmt's text TOLD by the authors' own Lean function (tested against real Go, not proved from fmt's source: count such statements apart). THE CARD IS WHAT COUNTS. Prove the row's statement (the work); the ties are given (YtfbeoficgkkamaaDoorTie.lean); close each card by the builder's one call (the guide's Derived/Test/ToyasCard.lean, 'card_holds'). Laid BY PROGRAM, IN A SANDBOX (cutbox-door.mjs). By AI agents, Wed Nov 11 2026. No macro, syntax, notation, axiom, sorry.
-/
import Derived.Test.YtfbeoficgkkamaaDoorRows
import GoSem.ClaimSeven
namespace Go.Proofs.YtfbeoficgkkamaaDoor
namespace Rows

/-- THE TIED CARD OF 'laws.FnExactParseBay'. -/
def fnExactParseBayCard : Claim7 := { stood := { row := fnExactParseBayRow, standIns := [], harness := (true, "61f15459647f6ed1c91e81ad1ad859187aa45fd4337cf63931f7fd868a0c48f6"), looks := true }, kinds := [], alts := [], laidByText := true, laidKinds := [.data, .data, .data, .sentinel, .sentinel], laidTests := true, laidLooks := .later }
def FnExactParseBayCardSaid : Prop := Claim7.holds Tryd.pinned (.plain (OpenSpec.ofChange fnExactParseBaySpec)) fnExactParseBayCard

/-- THE TIED CARD OF 'laws.FnBays'. -/
def fnBaysCard : Claim7 := { stood := { row := fnBaysRow, standIns := [], harness := (true, "61f15459647f6ed1c91e81ad1ad859187aa45fd4337cf63931f7fd868a0c48f6"), looks := true }, kinds := [], alts := [], laidByText := true, laidKinds := [.data, .data, .data, .sentinel, .sentinel], laidTests := true, laidLooks := .later }
def FnBaysCardSaid : Prop := Claim7.holds Tryd.pinned (.plain (OpenSpec.ofChange fnBaysSpec)) fnBaysCard

/-- THE SECOND FORM's CARD OF 'laws.FnExactParseBay'. -/
def fnExactParseBayUptoCard : Claim7 := { stood := { row := fnExactParseBayUptoRow, standIns := [], harness := (true, "61f15459647f6ed1c91e81ad1ad859187aa45fd4337cf63931f7fd868a0c48f6"), looks := true }, kinds := [], alts := [], laidByText := true, laidKinds := [.data, .data, .data, .sentinel, .sentinel], laidTests := true, laidLooks := .later }
def FnExactParseBayUptoCardSaid : Prop := Claim7.holds Tryd.pinned (.plain (OpenSpec.upto fnExactParseBaySpec)) fnExactParseBayUptoCard

/-- THE SECOND FORM's CARD OF 'laws.FnBays'. -/
def fnBaysUptoCard : Claim7 := { stood := { row := fnBaysUptoRow, standIns := [], harness := (true, "61f15459647f6ed1c91e81ad1ad859187aa45fd4337cf63931f7fd868a0c48f6"), looks := true }, kinds := [], alts := [], laidByText := true, laidKinds := [.data, .data, .data, .sentinel, .sentinel], laidTests := true, laidLooks := .later }
def FnBaysUptoCardSaid : Prop := Claim7.holds Tryd.pinned (.plain (OpenSpec.upto fnBaysSpec)) fnBaysUptoCard
end Rows
end Go.Proofs.YtfbeoficgkkamaaDoor
