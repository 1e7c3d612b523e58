/-
  DERIVED. GIVEN WITH THE SEED: THE CARDS: each row of YtcpelnnadabnpaaDoorRows.lean that lists a variable, with what it lists TIED to the program's text (the seventh form; the later family's looks); each row that meets fmt, with fmt's text TOLD by the authors' own Lean function (tested against real Go, not proved from fmt's source: count such statements apart). THE CARD IS WHAT COUNTS. Prove the row's statement (the work); the ties are given (YtcpelnnadabnpaaDoorTie.lean); close each card by the builder's one call (the guide's Derived/Test/ToyasCard.lean, 'card_holds'). Laid BY PROGRAM, IN A SANDBOX (cutbox-door.mjs). By AI agents, Wed Nov 11 2026. No macro, syntax, notation, axiom, sorry.
-/
import Derived.Test.YtcpelnnadabnpaaDoorRows
import GoSem.ClaimSeven
namespace Go.Proofs.YtcpelnnadabnpaaDoor
namespace Rows

/-- THE TIED CARD OF 'laws.FnExactYardFindingText'. -/
def fnExactYardFindingTextCard : Claim7 := { stood := { row := fnExactYardFindingTextRow, standIns := [], harness := (true, "a753cc4b2f4daa6d8b884160c13d28bbbef5ad18b1952f04224181ec0a086de4"), looks := true }, kinds := [], alts := [], laidByText := true, laidKinds := [.data, .data, .data], laidTests := true, laidLooks := .later }
def FnExactYardFindingTextCardSaid : Prop := Claim7.holds Tryd.pinned (.plain (OpenSpec.ofChange fnExactYardFindingTextSpec)) fnExactYardFindingTextCard

/-- THE TIED CARD OF 'laws.FnExactParseYardFinding'. -/
def fnExactParseYardFindingCard : Claim7 := { stood := { row := fnExactParseYardFindingRow, standIns := [], harness := (true, "a753cc4b2f4daa6d8b884160c13d28bbbef5ad18b1952f04224181ec0a086de4"), looks := true }, kinds := [], alts := [], laidByText := true, laidKinds := [.data, .data, .data, .sentinel, .sentinel], laidTests := true, laidLooks := .later }
def FnExactParseYardFindingCardSaid : Prop := Claim7.holds Tryd.pinned (.plain (OpenSpec.ofChange fnExactParseYardFindingSpec)) fnExactParseYardFindingCard

/-- THE SECOND FORM's CARD OF 'laws.FnExactYardFindingText'. -/
def fnExactYardFindingTextUptoCard : Claim7 := { stood := { row := fnExactYardFindingTextUptoRow, standIns := [], harness := (true, "a753cc4b2f4daa6d8b884160c13d28bbbef5ad18b1952f04224181ec0a086de4"), looks := true }, kinds := [], alts := [], laidByText := true, laidKinds := [.data, .data, .data], laidTests := true, laidLooks := .later }
def FnExactYardFindingTextUptoCardSaid : Prop := Claim7.holds Tryd.pinned (.plain (OpenSpec.upto fnExactYardFindingTextSpec)) fnExactYardFindingTextUptoCard

/-- THE SECOND FORM's CARD OF 'laws.FnExactParseYardFinding'. -/
def fnExactParseYardFindingUptoCard : Claim7 := { stood := { row := fnExactParseYardFindingUptoRow, standIns := [], harness := (true, "a753cc4b2f4daa6d8b884160c13d28bbbef5ad18b1952f04224181ec0a086de4"), looks := true }, kinds := [], alts := [], laidByText := true, laidKinds := [.data, .data, .data, .sentinel, .sentinel], laidTests := true, laidLooks := .later }
def FnExactParseYardFindingUptoCardSaid : Prop := Claim7.holds Tryd.pinned (.plain (OpenSpec.upto fnExactParseYardFindingSpec)) fnExactParseYardFindingUptoCard
end Rows
end Go.Proofs.YtcpelnnadabnpaaDoor
