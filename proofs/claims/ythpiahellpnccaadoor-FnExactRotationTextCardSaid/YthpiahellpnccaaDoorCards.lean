/-
  DERIVED. GIVEN WITH THE SEED: THE CARDS: each row of YthpiahellpnccaaDoorRows.lean that lists a variable, with what it lists TIED to the program's text (the seventh form; the later family's looks); each row that meets fmt, with fmt's text TOLD by the authors' own Lean function (tested against real Go, not proved from fmt's source: count such statements apart). THE CARD IS WHAT COUNTS. Prove the row's statement (the work); the ties are given (YthpiahellpnccaaDoorTie.lean); close each card by the builder's one call (the guide's Derived/Test/ToyasCard.lean, 'card_holds'). Laid BY PROGRAM, IN A SANDBOX (cutbox-door.mjs). By AI agents, Wed Nov 11 2026. No macro, syntax, notation, axiom, sorry.
-/
import Derived.Test.YthpiahellpnccaaDoorRows
import GoSem.ClaimSeven
namespace Go.Proofs.YthpiahellpnccaaDoor
namespace Rows

/-- THE TIED CARD OF 'laws.FnExactRotationText'. -/
def fnExactRotationTextCard : Claim7 := { stood := { row := fnExactRotationTextRow, standIns := [], harness := (true, "c38ce09829ce444751aa9ee52f56fa21e88da01cb2242738e0dfb85ab9ac57e7"), looks := true }, kinds := [], alts := [], laidByText := true, laidKinds := [.data, .data, .data], laidTests := true, laidLooks := .later }
def FnExactRotationTextCardSaid : Prop := Claim7.holds Tryd.pinned (.plain (OpenSpec.ofChange fnExactRotationTextSpec)) fnExactRotationTextCard

/-- THE TIED CARD OF 'laws.FnExactParseRotation'. -/
def fnExactParseRotationCard : Claim7 := { stood := { row := fnExactParseRotationRow, standIns := [], harness := (true, "c38ce09829ce444751aa9ee52f56fa21e88da01cb2242738e0dfb85ab9ac57e7"), looks := true }, kinds := [], alts := [], laidByText := true, laidKinds := [.data, .data, .data, .sentinel, .sentinel], laidTests := true, laidLooks := .later }
def FnExactParseRotationCardSaid : Prop := Claim7.holds Tryd.pinned (.plain (OpenSpec.ofChange fnExactParseRotationSpec)) fnExactParseRotationCard

/-- THE SECOND FORM's CARD OF 'laws.FnExactRotationText'. -/
def fnExactRotationTextUptoCard : Claim7 := { stood := { row := fnExactRotationTextUptoRow, standIns := [], harness := (true, "c38ce09829ce444751aa9ee52f56fa21e88da01cb2242738e0dfb85ab9ac57e7"), looks := true }, kinds := [], alts := [], laidByText := true, laidKinds := [.data, .data, .data], laidTests := true, laidLooks := .later }
def FnExactRotationTextUptoCardSaid : Prop := Claim7.holds Tryd.pinned (.plain (OpenSpec.upto fnExactRotationTextSpec)) fnExactRotationTextUptoCard

/-- THE SECOND FORM's CARD OF 'laws.FnExactParseRotation'. -/
def fnExactParseRotationUptoCard : Claim7 := { stood := { row := fnExactParseRotationUptoRow, standIns := [], harness := (true, "c38ce09829ce444751aa9ee52f56fa21e88da01cb2242738e0dfb85ab9ac57e7"), looks := true }, kinds := [], alts := [], laidByText := true, laidKinds := [.data, .data, .data, .sentinel, .sentinel], laidTests := true, laidLooks := .later }
def FnExactParseRotationUptoCardSaid : Prop := Claim7.holds Tryd.pinned (.plain (OpenSpec.upto fnExactParseRotationSpec)) fnExactParseRotationUptoCard
end Rows
end Go.Proofs.YthpiahellpnccaaDoor
