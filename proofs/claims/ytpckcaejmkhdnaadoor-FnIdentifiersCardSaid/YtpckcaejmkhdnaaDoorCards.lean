/-
  DERIVED. GIVEN WITH THE SEED: THE CARDS: each row of YtpckcaejmkhdnaaDoorRows.lean that lists a variable, with what it lists TIED to the program's text (the seventh form; the later family's looks); each row that meets fmt, with fmt's text TOLD by the authors' own Lean function (tested against real Go, not proved from fmt's source: count such statements apart). THE CARD IS WHAT COUNTS. Prove the row's statement (the work); the ties are given (YtpckcaejmkhdnaaDoorTie.lean); close each card by the builder's one call (the guide's Derived/Test/ToyasCard.lean, 'card_holds'). Laid BY PROGRAM, IN A SANDBOX (cutbox-door.mjs). By AI agents, Wed Nov 11 2026. No macro, syntax, notation, axiom, sorry.
-/
import Derived.Test.YtpckcaejmkhdnaaDoorRows
import GoSem.ClaimSeven
namespace Go.Proofs.YtpckcaejmkhdnaaDoor
namespace Rows

/-- THE TIED CARD OF 'laws.FnIdentifiers'. -/
def fnIdentifiersCard : Claim7 := { stood := { row := fnIdentifiersRow, standIns := [], harness := (true, "c236fbff01816733a9f17d5df60e2b5504c54723e6909a04f36e5c2c6c0cf7d9"), looks := true }, kinds := [], alts := [], laidByText := true, laidKinds := [.data, .data, .data, .sentinel, .sentinel, .sentinel], laidTests := true, laidLooks := .later }
def FnIdentifiersCardSaid : Prop := Claim7.holds Tryd.pinned (.plain (OpenSpec.ofChange fnIdentifiersSpec)) fnIdentifiersCard

/-- THE TIED CARD OF 'laws.FnExactNextId'. -/
def fnExactNextIdCard : Claim7 := { stood := { row := fnExactNextIdRow, standIns := [], harness := (true, "c236fbff01816733a9f17d5df60e2b5504c54723e6909a04f36e5c2c6c0cf7d9"), looks := true }, kinds := [], alts := [], laidByText := true, laidKinds := [.data, .data, .data, .sentinel, .sentinel, .sentinel], laidTests := true, laidLooks := .later }
def FnExactNextIdCardSaid : Prop := Claim7.holds Tryd.pinned (.plain (OpenSpec.ofChange fnExactNextIdSpec)) fnExactNextIdCard

/-- THE SECOND FORM's CARD OF 'laws.FnIdentifiers'. -/
def fnIdentifiersUptoCard : Claim7 := { stood := { row := fnIdentifiersUptoRow, standIns := [], harness := (true, "c236fbff01816733a9f17d5df60e2b5504c54723e6909a04f36e5c2c6c0cf7d9"), looks := true }, kinds := [], alts := [], laidByText := true, laidKinds := [.data, .data, .data, .sentinel, .sentinel, .sentinel], laidTests := true, laidLooks := .later }
def FnIdentifiersUptoCardSaid : Prop := Claim7.holds Tryd.pinned (.plain (OpenSpec.upto fnIdentifiersSpec)) fnIdentifiersUptoCard

/-- THE SECOND FORM's CARD OF 'laws.FnExactNextId'. -/
def fnExactNextIdUptoCard : Claim7 := { stood := { row := fnExactNextIdUptoRow, standIns := [], harness := (true, "c236fbff01816733a9f17d5df60e2b5504c54723e6909a04f36e5c2c6c0cf7d9"), looks := true }, kinds := [], alts := [], laidByText := true, laidKinds := [.data, .data, .data, .sentinel, .sentinel, .sentinel], laidTests := true, laidLooks := .later }
def FnExactNextIdUptoCardSaid : Prop := Claim7.holds Tryd.pinned (.plain (OpenSpec.upto fnExactNextIdSpec)) fnExactNextIdUptoCard
end Rows
end Go.Proofs.YtpckcaejmkhdnaaDoor
