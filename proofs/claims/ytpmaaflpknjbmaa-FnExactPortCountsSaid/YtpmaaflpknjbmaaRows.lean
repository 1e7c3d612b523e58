/-
  No cell of these rows narrows 'for every input' (looked for: loops, veiled, ifaces, maps, wideKeys, modest, calm, conditions, laid).
  DERIVED. THE GIVEN ROWS OF THIS SEAT. 4 by the template 'for every input the law returns true; each argument reads behind the call as it read before'; 0 by the template 'total and deterministic' (their statements: YtpmaaflpknjbmaaTotals.lean).
  GIVEN WITH THE SEED: the statements are not yours to turn. If you find one false, say at which input.
  Laid BY PROGRAM, IN A SANDBOX (cutbox-rows.mjs): the forced cells as the released guide's own fill.sh prints them over the translation efd67038a3748187… (all of the seat's roots in one cut). By AI agents, Wed Nov 11 2026. No macro, syntax, notation, axiom, sorry.
-/
import Derived.Test.YtpmaaflpknjbmaaChecked
import GoSem.Claim
import GoSem.ClaimJoined
import GoSem.ClaimMapViews
import Derived.JoinedTies
import Derived.KernelRfl
namespace Go.Proofs.Ytpmaaflpknjbmaa
/- THE CELL 'sum', in the pinned program and in every row, IS THE sha256 OF THE DUMP (.gsa) THAT YtpmaaflpknjbmaaProg.lean LOADS. Nothing in Lean hashes anything: it is a label: what it is worth is what the hold of that sum in a sandbox is worth. -/
noncomputable def Try.pinned : Pinned := { name := "ytpmaaflpknjbmaa", sum := "efd67038a3748187d63668650970d1c247b96d39c1cccff0e49d2f9be753d222", checked := Try.checked }
namespace Rows
def none {H : Type} : Left H := { results := [], args := [] }

/-- 'laws.FnExactPortCounts': WHATEVER THE INPUT: true; the input reads as it did. -/
def fnExactPortCountsSpec : ChangeSpec := { name := "fnExactPortCounts", fn := fun _ => fun
  | [d] => { results := [.lit (.bool true)], args := [d] }
  | _ => none }
def fnExactPortCountsRow : OpenClaim := { program := "ytpmaaflpknjbmaa", sum := "efd67038a3748187d63668650970d1c247b96d39c1cccff0e49d2f9be753d222", func := "loop.example/g00906/laws.FnExactPortCounts", spec := "fnExactPortCounts", unfollowed := true, recurses := true, apart := false }
def FnExactPortCountsSaid : Prop := fnExactPortCountsRow.holds Try.pinned (OpenSpec.ofChange fnExactPortCountsSpec)

/-- ITS FALSE NEIGHBOUR: 'it returns false'. Refute it at one input. -/
def fnExactPortCountsWrong : ChangeSpec := { name := "fnExactPortCounts", fn := fun _ => fun
  | [d] => { results := [.lit (.bool false)], args := [d] }
  | _ => none }
def FnExactPortCountsWrongFalsely : Prop := fnExactPortCountsRow.holds Try.pinned (OpenSpec.ofChange fnExactPortCountsWrong)

/-- 'laws.FnExactManifestChanges': WHATEVER THE INPUT: true; the input reads as it did. -/
def fnExactManifestChangesSpec : ChangeSpec := { name := "fnExactManifestChanges", fn := fun _ => fun
  | [d1, d2] => { results := [.lit (.bool true)], args := [d1, d2] }
  | _ => none }
def fnExactManifestChangesRow : OpenClaim := { program := "ytpmaaflpknjbmaa", sum := "efd67038a3748187d63668650970d1c247b96d39c1cccff0e49d2f9be753d222", func := "loop.example/g00906/laws.FnExactManifestChanges", spec := "fnExactManifestChanges", unfollowed := true, recurses := true, apart := false }
def FnExactManifestChangesSaid : Prop := fnExactManifestChangesRow.holds Try.pinned (OpenSpec.ofChange fnExactManifestChangesSpec)

/-- ITS FALSE NEIGHBOUR: 'it returns false'. Refute it at one input. -/
def fnExactManifestChangesWrong : ChangeSpec := { name := "fnExactManifestChanges", fn := fun _ => fun
  | [d1, d2] => { results := [.lit (.bool false)], args := [d1, d2] }
  | _ => none }
def FnExactManifestChangesWrongFalsely : Prop := fnExactManifestChangesRow.holds Try.pinned (OpenSpec.ofChange fnExactManifestChangesWrong)

/-- 'laws.FnExactMergeManifests': WHATEVER THE INPUT: true; the input reads as it did. -/
def fnExactMergeManifestsSpec : ChangeSpec := { name := "fnExactMergeManifests", fn := fun _ => fun
  | [d1, d2] => { results := [.lit (.bool true)], args := [d1, d2] }
  | _ => none }
def fnExactMergeManifestsRow : OpenClaim := { program := "ytpmaaflpknjbmaa", sum := "efd67038a3748187d63668650970d1c247b96d39c1cccff0e49d2f9be753d222", func := "loop.example/g00906/laws.FnExactMergeManifests", spec := "fnExactMergeManifests", unfollowed := true, recurses := true, apart := false }
def FnExactMergeManifestsSaid : Prop := fnExactMergeManifestsRow.holds Try.pinned (OpenSpec.ofChange fnExactMergeManifestsSpec)

/-- ITS FALSE NEIGHBOUR: 'it returns false'. Refute it at one input. -/
def fnExactMergeManifestsWrong : ChangeSpec := { name := "fnExactMergeManifests", fn := fun _ => fun
  | [d1, d2] => { results := [.lit (.bool false)], args := [d1, d2] }
  | _ => none }
def FnExactMergeManifestsWrongFalsely : Prop := fnExactMergeManifestsRow.holds Try.pinned (OpenSpec.ofChange fnExactMergeManifestsWrong)

/-- 'laws.FnExactSplitManifest': WHATEVER THE INPUT: true; the input reads as it did. -/
def fnExactSplitManifestSpec : ChangeSpec := { name := "fnExactSplitManifest", fn := fun _ => fun
  | [d1, d2] => { results := [.lit (.bool true)], args := [d1, d2] }
  | _ => none }
def fnExactSplitManifestRow : OpenClaim := { program := "ytpmaaflpknjbmaa", sum := "efd67038a3748187d63668650970d1c247b96d39c1cccff0e49d2f9be753d222", func := "loop.example/g00906/laws.FnExactSplitManifest", spec := "fnExactSplitManifest", unfollowed := true, recurses := true, apart := false }
def FnExactSplitManifestSaid : Prop := fnExactSplitManifestRow.holds Try.pinned (OpenSpec.ofChange fnExactSplitManifestSpec)

/-- ITS FALSE NEIGHBOUR: 'it returns false'. Refute it at one input. -/
def fnExactSplitManifestWrong : ChangeSpec := { name := "fnExactSplitManifest", fn := fun _ => fun
  | [d1, d2] => { results := [.lit (.bool false)], args := [d1, d2] }
  | _ => none }
def FnExactSplitManifestWrongFalsely : Prop := fnExactSplitManifestRow.holds Try.pinned (OpenSpec.ofChange fnExactSplitManifestWrong)

/- THE SECOND FORM. 'bulk': how many values and letters a reading holds, each counted each time it is reached (what is shared counts as often as it is met; a slice's spare places count too). A statement '..UptoSaid' is the law's where the arguments, and the package variables that the reading takes, are together of bulk at most 1048576: NARROWER than '..Said'. Prove '..Said' where nothing that the law and all that it calls make is longer than what came in: it says more and counts as full. Else prove '..UptoSaid'. A law counts once. -/
mutual
def uptoBulk {H : Type} : DataW H → Nat
  | .lit (.string bytes) => bytes.length + 1
  | .lit _ => 1
  | .nil => 1
  | .ptr d => uptoBulk d + 1
  | .slice elems spare => uptoBulkAll elems + uptoBulkAll spare + 1
  | .agg parts => uptoBulkAll parts + 1
  | .iface _ d => uptoBulk d + 1
  | .map entries => uptoBulkEntries entries + 1
  | .held _ => 1
def uptoBulkAll {H : Type} : List (DataW H) → Nat
  | [] => 0
  | d :: r => uptoBulk d + uptoBulkAll r
def uptoBulkEntries {H : Type} : List (Lit × DataW H) → Nat
  | [] => 0
  | x :: r => uptoBulkEntry x + uptoBulkEntries r
def uptoBulkEntry {H : Type} : Lit × DataW H → Nat
  | (.string bytes, d) => bytes.length + uptoBulk d + 1
  | (_, d) => uptoBulk d + 1
 end
def uptoSmall : (H : Type) → List (DataW H) → Bool := fun _ ds => decide (uptoBulkAll ds ≤ 1048576)
def OpenSpec.upto (s : _root_.Go.ChangeSpec) : _root_.Go.OpenSpec := { _root_.Go.OpenSpec.ofChange s with cond := some uptoSmall }

/-- 'laws.FnExactPortCounts', WHERE WHAT IT READS IS OF BULK AT MOST 1048576: true; the input reads as it did. -/
def fnExactPortCountsUptoRow : OpenClaim := { program := "ytpmaaflpknjbmaa", sum := "efd67038a3748187d63668650970d1c247b96d39c1cccff0e49d2f9be753d222", func := "loop.example/g00906/laws.FnExactPortCounts", spec := "fnExactPortCounts", unfollowed := true, recurses := true, apart := false, narrowed := true }
def FnExactPortCountsUptoSaid : Prop := fnExactPortCountsUptoRow.holds Try.pinned (OpenSpec.upto fnExactPortCountsSpec)

/-- 'laws.FnExactManifestChanges', WHERE WHAT IT READS IS OF BULK AT MOST 1048576: true; the input reads as it did. -/
def fnExactManifestChangesUptoRow : OpenClaim := { program := "ytpmaaflpknjbmaa", sum := "efd67038a3748187d63668650970d1c247b96d39c1cccff0e49d2f9be753d222", func := "loop.example/g00906/laws.FnExactManifestChanges", spec := "fnExactManifestChanges", unfollowed := true, recurses := true, apart := false, narrowed := true }
def FnExactManifestChangesUptoSaid : Prop := fnExactManifestChangesUptoRow.holds Try.pinned (OpenSpec.upto fnExactManifestChangesSpec)

/-- 'laws.FnExactMergeManifests', WHERE WHAT IT READS IS OF BULK AT MOST 1048576: true; the input reads as it did. -/
def fnExactMergeManifestsUptoRow : OpenClaim := { program := "ytpmaaflpknjbmaa", sum := "efd67038a3748187d63668650970d1c247b96d39c1cccff0e49d2f9be753d222", func := "loop.example/g00906/laws.FnExactMergeManifests", spec := "fnExactMergeManifests", unfollowed := true, recurses := true, apart := false, narrowed := true }
def FnExactMergeManifestsUptoSaid : Prop := fnExactMergeManifestsUptoRow.holds Try.pinned (OpenSpec.upto fnExactMergeManifestsSpec)

/-- 'laws.FnExactSplitManifest', WHERE WHAT IT READS IS OF BULK AT MOST 1048576: true; the input reads as it did. -/
def fnExactSplitManifestUptoRow : OpenClaim := { program := "ytpmaaflpknjbmaa", sum := "efd67038a3748187d63668650970d1c247b96d39c1cccff0e49d2f9be753d222", func := "loop.example/g00906/laws.FnExactSplitManifest", spec := "fnExactSplitManifest", unfollowed := true, recurses := true, apart := false, narrowed := true }
def FnExactSplitManifestUptoSaid : Prop := fnExactSplitManifestUptoRow.holds Try.pinned (OpenSpec.upto fnExactSplitManifestSpec)

end Rows
end Go.Proofs.Ytpmaaflpknjbmaa
