/-
  No cell of these rows narrows 'for every input' (looked for: loops, veiled, ifaces, maps, wideKeys, modest, calm, conditions, laid).
  DERIVED. THE GIVEN ROWS OF THIS SEAT. 9 by the template 'for every input the law returns true; each argument reads behind the call as it read before'; 0 by the template 'total and deterministic' (their statements: YtffejbgcgagkpaaTotals.lean).
  GIVEN WITH THE SEED: the statements are not yours to turn. If you find one false, say at which input.
  Laid BY PROGRAM, IN A SANDBOX (cutbox-rows.mjs): the forced cells as the released guide's own fill.sh prints them over the translation e99ef6549a4e3216… (all of the seat's roots in one cut). By AI agents, Wed Nov 11 2026. No macro, syntax, notation, axiom, sorry.
-/
import Derived.Test.YtffejbgcgagkpaaChecked
import GoSem.Claim
import GoSem.ClaimJoined
import GoSem.ClaimMapViews
import Derived.JoinedTies
import Derived.KernelRfl
namespace Go.Proofs.Ytffejbgcgagkpaa
/- THE CELL 'sum', in the pinned program and in every row, IS THE sha256 OF THE DUMP (.gsa) THAT YtffejbgcgagkpaaProg.lean LOADS. Nothing in Lean hashes anything: it is a label: what it is worth is what the hold of that sum in a sandbox is worth. -/
noncomputable def Try.pinned : Pinned := { name := "ytffejbgcgagkpaa", sum := "e99ef6549a4e321602a3e614ecc3b53f7cccce2d1f690b49e1585e5151dc309a", checked := Try.checked }
namespace Rows
def none {H : Type} : Left H := { results := [], args := [] }

/-- 'laws.FnCranes': WHATEVER THE INPUT: true; the input reads as it did. -/
def fnCranesSpec : ChangeSpec := { name := "fnCranes", fn := fun _ => fun
  | [d] => { results := [.lit (.bool true)], args := [d] }
  | _ => none }
def fnCranesRow : OpenClaim := { program := "ytffejbgcgagkpaa", sum := "e99ef6549a4e321602a3e614ecc3b53f7cccce2d1f690b49e1585e5151dc309a", func := "loop.example/g00906/laws.FnCranes", spec := "fnCranes", unfollowed := true, recurses := true, apart := false }
def FnCranesSaid : Prop := fnCranesRow.holds Try.pinned (OpenSpec.ofChange fnCranesSpec)

/-- ITS FALSE NEIGHBOUR: 'it returns false'. Refute it at one input. -/
def fnCranesWrong : ChangeSpec := { name := "fnCranes", fn := fun _ => fun
  | [d] => { results := [.lit (.bool false)], args := [d] }
  | _ => none }
def FnCranesWrongFalsely : Prop := fnCranesRow.holds Try.pinned (OpenSpec.ofChange fnCranesWrong)

/-- 'laws.FnClashes': WHATEVER THE INPUT: true; the input reads as it did. -/
def fnClashesSpec : ChangeSpec := { name := "fnClashes", fn := fun _ => fun
  | [d] => { results := [.lit (.bool true)], args := [d] }
  | _ => none }
def fnClashesRow : OpenClaim := { program := "ytffejbgcgagkpaa", sum := "e99ef6549a4e321602a3e614ecc3b53f7cccce2d1f690b49e1585e5151dc309a", func := "loop.example/g00906/laws.FnClashes", spec := "fnClashes", unfollowed := true, recurses := true, apart := false }
def FnClashesSaid : Prop := fnClashesRow.holds Try.pinned (OpenSpec.ofChange fnClashesSpec)

/-- ITS FALSE NEIGHBOUR: 'it returns false'. Refute it at one input. -/
def fnClashesWrong : ChangeSpec := { name := "fnClashes", fn := fun _ => fun
  | [d] => { results := [.lit (.bool false)], args := [d] }
  | _ => none }
def FnClashesWrongFalsely : Prop := fnClashesRow.holds Try.pinned (OpenSpec.ofChange fnClashesWrong)

/-- 'laws.FnExactLoadsOf': WHATEVER THE INPUT: true; the input reads as it did. -/
def fnExactLoadsOfSpec : ChangeSpec := { name := "fnExactLoadsOf", fn := fun _ => fun
  | [d1, d2, d3] => { results := [.lit (.bool true)], args := [d1, d2, d3] }
  | _ => none }
def fnExactLoadsOfRow : OpenClaim := { program := "ytffejbgcgagkpaa", sum := "e99ef6549a4e321602a3e614ecc3b53f7cccce2d1f690b49e1585e5151dc309a", func := "loop.example/g00906/laws.FnExactLoadsOf", spec := "fnExactLoadsOf", unfollowed := true, recurses := true, apart := false }
def FnExactLoadsOfSaid : Prop := fnExactLoadsOfRow.holds Try.pinned (OpenSpec.ofChange fnExactLoadsOfSpec)

/-- ITS FALSE NEIGHBOUR: 'it returns false'. Refute it at one input. -/
def fnExactLoadsOfWrong : ChangeSpec := { name := "fnExactLoadsOf", fn := fun _ => fun
  | [d1, d2, d3] => { results := [.lit (.bool false)], args := [d1, d2, d3] }
  | _ => none }
def FnExactLoadsOfWrongFalsely : Prop := fnExactLoadsOfRow.holds Try.pinned (OpenSpec.ofChange fnExactLoadsOfWrong)

/-- 'laws.FnExactBestDivision': WHATEVER THE INPUT: true; the input reads as it did. -/
def fnExactBestDivisionSpec : ChangeSpec := { name := "fnExactBestDivision", fn := fun _ => fun
  | [d1, d2] => { results := [.lit (.bool true)], args := [d1, d2] }
  | _ => none }
def fnExactBestDivisionRow : OpenClaim := { program := "ytffejbgcgagkpaa", sum := "e99ef6549a4e321602a3e614ecc3b53f7cccce2d1f690b49e1585e5151dc309a", func := "loop.example/g00906/laws.FnExactBestDivision", spec := "fnExactBestDivision", unfollowed := true, recurses := true, apart := false }
def FnExactBestDivisionSaid : Prop := fnExactBestDivisionRow.holds Try.pinned (OpenSpec.ofChange fnExactBestDivisionSpec)

/-- ITS FALSE NEIGHBOUR: 'it returns false'. Refute it at one input. -/
def fnExactBestDivisionWrong : ChangeSpec := { name := "fnExactBestDivision", fn := fun _ => fun
  | [d1, d2] => { results := [.lit (.bool false)], args := [d1, d2] }
  | _ => none }
def FnExactBestDivisionWrongFalsely : Prop := fnExactBestDivisionRow.holds Try.pinned (OpenSpec.ofChange fnExactBestDivisionWrong)

/-- 'laws.FnExactDivisionBound': WHATEVER THE INPUT: true; the input reads as it did. -/
def fnExactDivisionBoundSpec : ChangeSpec := { name := "fnExactDivisionBound", fn := fun _ => fun
  | [d1, d2] => { results := [.lit (.bool true)], args := [d1, d2] }
  | _ => none }
def fnExactDivisionBoundRow : OpenClaim := { program := "ytffejbgcgagkpaa", sum := "e99ef6549a4e321602a3e614ecc3b53f7cccce2d1f690b49e1585e5151dc309a", func := "loop.example/g00906/laws.FnExactDivisionBound", spec := "fnExactDivisionBound", unfollowed := true, recurses := true, apart := false }
def FnExactDivisionBoundSaid : Prop := fnExactDivisionBoundRow.holds Try.pinned (OpenSpec.ofChange fnExactDivisionBoundSpec)

/-- ITS FALSE NEIGHBOUR: 'it returns false'. Refute it at one input. -/
def fnExactDivisionBoundWrong : ChangeSpec := { name := "fnExactDivisionBound", fn := fun _ => fun
  | [d1, d2] => { results := [.lit (.bool false)], args := [d1, d2] }
  | _ => none }
def FnExactDivisionBoundWrongFalsely : Prop := fnExactDivisionBoundRow.holds Try.pinned (OpenSpec.ofChange fnExactDivisionBoundWrong)

/-- 'laws.FnExactScheduleDivision': WHATEVER THE INPUT: true; the input reads as it did. -/
def fnExactScheduleDivisionSpec : ChangeSpec := { name := "fnExactScheduleDivision", fn := fun _ => fun
  | [d1, d2, d3] => { results := [.lit (.bool true)], args := [d1, d2, d3] }
  | _ => none }
def fnExactScheduleDivisionRow : OpenClaim := { program := "ytffejbgcgagkpaa", sum := "e99ef6549a4e321602a3e614ecc3b53f7cccce2d1f690b49e1585e5151dc309a", func := "loop.example/g00906/laws.FnExactScheduleDivision", spec := "fnExactScheduleDivision", unfollowed := true, recurses := true, apart := false }
def FnExactScheduleDivisionSaid : Prop := fnExactScheduleDivisionRow.holds Try.pinned (OpenSpec.ofChange fnExactScheduleDivisionSpec)

/-- ITS FALSE NEIGHBOUR: 'it returns false'. Refute it at one input. -/
def fnExactScheduleDivisionWrong : ChangeSpec := { name := "fnExactScheduleDivision", fn := fun _ => fun
  | [d1, d2, d3] => { results := [.lit (.bool false)], args := [d1, d2, d3] }
  | _ => none }
def FnExactScheduleDivisionWrongFalsely : Prop := fnExactScheduleDivisionRow.holds Try.pinned (OpenSpec.ofChange fnExactScheduleDivisionWrong)

/-- 'laws.FnExactFirstClash': WHATEVER THE INPUT: true; the input reads as it did. -/
def fnExactFirstClashSpec : ChangeSpec := { name := "fnExactFirstClash", fn := fun _ => fun
  | [d] => { results := [.lit (.bool true)], args := [d] }
  | _ => none }
def fnExactFirstClashRow : OpenClaim := { program := "ytffejbgcgagkpaa", sum := "e99ef6549a4e321602a3e614ecc3b53f7cccce2d1f690b49e1585e5151dc309a", func := "loop.example/g00906/laws.FnExactFirstClash", spec := "fnExactFirstClash", unfollowed := true, recurses := true, apart := false }
def FnExactFirstClashSaid : Prop := fnExactFirstClashRow.holds Try.pinned (OpenSpec.ofChange fnExactFirstClashSpec)

/-- ITS FALSE NEIGHBOUR: 'it returns false'. Refute it at one input. -/
def fnExactFirstClashWrong : ChangeSpec := { name := "fnExactFirstClash", fn := fun _ => fun
  | [d] => { results := [.lit (.bool false)], args := [d] }
  | _ => none }
def FnExactFirstClashWrongFalsely : Prop := fnExactFirstClashRow.holds Try.pinned (OpenSpec.ofChange fnExactFirstClashWrong)

/-- 'laws.FnExactCraneTimes': WHATEVER THE INPUT: true; the input reads as it did. -/
def fnExactCraneTimesSpec : ChangeSpec := { name := "fnExactCraneTimes", fn := fun _ => fun
  | [d1, d2] => { results := [.lit (.bool true)], args := [d1, d2] }
  | _ => none }
def fnExactCraneTimesRow : OpenClaim := { program := "ytffejbgcgagkpaa", sum := "e99ef6549a4e321602a3e614ecc3b53f7cccce2d1f690b49e1585e5151dc309a", func := "loop.example/g00906/laws.FnExactCraneTimes", spec := "fnExactCraneTimes", unfollowed := true, recurses := true, apart := false }
def FnExactCraneTimesSaid : Prop := fnExactCraneTimesRow.holds Try.pinned (OpenSpec.ofChange fnExactCraneTimesSpec)

/-- ITS FALSE NEIGHBOUR: 'it returns false'. Refute it at one input. -/
def fnExactCraneTimesWrong : ChangeSpec := { name := "fnExactCraneTimes", fn := fun _ => fun
  | [d1, d2] => { results := [.lit (.bool false)], args := [d1, d2] }
  | _ => none }
def FnExactCraneTimesWrongFalsely : Prop := fnExactCraneTimesRow.holds Try.pinned (OpenSpec.ofChange fnExactCraneTimesWrong)

/-- 'laws.FnExactMoreCranes': WHATEVER THE INPUT: true; the input reads as it did. -/
def fnExactMoreCranesSpec : ChangeSpec := { name := "fnExactMoreCranes", fn := fun _ => fun
  | [d] => { results := [.lit (.bool true)], args := [d] }
  | _ => none }
def fnExactMoreCranesRow : OpenClaim := { program := "ytffejbgcgagkpaa", sum := "e99ef6549a4e321602a3e614ecc3b53f7cccce2d1f690b49e1585e5151dc309a", func := "loop.example/g00906/laws.FnExactMoreCranes", spec := "fnExactMoreCranes", unfollowed := true, recurses := true, apart := false }
def FnExactMoreCranesSaid : Prop := fnExactMoreCranesRow.holds Try.pinned (OpenSpec.ofChange fnExactMoreCranesSpec)

/-- ITS FALSE NEIGHBOUR: 'it returns false'. Refute it at one input. -/
def fnExactMoreCranesWrong : ChangeSpec := { name := "fnExactMoreCranes", fn := fun _ => fun
  | [d] => { results := [.lit (.bool false)], args := [d] }
  | _ => none }
def FnExactMoreCranesWrongFalsely : Prop := fnExactMoreCranesRow.holds Try.pinned (OpenSpec.ofChange fnExactMoreCranesWrong)

/- THE SECOND FORM. 'bulk': how many values and letters a reading holds, each counted each time it is reached (what is shared counts as often as it is met; a slice's spare places count too). A statement '..UptoSaid' is the law's where the arguments, and the package variables that the reading takes, are together of bulk at most 1048576: NARROWER than '..Said'. Prove '..Said' where nothing that the law and all that it calls make is longer than what came in: it says more and counts as full. Else prove '..UptoSaid'. A law counts once. -/
mutual
def uptoBulk {H : Type} : DataW H → Nat
  | .lit (.string bytes) => bytes.length + 1
  | .lit _ => 1
  | .nil => 1
  | .ptr d => uptoBulk d + 1
  | .slice elems spare => uptoBulkAll elems + uptoBulkAll spare + 1
  | .agg parts => uptoBulkAll parts + 1
  | .iface _ d => uptoBulk d + 1
  | .map entries => uptoBulkEntries entries + 1
  | .held _ => 1
def uptoBulkAll {H : Type} : List (DataW H) → Nat
  | [] => 0
  | d :: r => uptoBulk d + uptoBulkAll r
def uptoBulkEntries {H : Type} : List (Lit × DataW H) → Nat
  | [] => 0
  | x :: r => uptoBulkEntry x + uptoBulkEntries r
def uptoBulkEntry {H : Type} : Lit × DataW H → Nat
  | (.string bytes, d) => bytes.length + uptoBulk d + 1
  | (_, d) => uptoBulk d + 1
 end
def uptoSmall : (H : Type) → List (DataW H) → Bool := fun _ ds => decide (uptoBulkAll ds ≤ 1048576)
def OpenSpec.upto (s : _root_.Go.ChangeSpec) : _root_.Go.OpenSpec := { _root_.Go.OpenSpec.ofChange s with cond := some uptoSmall }

/-- 'laws.FnCranes', WHERE WHAT IT READS IS OF BULK AT MOST 1048576: true; the input reads as it did. -/
def fnCranesUptoRow : OpenClaim := { program := "ytffejbgcgagkpaa", sum := "e99ef6549a4e321602a3e614ecc3b53f7cccce2d1f690b49e1585e5151dc309a", func := "loop.example/g00906/laws.FnCranes", spec := "fnCranes", unfollowed := true, recurses := true, apart := false, narrowed := true }
def FnCranesUptoSaid : Prop := fnCranesUptoRow.holds Try.pinned (OpenSpec.upto fnCranesSpec)

/-- 'laws.FnClashes', WHERE WHAT IT READS IS OF BULK AT MOST 1048576: true; the input reads as it did. -/
def fnClashesUptoRow : OpenClaim := { program := "ytffejbgcgagkpaa", sum := "e99ef6549a4e321602a3e614ecc3b53f7cccce2d1f690b49e1585e5151dc309a", func := "loop.example/g00906/laws.FnClashes", spec := "fnClashes", unfollowed := true, recurses := true, apart := false, narrowed := true }
def FnClashesUptoSaid : Prop := fnClashesUptoRow.holds Try.pinned (OpenSpec.upto fnClashesSpec)

/-- 'laws.FnExactLoadsOf', WHERE WHAT IT READS IS OF BULK AT MOST 1048576: true; the input reads as it did. -/
def fnExactLoadsOfUptoRow : OpenClaim := { program := "ytffejbgcgagkpaa", sum := "e99ef6549a4e321602a3e614ecc3b53f7cccce2d1f690b49e1585e5151dc309a", func := "loop.example/g00906/laws.FnExactLoadsOf", spec := "fnExactLoadsOf", unfollowed := true, recurses := true, apart := false, narrowed := true }
def FnExactLoadsOfUptoSaid : Prop := fnExactLoadsOfUptoRow.holds Try.pinned (OpenSpec.upto fnExactLoadsOfSpec)

/-- 'laws.FnExactBestDivision', WHERE WHAT IT READS IS OF BULK AT MOST 1048576: true; the input reads as it did. -/
def fnExactBestDivisionUptoRow : OpenClaim := { program := "ytffejbgcgagkpaa", sum := "e99ef6549a4e321602a3e614ecc3b53f7cccce2d1f690b49e1585e5151dc309a", func := "loop.example/g00906/laws.FnExactBestDivision", spec := "fnExactBestDivision", unfollowed := true, recurses := true, apart := false, narrowed := true }
def FnExactBestDivisionUptoSaid : Prop := fnExactBestDivisionUptoRow.holds Try.pinned (OpenSpec.upto fnExactBestDivisionSpec)

/-- 'laws.FnExactDivisionBound', WHERE WHAT IT READS IS OF BULK AT MOST 1048576: true; the input reads as it did. -/
def fnExactDivisionBoundUptoRow : OpenClaim := { program := "ytffejbgcgagkpaa", sum := "e99ef6549a4e321602a3e614ecc3b53f7cccce2d1f690b49e1585e5151dc309a", func := "loop.example/g00906/laws.FnExactDivisionBound", spec := "fnExactDivisionBound", unfollowed := true, recurses := true, apart := false, narrowed := true }
def FnExactDivisionBoundUptoSaid : Prop := fnExactDivisionBoundUptoRow.holds Try.pinned (OpenSpec.upto fnExactDivisionBoundSpec)

/-- 'laws.FnExactScheduleDivision', WHERE WHAT IT READS IS OF BULK AT MOST 1048576: true; the input reads as it did. -/
def fnExactScheduleDivisionUptoRow : OpenClaim := { program := "ytffejbgcgagkpaa", sum := "e99ef6549a4e321602a3e614ecc3b53f7cccce2d1f690b49e1585e5151dc309a", func := "loop.example/g00906/laws.FnExactScheduleDivision", spec := "fnExactScheduleDivision", unfollowed := true, recurses := true, apart := false, narrowed := true }
def FnExactScheduleDivisionUptoSaid : Prop := fnExactScheduleDivisionUptoRow.holds Try.pinned (OpenSpec.upto fnExactScheduleDivisionSpec)

/-- 'laws.FnExactFirstClash', WHERE WHAT IT READS IS OF BULK AT MOST 1048576: true; the input reads as it did. -/
def fnExactFirstClashUptoRow : OpenClaim := { program := "ytffejbgcgagkpaa", sum := "e99ef6549a4e321602a3e614ecc3b53f7cccce2d1f690b49e1585e5151dc309a", func := "loop.example/g00906/laws.FnExactFirstClash", spec := "fnExactFirstClash", unfollowed := true, recurses := true, apart := false, narrowed := true }
def FnExactFirstClashUptoSaid : Prop := fnExactFirstClashUptoRow.holds Try.pinned (OpenSpec.upto fnExactFirstClashSpec)

/-- 'laws.FnExactCraneTimes', WHERE WHAT IT READS IS OF BULK AT MOST 1048576: true; the input reads as it did. -/
def fnExactCraneTimesUptoRow : OpenClaim := { program := "ytffejbgcgagkpaa", sum := "e99ef6549a4e321602a3e614ecc3b53f7cccce2d1f690b49e1585e5151dc309a", func := "loop.example/g00906/laws.FnExactCraneTimes", spec := "fnExactCraneTimes", unfollowed := true, recurses := true, apart := false, narrowed := true }
def FnExactCraneTimesUptoSaid : Prop := fnExactCraneTimesUptoRow.holds Try.pinned (OpenSpec.upto fnExactCraneTimesSpec)

/-- 'laws.FnExactMoreCranes', WHERE WHAT IT READS IS OF BULK AT MOST 1048576: true; the input reads as it did. -/
def fnExactMoreCranesUptoRow : OpenClaim := { program := "ytffejbgcgagkpaa", sum := "e99ef6549a4e321602a3e614ecc3b53f7cccce2d1f690b49e1585e5151dc309a", func := "loop.example/g00906/laws.FnExactMoreCranes", spec := "fnExactMoreCranes", unfollowed := true, recurses := true, apart := false, narrowed := true }
def FnExactMoreCranesUptoSaid : Prop := fnExactMoreCranesUptoRow.holds Try.pinned (OpenSpec.upto fnExactMoreCranesSpec)

end Rows
end Go.Proofs.Ytffejbgcgagkpaa
