/-
  No cell of these rows narrows 'for every input' (looked for: loops, veiled, ifaces, maps, wideKeys, modest, calm, conditions, laid).
  DERIVED. THE GIVEN ROWS OF THIS SEAT. 8 by the template 'for every input the law returns true; each argument reads behind the call as it read before'; 0 by the template 'total and deterministic' (their statements: YthokmklnldoinaaTotals.lean).
  GIVEN WITH THE SEED: the statements are not yours to turn. If you find one false, say at which input.
  Laid BY PROGRAM, IN A SANDBOX (cutbox-rows.mjs): the forced cells as the released guide's own fill.sh prints them over the translation 85f75a74dd9ddc98… (all of the seat's roots in one cut). By AI agents, Wed Nov 11 2026. No macro, syntax, notation, axiom, sorry.
-/
import Derived.Test.YthokmklnldoinaaChecked
import GoSem.Claim
import GoSem.ClaimJoined
import GoSem.ClaimMapViews
import Derived.JoinedTies
import Derived.KernelRfl
namespace Go.Proofs.Ythokmklnldoinaa
/- THE CELL 'sum', in the pinned program and in every row, IS THE sha256 OF THE DUMP (.gsa) THAT YthokmklnldoinaaProg.lean LOADS. Nothing in Lean hashes anything: it is a label: what it is worth is what the hold of that sum in a sandbox is worth. -/
noncomputable def Try.pinned : Pinned := { name := "ythokmklnldoinaa", sum := "85f75a74dd9ddc98f09bb3fe3647864518a551a7d9d6adf65306f785a8661145", checked := Try.checked }
namespace Rows
def none {H : Type} : Left H := { results := [], args := [] }

/-- 'laws.FnBadlyPlaced': WHATEVER THE INPUT: true; the input reads as it did. -/
def fnBadlyPlacedSpec : ChangeSpec := { name := "fnBadlyPlaced", fn := fun _ => fun
  | [d] => { results := [.lit (.bool true)], args := [d] }
  | _ => none }
def fnBadlyPlacedRow : OpenClaim := { program := "ythokmklnldoinaa", sum := "85f75a74dd9ddc98f09bb3fe3647864518a551a7d9d6adf65306f785a8661145", func := "loop.example/g00906/laws.FnBadlyPlaced", spec := "fnBadlyPlaced", recurses := true, apart := false }
def FnBadlyPlacedSaid : Prop := fnBadlyPlacedRow.holds Try.pinned (OpenSpec.ofChange fnBadlyPlacedSpec)

/-- ITS FALSE NEIGHBOUR: 'it returns false'. Refute it at one input. -/
def fnBadlyPlacedWrong : ChangeSpec := { name := "fnBadlyPlaced", fn := fun _ => fun
  | [d] => { results := [.lit (.bool false)], args := [d] }
  | _ => none }
def FnBadlyPlacedWrongFalsely : Prop := fnBadlyPlacedRow.holds Try.pinned (OpenSpec.ofChange fnBadlyPlacedWrong)

/-- 'laws.FnExactBadlyPlaced': WHATEVER THE INPUT: true; the input reads as it did. -/
def fnExactBadlyPlacedSpec : ChangeSpec := { name := "fnExactBadlyPlaced", fn := fun _ => fun
  | [d] => { results := [.lit (.bool true)], args := [d] }
  | _ => none }
def fnExactBadlyPlacedRow : OpenClaim := { program := "ythokmklnldoinaa", sum := "85f75a74dd9ddc98f09bb3fe3647864518a551a7d9d6adf65306f785a8661145", func := "loop.example/g00906/laws.FnExactBadlyPlaced", spec := "fnExactBadlyPlaced", recurses := true, apart := false }
def FnExactBadlyPlacedSaid : Prop := fnExactBadlyPlacedRow.holds Try.pinned (OpenSpec.ofChange fnExactBadlyPlacedSpec)

/-- ITS FALSE NEIGHBOUR: 'it returns false'. Refute it at one input. -/
def fnExactBadlyPlacedWrong : ChangeSpec := { name := "fnExactBadlyPlaced", fn := fun _ => fun
  | [d] => { results := [.lit (.bool false)], args := [d] }
  | _ => none }
def FnExactBadlyPlacedWrongFalsely : Prop := fnExactBadlyPlacedRow.holds Try.pinned (OpenSpec.ofChange fnExactBadlyPlacedWrong)

/-- 'laws.FnExactEarliestOf': WHATEVER THE INPUT: true; the input reads as it did. -/
def fnExactEarliestOfSpec : ChangeSpec := { name := "fnExactEarliestOf", fn := fun _ => fun
  | [d1, d2] => { results := [.lit (.bool true)], args := [d1, d2] }
  | _ => none }
def fnExactEarliestOfRow : OpenClaim := { program := "ythokmklnldoinaa", sum := "85f75a74dd9ddc98f09bb3fe3647864518a551a7d9d6adf65306f785a8661145", func := "loop.example/g00906/laws.FnExactEarliestOf", spec := "fnExactEarliestOf", apart := false }
def FnExactEarliestOfSaid : Prop := fnExactEarliestOfRow.holds Try.pinned (OpenSpec.ofChange fnExactEarliestOfSpec)

/-- ITS FALSE NEIGHBOUR: 'it returns false'. Refute it at one input. -/
def fnExactEarliestOfWrong : ChangeSpec := { name := "fnExactEarliestOf", fn := fun _ => fun
  | [d1, d2] => { results := [.lit (.bool false)], args := [d1, d2] }
  | _ => none }
def FnExactEarliestOfWrongFalsely : Prop := fnExactEarliestOfRow.holds Try.pinned (OpenSpec.ofChange fnExactEarliestOfWrong)

/-- 'laws.FnExactChooseStack': WHATEVER THE INPUT: true; the input reads as it did. -/
def fnExactChooseStackSpec : ChangeSpec := { name := "fnExactChooseStack", fn := fun _ => fun
  | [d1, d2] => { results := [.lit (.bool true)], args := [d1, d2] }
  | _ => none }
def fnExactChooseStackRow : OpenClaim := { program := "ythokmklnldoinaa", sum := "85f75a74dd9ddc98f09bb3fe3647864518a551a7d9d6adf65306f785a8661145", func := "loop.example/g00906/laws.FnExactChooseStack", spec := "fnExactChooseStack", apart := false }
def FnExactChooseStackSaid : Prop := fnExactChooseStackRow.holds Try.pinned (OpenSpec.ofChange fnExactChooseStackSpec)

/-- ITS FALSE NEIGHBOUR: 'it returns false'. Refute it at one input. -/
def fnExactChooseStackWrong : ChangeSpec := { name := "fnExactChooseStack", fn := fun _ => fun
  | [d1, d2] => { results := [.lit (.bool false)], args := [d1, d2] }
  | _ => none }
def FnExactChooseStackWrongFalsely : Prop := fnExactChooseStackRow.holds Try.pinned (OpenSpec.ofChange fnExactChooseStackWrong)

/-- 'laws.FnExactPlaceAll': WHATEVER THE INPUT: true; the input reads as it did. -/
def fnExactPlaceAllSpec : ChangeSpec := { name := "fnExactPlaceAll", fn := fun _ => fun
  | [d1, d2] => { results := [.lit (.bool true)], args := [d1, d2] }
  | _ => none }
def fnExactPlaceAllRow : OpenClaim := { program := "ythokmklnldoinaa", sum := "85f75a74dd9ddc98f09bb3fe3647864518a551a7d9d6adf65306f785a8661145", func := "loop.example/g00906/laws.FnExactPlaceAll", spec := "fnExactPlaceAll", apart := false }
def FnExactPlaceAllSaid : Prop := fnExactPlaceAllRow.holds Try.pinned (OpenSpec.ofChange fnExactPlaceAllSpec)

/-- ITS FALSE NEIGHBOUR: 'it returns false'. Refute it at one input. -/
def fnExactPlaceAllWrong : ChangeSpec := { name := "fnExactPlaceAll", fn := fun _ => fun
  | [d1, d2] => { results := [.lit (.bool false)], args := [d1, d2] }
  | _ => none }
def FnExactPlaceAllWrongFalsely : Prop := fnExactPlaceAllRow.holds Try.pinned (OpenSpec.ofChange fnExactPlaceAllWrong)

/-- 'laws.FnExactApplyPlacement': WHATEVER THE INPUT: true; the input reads as it did. -/
def fnExactApplyPlacementSpec : ChangeSpec := { name := "fnExactApplyPlacement", fn := fun _ => fun
  | [d1, d2, d3] => { results := [.lit (.bool true)], args := [d1, d2, d3] }
  | _ => none }
def fnExactApplyPlacementRow : OpenClaim := { program := "ythokmklnldoinaa", sum := "85f75a74dd9ddc98f09bb3fe3647864518a551a7d9d6adf65306f785a8661145", func := "loop.example/g00906/laws.FnExactApplyPlacement", spec := "fnExactApplyPlacement", apart := false }
def FnExactApplyPlacementSaid : Prop := fnExactApplyPlacementRow.holds Try.pinned (OpenSpec.ofChange fnExactApplyPlacementSpec)

/-- ITS FALSE NEIGHBOUR: 'it returns false'. Refute it at one input. -/
def fnExactApplyPlacementWrong : ChangeSpec := { name := "fnExactApplyPlacement", fn := fun _ => fun
  | [d1, d2, d3] => { results := [.lit (.bool false)], args := [d1, d2, d3] }
  | _ => none }
def FnExactApplyPlacementWrongFalsely : Prop := fnExactApplyPlacementRow.holds Try.pinned (OpenSpec.ofChange fnExactApplyPlacementWrong)

/-- 'laws.FnExactWorstBox': WHATEVER THE INPUT: true; the input reads as it did. -/
def fnExactWorstBoxSpec : ChangeSpec := { name := "fnExactWorstBox", fn := fun _ => fun
  | [d] => { results := [.lit (.bool true)], args := [d] }
  | _ => none }
def fnExactWorstBoxRow : OpenClaim := { program := "ythokmklnldoinaa", sum := "85f75a74dd9ddc98f09bb3fe3647864518a551a7d9d6adf65306f785a8661145", func := "loop.example/g00906/laws.FnExactWorstBox", spec := "fnExactWorstBox", recurses := true, apart := false }
def FnExactWorstBoxSaid : Prop := fnExactWorstBoxRow.holds Try.pinned (OpenSpec.ofChange fnExactWorstBoxSpec)

/-- ITS FALSE NEIGHBOUR: 'it returns false'. Refute it at one input. -/
def fnExactWorstBoxWrong : ChangeSpec := { name := "fnExactWorstBox", fn := fun _ => fun
  | [d] => { results := [.lit (.bool false)], args := [d] }
  | _ => none }
def FnExactWorstBoxWrongFalsely : Prop := fnExactWorstBoxRow.holds Try.pinned (OpenSpec.ofChange fnExactWorstBoxWrong)

/-- 'laws.FnExactSortedStacks': WHATEVER THE INPUT: true; the input reads as it did. -/
def fnExactSortedStacksSpec : ChangeSpec := { name := "fnExactSortedStacks", fn := fun _ => fun
  | [d] => { results := [.lit (.bool true)], args := [d] }
  | _ => none }
def fnExactSortedStacksRow : OpenClaim := { program := "ythokmklnldoinaa", sum := "85f75a74dd9ddc98f09bb3fe3647864518a551a7d9d6adf65306f785a8661145", func := "loop.example/g00906/laws.FnExactSortedStacks", spec := "fnExactSortedStacks", apart := false }
def FnExactSortedStacksSaid : Prop := fnExactSortedStacksRow.holds Try.pinned (OpenSpec.ofChange fnExactSortedStacksSpec)

/-- ITS FALSE NEIGHBOUR: 'it returns false'. Refute it at one input. -/
def fnExactSortedStacksWrong : ChangeSpec := { name := "fnExactSortedStacks", fn := fun _ => fun
  | [d] => { results := [.lit (.bool false)], args := [d] }
  | _ => none }
def FnExactSortedStacksWrongFalsely : Prop := fnExactSortedStacksRow.holds Try.pinned (OpenSpec.ofChange fnExactSortedStacksWrong)

/- THE SECOND FORM. 'bulk': how many values and letters a reading holds, each counted each time it is reached (what is shared counts as often as it is met; a slice's spare places count too). A statement '..UptoSaid' is the law's where the arguments, and the package variables that the reading takes, are together of bulk at most 1048576: NARROWER than '..Said'. Prove '..Said' where nothing that the law and all that it calls make is longer than what came in: it says more and counts as full. Else prove '..UptoSaid'. A law counts once. -/
mutual
def uptoBulk {H : Type} : DataW H → Nat
  | .lit (.string bytes) => bytes.length + 1
  | .lit _ => 1
  | .nil => 1
  | .ptr d => uptoBulk d + 1
  | .slice elems spare => uptoBulkAll elems + uptoBulkAll spare + 1
  | .agg parts => uptoBulkAll parts + 1
  | .iface _ d => uptoBulk d + 1
  | .map entries => uptoBulkEntries entries + 1
  | .held _ => 1
def uptoBulkAll {H : Type} : List (DataW H) → Nat
  | [] => 0
  | d :: r => uptoBulk d + uptoBulkAll r
def uptoBulkEntries {H : Type} : List (Lit × DataW H) → Nat
  | [] => 0
  | x :: r => uptoBulkEntry x + uptoBulkEntries r
def uptoBulkEntry {H : Type} : Lit × DataW H → Nat
  | (.string bytes, d) => bytes.length + uptoBulk d + 1
  | (_, d) => uptoBulk d + 1
 end
def uptoSmall : (H : Type) → List (DataW H) → Bool := fun _ ds => decide (uptoBulkAll ds ≤ 1048576)
def OpenSpec.upto (s : _root_.Go.ChangeSpec) : _root_.Go.OpenSpec := { _root_.Go.OpenSpec.ofChange s with cond := some uptoSmall }

/-- 'laws.FnBadlyPlaced', WHERE WHAT IT READS IS OF BULK AT MOST 1048576: true; the input reads as it did. -/
def fnBadlyPlacedUptoRow : OpenClaim := { program := "ythokmklnldoinaa", sum := "85f75a74dd9ddc98f09bb3fe3647864518a551a7d9d6adf65306f785a8661145", func := "loop.example/g00906/laws.FnBadlyPlaced", spec := "fnBadlyPlaced", recurses := true, apart := false, narrowed := true }
def FnBadlyPlacedUptoSaid : Prop := fnBadlyPlacedUptoRow.holds Try.pinned (OpenSpec.upto fnBadlyPlacedSpec)

/-- 'laws.FnExactBadlyPlaced', WHERE WHAT IT READS IS OF BULK AT MOST 1048576: true; the input reads as it did. -/
def fnExactBadlyPlacedUptoRow : OpenClaim := { program := "ythokmklnldoinaa", sum := "85f75a74dd9ddc98f09bb3fe3647864518a551a7d9d6adf65306f785a8661145", func := "loop.example/g00906/laws.FnExactBadlyPlaced", spec := "fnExactBadlyPlaced", recurses := true, apart := false, narrowed := true }
def FnExactBadlyPlacedUptoSaid : Prop := fnExactBadlyPlacedUptoRow.holds Try.pinned (OpenSpec.upto fnExactBadlyPlacedSpec)

/-- 'laws.FnExactEarliestOf', WHERE WHAT IT READS IS OF BULK AT MOST 1048576: true; the input reads as it did. -/
def fnExactEarliestOfUptoRow : OpenClaim := { program := "ythokmklnldoinaa", sum := "85f75a74dd9ddc98f09bb3fe3647864518a551a7d9d6adf65306f785a8661145", func := "loop.example/g00906/laws.FnExactEarliestOf", spec := "fnExactEarliestOf", apart := false, narrowed := true }
def FnExactEarliestOfUptoSaid : Prop := fnExactEarliestOfUptoRow.holds Try.pinned (OpenSpec.upto fnExactEarliestOfSpec)

/-- 'laws.FnExactChooseStack', WHERE WHAT IT READS IS OF BULK AT MOST 1048576: true; the input reads as it did. -/
def fnExactChooseStackUptoRow : OpenClaim := { program := "ythokmklnldoinaa", sum := "85f75a74dd9ddc98f09bb3fe3647864518a551a7d9d6adf65306f785a8661145", func := "loop.example/g00906/laws.FnExactChooseStack", spec := "fnExactChooseStack", apart := false, narrowed := true }
def FnExactChooseStackUptoSaid : Prop := fnExactChooseStackUptoRow.holds Try.pinned (OpenSpec.upto fnExactChooseStackSpec)

/-- 'laws.FnExactPlaceAll', WHERE WHAT IT READS IS OF BULK AT MOST 1048576: true; the input reads as it did. -/
def fnExactPlaceAllUptoRow : OpenClaim := { program := "ythokmklnldoinaa", sum := "85f75a74dd9ddc98f09bb3fe3647864518a551a7d9d6adf65306f785a8661145", func := "loop.example/g00906/laws.FnExactPlaceAll", spec := "fnExactPlaceAll", apart := false, narrowed := true }
def FnExactPlaceAllUptoSaid : Prop := fnExactPlaceAllUptoRow.holds Try.pinned (OpenSpec.upto fnExactPlaceAllSpec)

/-- 'laws.FnExactApplyPlacement', WHERE WHAT IT READS IS OF BULK AT MOST 1048576: true; the input reads as it did. -/
def fnExactApplyPlacementUptoRow : OpenClaim := { program := "ythokmklnldoinaa", sum := "85f75a74dd9ddc98f09bb3fe3647864518a551a7d9d6adf65306f785a8661145", func := "loop.example/g00906/laws.FnExactApplyPlacement", spec := "fnExactApplyPlacement", apart := false, narrowed := true }
def FnExactApplyPlacementUptoSaid : Prop := fnExactApplyPlacementUptoRow.holds Try.pinned (OpenSpec.upto fnExactApplyPlacementSpec)

/-- 'laws.FnExactWorstBox', WHERE WHAT IT READS IS OF BULK AT MOST 1048576: true; the input reads as it did. -/
def fnExactWorstBoxUptoRow : OpenClaim := { program := "ythokmklnldoinaa", sum := "85f75a74dd9ddc98f09bb3fe3647864518a551a7d9d6adf65306f785a8661145", func := "loop.example/g00906/laws.FnExactWorstBox", spec := "fnExactWorstBox", recurses := true, apart := false, narrowed := true }
def FnExactWorstBoxUptoSaid : Prop := fnExactWorstBoxUptoRow.holds Try.pinned (OpenSpec.upto fnExactWorstBoxSpec)

/-- 'laws.FnExactSortedStacks', WHERE WHAT IT READS IS OF BULK AT MOST 1048576: true; the input reads as it did. -/
def fnExactSortedStacksUptoRow : OpenClaim := { program := "ythokmklnldoinaa", sum := "85f75a74dd9ddc98f09bb3fe3647864518a551a7d9d6adf65306f785a8661145", func := "loop.example/g00906/laws.FnExactSortedStacks", spec := "fnExactSortedStacks", apart := false, narrowed := true }
def FnExactSortedStacksUptoSaid : Prop := fnExactSortedStacksUptoRow.holds Try.pinned (OpenSpec.upto fnExactSortedStacksSpec)

end Rows
end Go.Proofs.Ythokmklnldoinaa
