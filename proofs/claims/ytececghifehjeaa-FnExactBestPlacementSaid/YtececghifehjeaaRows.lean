/-
  No cell of these rows narrows 'for every input' (looked for: loops, veiled, ifaces, maps, wideKeys, modest, calm, conditions, laid).
  DERIVED. THE GIVEN ROWS OF THIS SEAT. 11 by the template 'for every input the law returns true; each argument reads behind the call as it read before'; 0 by the template 'total and deterministic' (their statements: YtececghifehjeaaTotals.lean).
  GIVEN WITH THE SEED: the statements are not yours to turn. If you find one false, say at which input.
  Laid BY PROGRAM, IN A SANDBOX (cutbox-rows.mjs): the forced cells as the released guide's own fill.sh prints them over the translation 785fc3dd2350f3cc… (all of the seat's roots in one cut). By AI agents, Wed Nov 11 2026. No macro, syntax, notation, axiom, sorry.
-/
import Derived.Test.YtececghifehjeaaChecked
import GoSem.Claim
import GoSem.ClaimJoined
import GoSem.ClaimMapViews
import Derived.JoinedTies
import Derived.KernelRfl
namespace Go.Proofs.Ytececghifehjeaa
/- THE CELL 'sum', in the pinned program and in every row, IS THE sha256 OF THE DUMP (.gsa) THAT YtececghifehjeaaProg.lean LOADS. Nothing in Lean hashes anything: it is a label: what it is worth is what the hold of that sum in a sandbox is worth. -/
noncomputable def Try.pinned : Pinned := { name := "ytececghifehjeaa", sum := "785fc3dd2350f3cc159e99f3794254da2bed6cd7e3c1a2ff54c93ec841ac8e34", checked := Try.checked }
namespace Rows
def none {H : Type} : Left H := { results := [], args := [] }

/-- 'laws.FnStackMoves': WHATEVER THE INPUT: true; the input reads as it did. -/
def fnStackMovesSpec : ChangeSpec := { name := "fnStackMoves", fn := fun _ => fun
  | [d] => { results := [.lit (.bool true)], args := [d] }
  | _ => none }
def fnStackMovesRow : OpenClaim := { program := "ytececghifehjeaa", sum := "785fc3dd2350f3cc159e99f3794254da2bed6cd7e3c1a2ff54c93ec841ac8e34", func := "loop.example/g00906/laws.FnStackMoves", spec := "fnStackMoves", unfollowed := true, recurses := true, apart := false }
def FnStackMovesSaid : Prop := fnStackMovesRow.holds Try.pinned (OpenSpec.ofChange fnStackMovesSpec)

/-- ITS FALSE NEIGHBOUR: 'it returns false'. Refute it at one input. -/
def fnStackMovesWrong : ChangeSpec := { name := "fnStackMoves", fn := fun _ => fun
  | [d] => { results := [.lit (.bool false)], args := [d] }
  | _ => none }
def FnStackMovesWrongFalsely : Prop := fnStackMovesRow.holds Try.pinned (OpenSpec.ofChange fnStackMovesWrong)

/-- 'laws.FnPlacing': WHATEVER THE INPUT: true; the input reads as it did. -/
def fnPlacingSpec : ChangeSpec := { name := "fnPlacing", fn := fun _ => fun
  | [d] => { results := [.lit (.bool true)], args := [d] }
  | _ => none }
def fnPlacingRow : OpenClaim := { program := "ytececghifehjeaa", sum := "785fc3dd2350f3cc159e99f3794254da2bed6cd7e3c1a2ff54c93ec841ac8e34", func := "loop.example/g00906/laws.FnPlacing", spec := "fnPlacing", recurses := true, apart := false }
def FnPlacingSaid : Prop := fnPlacingRow.holds Try.pinned (OpenSpec.ofChange fnPlacingSpec)

/-- ITS FALSE NEIGHBOUR: 'it returns false'. Refute it at one input. -/
def fnPlacingWrong : ChangeSpec := { name := "fnPlacing", fn := fun _ => fun
  | [d] => { results := [.lit (.bool false)], args := [d] }
  | _ => none }
def FnPlacingWrongFalsely : Prop := fnPlacingRow.holds Try.pinned (OpenSpec.ofChange fnPlacingWrong)

/-- 'laws.FnUnloading': WHATEVER THE INPUT: true; the input reads as it did. -/
def fnUnloadingSpec : ChangeSpec := { name := "fnUnloading", fn := fun _ => fun
  | [d] => { results := [.lit (.bool true)], args := [d] }
  | _ => none }
def fnUnloadingRow : OpenClaim := { program := "ytececghifehjeaa", sum := "785fc3dd2350f3cc159e99f3794254da2bed6cd7e3c1a2ff54c93ec841ac8e34", func := "loop.example/g00906/laws.FnUnloading", spec := "fnUnloading", unfollowed := true, recurses := true, apart := false }
def FnUnloadingSaid : Prop := fnUnloadingRow.holds Try.pinned (OpenSpec.ofChange fnUnloadingSpec)

/-- ITS FALSE NEIGHBOUR: 'it returns false'. Refute it at one input. -/
def fnUnloadingWrong : ChangeSpec := { name := "fnUnloading", fn := fun _ => fun
  | [d] => { results := [.lit (.bool false)], args := [d] }
  | _ => none }
def FnUnloadingWrongFalsely : Prop := fnUnloadingRow.holds Try.pinned (OpenSpec.ofChange fnUnloadingWrong)

/-- 'laws.FnExactBestPlacement': WHATEVER THE INPUT: true; the input reads as it did. -/
def fnExactBestPlacementSpec : ChangeSpec := { name := "fnExactBestPlacement", fn := fun _ => fun
  | [d1, d2] => { results := [.lit (.bool true)], args := [d1, d2] }
  | _ => none }
def fnExactBestPlacementRow : OpenClaim := { program := "ytececghifehjeaa", sum := "785fc3dd2350f3cc159e99f3794254da2bed6cd7e3c1a2ff54c93ec841ac8e34", func := "loop.example/g00906/laws.FnExactBestPlacement", spec := "fnExactBestPlacement", recurses := true, apart := false }
def FnExactBestPlacementSaid : Prop := fnExactBestPlacementRow.holds Try.pinned (OpenSpec.ofChange fnExactBestPlacementSpec)

/-- ITS FALSE NEIGHBOUR: 'it returns false'. Refute it at one input. -/
def fnExactBestPlacementWrong : ChangeSpec := { name := "fnExactBestPlacement", fn := fun _ => fun
  | [d1, d2] => { results := [.lit (.bool false)], args := [d1, d2] }
  | _ => none }
def FnExactBestPlacementWrongFalsely : Prop := fnExactBestPlacementRow.holds Try.pinned (OpenSpec.ofChange fnExactBestPlacementWrong)

/-- 'laws.FnExactIsValidBay': WHATEVER THE INPUT: true; the input reads as it did. -/
def fnExactIsValidBaySpec : ChangeSpec := { name := "fnExactIsValidBay", fn := fun _ => fun
  | [d] => { results := [.lit (.bool true)], args := [d] }
  | _ => none }
def fnExactIsValidBayRow : OpenClaim := { program := "ytececghifehjeaa", sum := "785fc3dd2350f3cc159e99f3794254da2bed6cd7e3c1a2ff54c93ec841ac8e34", func := "loop.example/g00906/laws.FnExactIsValidBay", spec := "fnExactIsValidBay", apart := false }
def FnExactIsValidBaySaid : Prop := fnExactIsValidBayRow.holds Try.pinned (OpenSpec.ofChange fnExactIsValidBaySpec)

/-- ITS FALSE NEIGHBOUR: 'it returns false'. Refute it at one input. -/
def fnExactIsValidBayWrong : ChangeSpec := { name := "fnExactIsValidBay", fn := fun _ => fun
  | [d] => { results := [.lit (.bool false)], args := [d] }
  | _ => none }
def FnExactIsValidBayWrongFalsely : Prop := fnExactIsValidBayRow.holds Try.pinned (OpenSpec.ofChange fnExactIsValidBayWrong)

/-- 'laws.FnExactLoadBox': WHATEVER THE INPUT: true; the input reads as it did. -/
def fnExactLoadBoxSpec : ChangeSpec := { name := "fnExactLoadBox", fn := fun _ => fun
  | [d1, d2, d3] => { results := [.lit (.bool true)], args := [d1, d2, d3] }
  | _ => none }
def fnExactLoadBoxRow : OpenClaim := { program := "ytececghifehjeaa", sum := "785fc3dd2350f3cc159e99f3794254da2bed6cd7e3c1a2ff54c93ec841ac8e34", func := "loop.example/g00906/laws.FnExactLoadBox", spec := "fnExactLoadBox", apart := false }
def FnExactLoadBoxSaid : Prop := fnExactLoadBoxRow.holds Try.pinned (OpenSpec.ofChange fnExactLoadBoxSpec)

/-- ITS FALSE NEIGHBOUR: 'it returns false'. Refute it at one input. -/
def fnExactLoadBoxWrong : ChangeSpec := { name := "fnExactLoadBox", fn := fun _ => fun
  | [d1, d2, d3] => { results := [.lit (.bool false)], args := [d1, d2, d3] }
  | _ => none }
def FnExactLoadBoxWrongFalsely : Prop := fnExactLoadBoxRow.holds Try.pinned (OpenSpec.ofChange fnExactLoadBoxWrong)

/-- 'laws.FnExactUnloadRow': WHATEVER THE INPUT: true; the input reads as it did. -/
def fnExactUnloadRowSpec : ChangeSpec := { name := "fnExactUnloadRow", fn := fun _ => fun
  | [d1, d2] => { results := [.lit (.bool true)], args := [d1, d2] }
  | _ => none }
def fnExactUnloadRowRow : OpenClaim := { program := "ytececghifehjeaa", sum := "785fc3dd2350f3cc159e99f3794254da2bed6cd7e3c1a2ff54c93ec841ac8e34", func := "loop.example/g00906/laws.FnExactUnloadRow", spec := "fnExactUnloadRow", apart := false }
def FnExactUnloadRowSaid : Prop := fnExactUnloadRowRow.holds Try.pinned (OpenSpec.ofChange fnExactUnloadRowSpec)

/-- ITS FALSE NEIGHBOUR: 'it returns false'. Refute it at one input. -/
def fnExactUnloadRowWrong : ChangeSpec := { name := "fnExactUnloadRow", fn := fun _ => fun
  | [d1, d2] => { results := [.lit (.bool false)], args := [d1, d2] }
  | _ => none }
def FnExactUnloadRowWrongFalsely : Prop := fnExactUnloadRowRow.holds Try.pinned (OpenSpec.ofChange fnExactUnloadRowWrong)

/-- 'laws.FnExactSlotOf': WHATEVER THE INPUT: true; the input reads as it did. -/
def fnExactSlotOfSpec : ChangeSpec := { name := "fnExactSlotOf", fn := fun _ => fun
  | [d1, d2] => { results := [.lit (.bool true)], args := [d1, d2] }
  | _ => none }
def fnExactSlotOfRow : OpenClaim := { program := "ytececghifehjeaa", sum := "785fc3dd2350f3cc159e99f3794254da2bed6cd7e3c1a2ff54c93ec841ac8e34", func := "loop.example/g00906/laws.FnExactSlotOf", spec := "fnExactSlotOf", apart := false }
def FnExactSlotOfSaid : Prop := fnExactSlotOfRow.holds Try.pinned (OpenSpec.ofChange fnExactSlotOfSpec)

/-- ITS FALSE NEIGHBOUR: 'it returns false'. Refute it at one input. -/
def fnExactSlotOfWrong : ChangeSpec := { name := "fnExactSlotOf", fn := fun _ => fun
  | [d1, d2] => { results := [.lit (.bool false)], args := [d1, d2] }
  | _ => none }
def FnExactSlotOfWrongFalsely : Prop := fnExactSlotOfRow.holds Try.pinned (OpenSpec.ofChange fnExactSlotOfWrong)

/-- 'laws.FnExactOverstowsOf': WHATEVER THE INPUT: true; the input reads as it did. -/
def fnExactOverstowsOfSpec : ChangeSpec := { name := "fnExactOverstowsOf", fn := fun _ => fun
  | [d1, d2] => { results := [.lit (.bool true)], args := [d1, d2] }
  | _ => none }
def fnExactOverstowsOfRow : OpenClaim := { program := "ytececghifehjeaa", sum := "785fc3dd2350f3cc159e99f3794254da2bed6cd7e3c1a2ff54c93ec841ac8e34", func := "loop.example/g00906/laws.FnExactOverstowsOf", spec := "fnExactOverstowsOf", apart := false }
def FnExactOverstowsOfSaid : Prop := fnExactOverstowsOfRow.holds Try.pinned (OpenSpec.ofChange fnExactOverstowsOfSpec)

/-- ITS FALSE NEIGHBOUR: 'it returns false'. Refute it at one input. -/
def fnExactOverstowsOfWrong : ChangeSpec := { name := "fnExactOverstowsOf", fn := fun _ => fun
  | [d1, d2] => { results := [.lit (.bool false)], args := [d1, d2] }
  | _ => none }
def FnExactOverstowsOfWrongFalsely : Prop := fnExactOverstowsOfRow.holds Try.pinned (OpenSpec.ofChange fnExactOverstowsOfWrong)

/-- 'laws.FnExactClearOrder': WHATEVER THE INPUT: true; the input reads as it did. -/
def fnExactClearOrderSpec : ChangeSpec := { name := "fnExactClearOrder", fn := fun _ => fun
  | [d] => { results := [.lit (.bool true)], args := [d] }
  | _ => none }
def fnExactClearOrderRow : OpenClaim := { program := "ytececghifehjeaa", sum := "785fc3dd2350f3cc159e99f3794254da2bed6cd7e3c1a2ff54c93ec841ac8e34", func := "loop.example/g00906/laws.FnExactClearOrder", spec := "fnExactClearOrder", unfollowed := true, recurses := true, apart := false }
def FnExactClearOrderSaid : Prop := fnExactClearOrderRow.holds Try.pinned (OpenSpec.ofChange fnExactClearOrderSpec)

/-- ITS FALSE NEIGHBOUR: 'it returns false'. Refute it at one input. -/
def fnExactClearOrderWrong : ChangeSpec := { name := "fnExactClearOrder", fn := fun _ => fun
  | [d] => { results := [.lit (.bool false)], args := [d] }
  | _ => none }
def FnExactClearOrderWrongFalsely : Prop := fnExactClearOrderRow.holds Try.pinned (OpenSpec.ofChange fnExactClearOrderWrong)

/-- 'laws.FnExactBayBalance': WHATEVER THE INPUT: true; the input reads as it did. -/
def fnExactBayBalanceSpec : ChangeSpec := { name := "fnExactBayBalance", fn := fun _ => fun
  | [d] => { results := [.lit (.bool true)], args := [d] }
  | _ => none }
def fnExactBayBalanceRow : OpenClaim := { program := "ytececghifehjeaa", sum := "785fc3dd2350f3cc159e99f3794254da2bed6cd7e3c1a2ff54c93ec841ac8e34", func := "loop.example/g00906/laws.FnExactBayBalance", spec := "fnExactBayBalance", apart := false }
def FnExactBayBalanceSaid : Prop := fnExactBayBalanceRow.holds Try.pinned (OpenSpec.ofChange fnExactBayBalanceSpec)

/-- ITS FALSE NEIGHBOUR: 'it returns false'. Refute it at one input. -/
def fnExactBayBalanceWrong : ChangeSpec := { name := "fnExactBayBalance", fn := fun _ => fun
  | [d] => { results := [.lit (.bool false)], args := [d] }
  | _ => none }
def FnExactBayBalanceWrongFalsely : Prop := fnExactBayBalanceRow.holds Try.pinned (OpenSpec.ofChange fnExactBayBalanceWrong)

/- THE SECOND FORM. 'bulk': how many values and letters a reading holds, each counted each time it is reached (what is shared counts as often as it is met; a slice's spare places count too). A statement '..UptoSaid' is the law's where the arguments, and the package variables that the reading takes, are together of bulk at most 1048576: NARROWER than '..Said'. Prove '..Said' where nothing that the law and all that it calls make is longer than what came in: it says more and counts as full. Else prove '..UptoSaid'. A law counts once. -/
mutual
def uptoBulk {H : Type} : DataW H → Nat
  | .lit (.string bytes) => bytes.length + 1
  | .lit _ => 1
  | .nil => 1
  | .ptr d => uptoBulk d + 1
  | .slice elems spare => uptoBulkAll elems + uptoBulkAll spare + 1
  | .agg parts => uptoBulkAll parts + 1
  | .iface _ d => uptoBulk d + 1
  | .map entries => uptoBulkEntries entries + 1
  | .held _ => 1
def uptoBulkAll {H : Type} : List (DataW H) → Nat
  | [] => 0
  | d :: r => uptoBulk d + uptoBulkAll r
def uptoBulkEntries {H : Type} : List (Lit × DataW H) → Nat
  | [] => 0
  | x :: r => uptoBulkEntry x + uptoBulkEntries r
def uptoBulkEntry {H : Type} : Lit × DataW H → Nat
  | (.string bytes, d) => bytes.length + uptoBulk d + 1
  | (_, d) => uptoBulk d + 1
 end
def uptoSmall : (H : Type) → List (DataW H) → Bool := fun _ ds => decide (uptoBulkAll ds ≤ 1048576)
def OpenSpec.upto (s : _root_.Go.ChangeSpec) : _root_.Go.OpenSpec := { _root_.Go.OpenSpec.ofChange s with cond := some uptoSmall }

/-- 'laws.FnStackMoves', WHERE WHAT IT READS IS OF BULK AT MOST 1048576: true; the input reads as it did. -/
def fnStackMovesUptoRow : OpenClaim := { program := "ytececghifehjeaa", sum := "785fc3dd2350f3cc159e99f3794254da2bed6cd7e3c1a2ff54c93ec841ac8e34", func := "loop.example/g00906/laws.FnStackMoves", spec := "fnStackMoves", unfollowed := true, recurses := true, apart := false, narrowed := true }
def FnStackMovesUptoSaid : Prop := fnStackMovesUptoRow.holds Try.pinned (OpenSpec.upto fnStackMovesSpec)

/-- 'laws.FnPlacing', WHERE WHAT IT READS IS OF BULK AT MOST 1048576: true; the input reads as it did. -/
def fnPlacingUptoRow : OpenClaim := { program := "ytececghifehjeaa", sum := "785fc3dd2350f3cc159e99f3794254da2bed6cd7e3c1a2ff54c93ec841ac8e34", func := "loop.example/g00906/laws.FnPlacing", spec := "fnPlacing", recurses := true, apart := false, narrowed := true }
def FnPlacingUptoSaid : Prop := fnPlacingUptoRow.holds Try.pinned (OpenSpec.upto fnPlacingSpec)

/-- 'laws.FnUnloading', WHERE WHAT IT READS IS OF BULK AT MOST 1048576: true; the input reads as it did. -/
def fnUnloadingUptoRow : OpenClaim := { program := "ytececghifehjeaa", sum := "785fc3dd2350f3cc159e99f3794254da2bed6cd7e3c1a2ff54c93ec841ac8e34", func := "loop.example/g00906/laws.FnUnloading", spec := "fnUnloading", unfollowed := true, recurses := true, apart := false, narrowed := true }
def FnUnloadingUptoSaid : Prop := fnUnloadingUptoRow.holds Try.pinned (OpenSpec.upto fnUnloadingSpec)

/-- 'laws.FnExactBestPlacement', WHERE WHAT IT READS IS OF BULK AT MOST 1048576: true; the input reads as it did. -/
def fnExactBestPlacementUptoRow : OpenClaim := { program := "ytececghifehjeaa", sum := "785fc3dd2350f3cc159e99f3794254da2bed6cd7e3c1a2ff54c93ec841ac8e34", func := "loop.example/g00906/laws.FnExactBestPlacement", spec := "fnExactBestPlacement", recurses := true, apart := false, narrowed := true }
def FnExactBestPlacementUptoSaid : Prop := fnExactBestPlacementUptoRow.holds Try.pinned (OpenSpec.upto fnExactBestPlacementSpec)

/-- 'laws.FnExactIsValidBay', WHERE WHAT IT READS IS OF BULK AT MOST 1048576: true; the input reads as it did. -/
def fnExactIsValidBayUptoRow : OpenClaim := { program := "ytececghifehjeaa", sum := "785fc3dd2350f3cc159e99f3794254da2bed6cd7e3c1a2ff54c93ec841ac8e34", func := "loop.example/g00906/laws.FnExactIsValidBay", spec := "fnExactIsValidBay", apart := false, narrowed := true }
def FnExactIsValidBayUptoSaid : Prop := fnExactIsValidBayUptoRow.holds Try.pinned (OpenSpec.upto fnExactIsValidBaySpec)

/-- 'laws.FnExactLoadBox', WHERE WHAT IT READS IS OF BULK AT MOST 1048576: true; the input reads as it did. -/
def fnExactLoadBoxUptoRow : OpenClaim := { program := "ytececghifehjeaa", sum := "785fc3dd2350f3cc159e99f3794254da2bed6cd7e3c1a2ff54c93ec841ac8e34", func := "loop.example/g00906/laws.FnExactLoadBox", spec := "fnExactLoadBox", apart := false, narrowed := true }
def FnExactLoadBoxUptoSaid : Prop := fnExactLoadBoxUptoRow.holds Try.pinned (OpenSpec.upto fnExactLoadBoxSpec)

/-- 'laws.FnExactUnloadRow', WHERE WHAT IT READS IS OF BULK AT MOST 1048576: true; the input reads as it did. -/
def fnExactUnloadRowUptoRow : OpenClaim := { program := "ytececghifehjeaa", sum := "785fc3dd2350f3cc159e99f3794254da2bed6cd7e3c1a2ff54c93ec841ac8e34", func := "loop.example/g00906/laws.FnExactUnloadRow", spec := "fnExactUnloadRow", apart := false, narrowed := true }
def FnExactUnloadRowUptoSaid : Prop := fnExactUnloadRowUptoRow.holds Try.pinned (OpenSpec.upto fnExactUnloadRowSpec)

/-- 'laws.FnExactSlotOf', WHERE WHAT IT READS IS OF BULK AT MOST 1048576: true; the input reads as it did. -/
def fnExactSlotOfUptoRow : OpenClaim := { program := "ytececghifehjeaa", sum := "785fc3dd2350f3cc159e99f3794254da2bed6cd7e3c1a2ff54c93ec841ac8e34", func := "loop.example/g00906/laws.FnExactSlotOf", spec := "fnExactSlotOf", apart := false, narrowed := true }
def FnExactSlotOfUptoSaid : Prop := fnExactSlotOfUptoRow.holds Try.pinned (OpenSpec.upto fnExactSlotOfSpec)

/-- 'laws.FnExactOverstowsOf', WHERE WHAT IT READS IS OF BULK AT MOST 1048576: true; the input reads as it did. -/
def fnExactOverstowsOfUptoRow : OpenClaim := { program := "ytececghifehjeaa", sum := "785fc3dd2350f3cc159e99f3794254da2bed6cd7e3c1a2ff54c93ec841ac8e34", func := "loop.example/g00906/laws.FnExactOverstowsOf", spec := "fnExactOverstowsOf", apart := false, narrowed := true }
def FnExactOverstowsOfUptoSaid : Prop := fnExactOverstowsOfUptoRow.holds Try.pinned (OpenSpec.upto fnExactOverstowsOfSpec)

/-- 'laws.FnExactClearOrder', WHERE WHAT IT READS IS OF BULK AT MOST 1048576: true; the input reads as it did. -/
def fnExactClearOrderUptoRow : OpenClaim := { program := "ytececghifehjeaa", sum := "785fc3dd2350f3cc159e99f3794254da2bed6cd7e3c1a2ff54c93ec841ac8e34", func := "loop.example/g00906/laws.FnExactClearOrder", spec := "fnExactClearOrder", unfollowed := true, recurses := true, apart := false, narrowed := true }
def FnExactClearOrderUptoSaid : Prop := fnExactClearOrderUptoRow.holds Try.pinned (OpenSpec.upto fnExactClearOrderSpec)

/-- 'laws.FnExactBayBalance', WHERE WHAT IT READS IS OF BULK AT MOST 1048576: true; the input reads as it did. -/
def fnExactBayBalanceUptoRow : OpenClaim := { program := "ytececghifehjeaa", sum := "785fc3dd2350f3cc159e99f3794254da2bed6cd7e3c1a2ff54c93ec841ac8e34", func := "loop.example/g00906/laws.FnExactBayBalance", spec := "fnExactBayBalance", apart := false, narrowed := true }
def FnExactBayBalanceUptoSaid : Prop := fnExactBayBalanceUptoRow.holds Try.pinned (OpenSpec.upto fnExactBayBalanceSpec)

end Rows
end Go.Proofs.Ytececghifehjeaa
