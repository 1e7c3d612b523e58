/-
  No cell of these rows narrows 'for every input' (looked for: loops, veiled, ifaces, maps, wideKeys, modest, calm, conditions, laid).
  DERIVED. THE GIVEN ROWS OF THIS SEAT. 13 by the template 'for every input the law returns true; each argument reads behind the call as it read before'; 0 by the template 'total and deterministic' (their statements: YtpljcpeghjplnaaTotals.lean).
  GIVEN WITH THE SEED: the statements are not yours to turn. If you find one false, say at which input.
  Laid BY PROGRAM, IN A SANDBOX (cutbox-rows.mjs): the forced cells as the released guide's own fill.sh prints them over the translation c9cf494ecd37d9fa… (all of the seat's roots in one cut). By AI agents, Wed Nov 11 2026. No macro, syntax, notation, axiom, sorry.
-/
import Derived.Test.YtpljcpeghjplnaaChecked
import GoSem.Claim
import GoSem.ClaimJoined
import GoSem.ClaimMapViews
import Derived.JoinedTies
import Derived.KernelRfl
namespace Go.Proofs.Ytpljcpeghjplnaa
/- THE CELL 'sum', in the pinned program and in every row, IS THE sha256 OF THE DUMP (.gsa) THAT YtpljcpeghjplnaaProg.lean LOADS. Nothing in Lean hashes anything: it is a label: what it is worth is what the hold of that sum in a sandbox is worth. -/
noncomputable def Try.pinned : Pinned := { name := "ytpljcpeghjplnaa", sum := "c9cf494ecd37d9fa943418b7941c86edc92953fd44c178302be7edc69378ed46", checked := Try.checked }
namespace Rows
def none {H : Type} : Left H := { results := [], args := [] }

/-- 'laws.FnBerths': WHATEVER THE INPUT: true; the input reads as it did. -/
def fnBerthsSpec : ChangeSpec := { name := "fnBerths", fn := fun _ => fun
  | [d] => { results := [.lit (.bool true)], args := [d] }
  | _ => none }
def fnBerthsRow : OpenClaim := { program := "ytpljcpeghjplnaa", sum := "c9cf494ecd37d9fa943418b7941c86edc92953fd44c178302be7edc69378ed46", func := "loop.example/g00906/laws.FnBerths", spec := "fnBerths", unfollowed := true, recurses := true, apart := false }
def FnBerthsSaid : Prop := fnBerthsRow.holds Try.pinned (OpenSpec.ofChange fnBerthsSpec)

/-- ITS FALSE NEIGHBOUR: 'it returns false'. Refute it at one input. -/
def fnBerthsWrong : ChangeSpec := { name := "fnBerths", fn := fun _ => fun
  | [d] => { results := [.lit (.bool false)], args := [d] }
  | _ => none }
def FnBerthsWrongFalsely : Prop := fnBerthsRow.holds Try.pinned (OpenSpec.ofChange fnBerthsWrong)

/-- 'laws.FnQuay': WHATEVER THE INPUT: true; the input reads as it did. -/
def fnQuaySpec : ChangeSpec := { name := "fnQuay", fn := fun _ => fun
  | [d] => { results := [.lit (.bool true)], args := [d] }
  | _ => none }
def fnQuayRow : OpenClaim := { program := "ytpljcpeghjplnaa", sum := "c9cf494ecd37d9fa943418b7941c86edc92953fd44c178302be7edc69378ed46", func := "loop.example/g00906/laws.FnQuay", spec := "fnQuay", unfollowed := true, recurses := true, apart := false }
def FnQuaySaid : Prop := fnQuayRow.holds Try.pinned (OpenSpec.ofChange fnQuaySpec)

/-- ITS FALSE NEIGHBOUR: 'it returns false'. Refute it at one input. -/
def fnQuayWrong : ChangeSpec := { name := "fnQuay", fn := fun _ => fun
  | [d] => { results := [.lit (.bool false)], args := [d] }
  | _ => none }
def FnQuayWrongFalsely : Prop := fnQuayRow.holds Try.pinned (OpenSpec.ofChange fnQuayWrong)

/-- 'laws.FnExactIsPossiblePlan': WHATEVER THE INPUT: true; the input reads as it did. -/
def fnExactIsPossiblePlanSpec : ChangeSpec := { name := "fnExactIsPossiblePlan", fn := fun _ => fun
  | [d1, d2, d3] => { results := [.lit (.bool true)], args := [d1, d2, d3] }
  | _ => none }
def fnExactIsPossiblePlanRow : OpenClaim := { program := "ytpljcpeghjplnaa", sum := "c9cf494ecd37d9fa943418b7941c86edc92953fd44c178302be7edc69378ed46", func := "loop.example/g00906/laws.FnExactIsPossiblePlan", spec := "fnExactIsPossiblePlan", unfollowed := true, recurses := true, apart := false }
def FnExactIsPossiblePlanSaid : Prop := fnExactIsPossiblePlanRow.holds Try.pinned (OpenSpec.ofChange fnExactIsPossiblePlanSpec)

/-- ITS FALSE NEIGHBOUR: 'it returns false'. Refute it at one input. -/
def fnExactIsPossiblePlanWrong : ChangeSpec := { name := "fnExactIsPossiblePlan", fn := fun _ => fun
  | [d1, d2, d3] => { results := [.lit (.bool false)], args := [d1, d2, d3] }
  | _ => none }
def FnExactIsPossiblePlanWrongFalsely : Prop := fnExactIsPossiblePlanRow.holds Try.pinned (OpenSpec.ofChange fnExactIsPossiblePlanWrong)

/-- 'laws.FnExactPlanCost': WHATEVER THE INPUT: true; the input reads as it did. -/
def fnExactPlanCostSpec : ChangeSpec := { name := "fnExactPlanCost", fn := fun _ => fun
  | [d1, d2, d3] => { results := [.lit (.bool true)], args := [d1, d2, d3] }
  | _ => none }
def fnExactPlanCostRow : OpenClaim := { program := "ytpljcpeghjplnaa", sum := "c9cf494ecd37d9fa943418b7941c86edc92953fd44c178302be7edc69378ed46", func := "loop.example/g00906/laws.FnExactPlanCost", spec := "fnExactPlanCost", unfollowed := true, recurses := true, apart := false }
def FnExactPlanCostSaid : Prop := fnExactPlanCostRow.holds Try.pinned (OpenSpec.ofChange fnExactPlanCostSpec)

/-- ITS FALSE NEIGHBOUR: 'it returns false'. Refute it at one input. -/
def fnExactPlanCostWrong : ChangeSpec := { name := "fnExactPlanCost", fn := fun _ => fun
  | [d1, d2, d3] => { results := [.lit (.bool false)], args := [d1, d2, d3] }
  | _ => none }
def FnExactPlanCostWrongFalsely : Prop := fnExactPlanCostRow.holds Try.pinned (OpenSpec.ofChange fnExactPlanCostWrong)

/-- 'laws.FnExactNextBerth': WHATEVER THE INPUT: true; the input reads as it did. -/
def fnExactNextBerthSpec : ChangeSpec := { name := "fnExactNextBerth", fn := fun _ => fun
  | [d1, d2, d3] => { results := [.lit (.bool true)], args := [d1, d2, d3] }
  | _ => none }
def fnExactNextBerthRow : OpenClaim := { program := "ytpljcpeghjplnaa", sum := "c9cf494ecd37d9fa943418b7941c86edc92953fd44c178302be7edc69378ed46", func := "loop.example/g00906/laws.FnExactNextBerth", spec := "fnExactNextBerth", unfollowed := true, recurses := true, apart := false }
def FnExactNextBerthSaid : Prop := fnExactNextBerthRow.holds Try.pinned (OpenSpec.ofChange fnExactNextBerthSpec)

/-- ITS FALSE NEIGHBOUR: 'it returns false'. Refute it at one input. -/
def fnExactNextBerthWrong : ChangeSpec := { name := "fnExactNextBerth", fn := fun _ => fun
  | [d1, d2, d3] => { results := [.lit (.bool false)], args := [d1, d2, d3] }
  | _ => none }
def FnExactNextBerthWrongFalsely : Prop := fnExactNextBerthRow.holds Try.pinned (OpenSpec.ofChange fnExactNextBerthWrong)

/-- 'laws.FnExactPlanInOrder': WHATEVER THE INPUT: true; the input reads as it did. -/
def fnExactPlanInOrderSpec : ChangeSpec := { name := "fnExactPlanInOrder", fn := fun _ => fun
  | [d1, d2, d3] => { results := [.lit (.bool true)], args := [d1, d2, d3] }
  | _ => none }
def fnExactPlanInOrderRow : OpenClaim := { program := "ytpljcpeghjplnaa", sum := "c9cf494ecd37d9fa943418b7941c86edc92953fd44c178302be7edc69378ed46", func := "loop.example/g00906/laws.FnExactPlanInOrder", spec := "fnExactPlanInOrder", unfollowed := true, recurses := true, apart := false }
def FnExactPlanInOrderSaid : Prop := fnExactPlanInOrderRow.holds Try.pinned (OpenSpec.ofChange fnExactPlanInOrderSpec)

/-- ITS FALSE NEIGHBOUR: 'it returns false'. Refute it at one input. -/
def fnExactPlanInOrderWrong : ChangeSpec := { name := "fnExactPlanInOrder", fn := fun _ => fun
  | [d1, d2, d3] => { results := [.lit (.bool false)], args := [d1, d2, d3] }
  | _ => none }
def FnExactPlanInOrderWrongFalsely : Prop := fnExactPlanInOrderRow.holds Try.pinned (OpenSpec.ofChange fnExactPlanInOrderWrong)

/-- 'laws.FnExactBestOrder': WHATEVER THE INPUT: true; the input reads as it did. -/
def fnExactBestOrderSpec : ChangeSpec := { name := "fnExactBestOrder", fn := fun _ => fun
  | [d1, d2] => { results := [.lit (.bool true)], args := [d1, d2] }
  | _ => none }
def fnExactBestOrderRow : OpenClaim := { program := "ytpljcpeghjplnaa", sum := "c9cf494ecd37d9fa943418b7941c86edc92953fd44c178302be7edc69378ed46", func := "loop.example/g00906/laws.FnExactBestOrder", spec := "fnExactBestOrder", unfollowed := true, recurses := true, apart := false }
def FnExactBestOrderSaid : Prop := fnExactBestOrderRow.holds Try.pinned (OpenSpec.ofChange fnExactBestOrderSpec)

/-- ITS FALSE NEIGHBOUR: 'it returns false'. Refute it at one input. -/
def fnExactBestOrderWrong : ChangeSpec := { name := "fnExactBestOrder", fn := fun _ => fun
  | [d1, d2] => { results := [.lit (.bool false)], args := [d1, d2] }
  | _ => none }
def FnExactBestOrderWrongFalsely : Prop := fnExactBestOrderRow.holds Try.pinned (OpenSpec.ofChange fnExactBestOrderWrong)

/-- 'laws.FnExactQuayUse': WHATEVER THE INPUT: true; the input reads as it did. -/
def fnExactQuayUseSpec : ChangeSpec := { name := "fnExactQuayUse", fn := fun _ => fun
  | [d1, d2, d3, d4] => { results := [.lit (.bool true)], args := [d1, d2, d3, d4] }
  | _ => none }
def fnExactQuayUseRow : OpenClaim := { program := "ytpljcpeghjplnaa", sum := "c9cf494ecd37d9fa943418b7941c86edc92953fd44c178302be7edc69378ed46", func := "loop.example/g00906/laws.FnExactQuayUse", spec := "fnExactQuayUse", unfollowed := true, recurses := true, apart := false }
def FnExactQuayUseSaid : Prop := fnExactQuayUseRow.holds Try.pinned (OpenSpec.ofChange fnExactQuayUseSpec)

/-- ITS FALSE NEIGHBOUR: 'it returns false'. Refute it at one input. -/
def fnExactQuayUseWrong : ChangeSpec := { name := "fnExactQuayUse", fn := fun _ => fun
  | [d1, d2, d3, d4] => { results := [.lit (.bool false)], args := [d1, d2, d3, d4] }
  | _ => none }
def FnExactQuayUseWrongFalsely : Prop := fnExactQuayUseRow.holds Try.pinned (OpenSpec.ofChange fnExactQuayUseWrong)

/-- 'laws.FnExactLastHour': WHATEVER THE INPUT: true; the input reads as it did. -/
def fnExactLastHourSpec : ChangeSpec := { name := "fnExactLastHour", fn := fun _ => fun
  | [d1, d2, d3] => { results := [.lit (.bool true)], args := [d1, d2, d3] }
  | _ => none }
def fnExactLastHourRow : OpenClaim := { program := "ytpljcpeghjplnaa", sum := "c9cf494ecd37d9fa943418b7941c86edc92953fd44c178302be7edc69378ed46", func := "loop.example/g00906/laws.FnExactLastHour", spec := "fnExactLastHour", unfollowed := true, recurses := true, apart := false }
def FnExactLastHourSaid : Prop := fnExactLastHourRow.holds Try.pinned (OpenSpec.ofChange fnExactLastHourSpec)

/-- ITS FALSE NEIGHBOUR: 'it returns false'. Refute it at one input. -/
def fnExactLastHourWrong : ChangeSpec := { name := "fnExactLastHour", fn := fun _ => fun
  | [d1, d2, d3] => { results := [.lit (.bool false)], args := [d1, d2, d3] }
  | _ => none }
def FnExactLastHourWrongFalsely : Prop := fnExactLastHourRow.holds Try.pinned (OpenSpec.ofChange fnExactLastHourWrong)

/-- 'laws.FnExactWaitOf': WHATEVER THE INPUT: true; the input reads as it did. -/
def fnExactWaitOfSpec : ChangeSpec := { name := "fnExactWaitOf", fn := fun _ => fun
  | [d1, d2, d3] => { results := [.lit (.bool true)], args := [d1, d2, d3] }
  | _ => none }
def fnExactWaitOfRow : OpenClaim := { program := "ytpljcpeghjplnaa", sum := "c9cf494ecd37d9fa943418b7941c86edc92953fd44c178302be7edc69378ed46", func := "loop.example/g00906/laws.FnExactWaitOf", spec := "fnExactWaitOf", unfollowed := true, recurses := true, apart := false }
def FnExactWaitOfSaid : Prop := fnExactWaitOfRow.holds Try.pinned (OpenSpec.ofChange fnExactWaitOfSpec)

/-- ITS FALSE NEIGHBOUR: 'it returns false'. Refute it at one input. -/
def fnExactWaitOfWrong : ChangeSpec := { name := "fnExactWaitOf", fn := fun _ => fun
  | [d1, d2, d3] => { results := [.lit (.bool false)], args := [d1, d2, d3] }
  | _ => none }
def FnExactWaitOfWrongFalsely : Prop := fnExactWaitOfRow.holds Try.pinned (OpenSpec.ofChange fnExactWaitOfWrong)

/-- 'laws.FnExactFirstClash': WHATEVER THE INPUT: true; the input reads as it did. -/
def fnExactFirstClashSpec : ChangeSpec := { name := "fnExactFirstClash", fn := fun _ => fun
  | [d] => { results := [.lit (.bool true)], args := [d] }
  | _ => none }
def fnExactFirstClashRow : OpenClaim := { program := "ytpljcpeghjplnaa", sum := "c9cf494ecd37d9fa943418b7941c86edc92953fd44c178302be7edc69378ed46", func := "loop.example/g00906/laws.FnExactFirstClash", spec := "fnExactFirstClash", unfollowed := true, recurses := true, apart := false }
def FnExactFirstClashSaid : Prop := fnExactFirstClashRow.holds Try.pinned (OpenSpec.ofChange fnExactFirstClashSpec)

/-- ITS FALSE NEIGHBOUR: 'it returns false'. Refute it at one input. -/
def fnExactFirstClashWrong : ChangeSpec := { name := "fnExactFirstClash", fn := fun _ => fun
  | [d] => { results := [.lit (.bool false)], args := [d] }
  | _ => none }
def FnExactFirstClashWrongFalsely : Prop := fnExactFirstClashRow.holds Try.pinned (OpenSpec.ofChange fnExactFirstClashWrong)

/-- 'laws.FnExactBestDivision': WHATEVER THE INPUT: true; the input reads as it did. -/
def fnExactBestDivisionSpec : ChangeSpec := { name := "fnExactBestDivision", fn := fun _ => fun
  | [d1, d2] => { results := [.lit (.bool true)], args := [d1, d2] }
  | _ => none }
def fnExactBestDivisionRow : OpenClaim := { program := "ytpljcpeghjplnaa", sum := "c9cf494ecd37d9fa943418b7941c86edc92953fd44c178302be7edc69378ed46", func := "loop.example/g00906/laws.FnExactBestDivision", spec := "fnExactBestDivision", unfollowed := true, recurses := true, apart := false }
def FnExactBestDivisionSaid : Prop := fnExactBestDivisionRow.holds Try.pinned (OpenSpec.ofChange fnExactBestDivisionSpec)

/-- ITS FALSE NEIGHBOUR: 'it returns false'. Refute it at one input. -/
def fnExactBestDivisionWrong : ChangeSpec := { name := "fnExactBestDivision", fn := fun _ => fun
  | [d1, d2] => { results := [.lit (.bool false)], args := [d1, d2] }
  | _ => none }
def FnExactBestDivisionWrongFalsely : Prop := fnExactBestDivisionRow.holds Try.pinned (OpenSpec.ofChange fnExactBestDivisionWrong)

/-- 'laws.FnExactMoreCranes': WHATEVER THE INPUT: true; the input reads as it did. -/
def fnExactMoreCranesSpec : ChangeSpec := { name := "fnExactMoreCranes", fn := fun _ => fun
  | [d] => { results := [.lit (.bool true)], args := [d] }
  | _ => none }
def fnExactMoreCranesRow : OpenClaim := { program := "ytpljcpeghjplnaa", sum := "c9cf494ecd37d9fa943418b7941c86edc92953fd44c178302be7edc69378ed46", func := "loop.example/g00906/laws.FnExactMoreCranes", spec := "fnExactMoreCranes", unfollowed := true, recurses := true, apart := false }
def FnExactMoreCranesSaid : Prop := fnExactMoreCranesRow.holds Try.pinned (OpenSpec.ofChange fnExactMoreCranesSpec)

/-- ITS FALSE NEIGHBOUR: 'it returns false'. Refute it at one input. -/
def fnExactMoreCranesWrong : ChangeSpec := { name := "fnExactMoreCranes", fn := fun _ => fun
  | [d] => { results := [.lit (.bool false)], args := [d] }
  | _ => none }
def FnExactMoreCranesWrongFalsely : Prop := fnExactMoreCranesRow.holds Try.pinned (OpenSpec.ofChange fnExactMoreCranesWrong)

/- THE SECOND FORM. 'bulk': how many values and letters a reading holds, each counted each time it is reached (what is shared counts as often as it is met; a slice's spare places count too). A statement '..UptoSaid' is the law's where the arguments, and the package variables that the reading takes, are together of bulk at most 1048576: NARROWER than '..Said'. Prove '..Said' where nothing that the law and all that it calls make is longer than what came in: it says more and counts as full. Else prove '..UptoSaid'. A law counts once. -/
mutual
def uptoBulk {H : Type} : DataW H → Nat
  | .lit (.string bytes) => bytes.length + 1
  | .lit _ => 1
  | .nil => 1
  | .ptr d => uptoBulk d + 1
  | .slice elems spare => uptoBulkAll elems + uptoBulkAll spare + 1
  | .agg parts => uptoBulkAll parts + 1
  | .iface _ d => uptoBulk d + 1
  | .map entries => uptoBulkEntries entries + 1
  | .held _ => 1
def uptoBulkAll {H : Type} : List (DataW H) → Nat
  | [] => 0
  | d :: r => uptoBulk d + uptoBulkAll r
def uptoBulkEntries {H : Type} : List (Lit × DataW H) → Nat
  | [] => 0
  | x :: r => uptoBulkEntry x + uptoBulkEntries r
def uptoBulkEntry {H : Type} : Lit × DataW H → Nat
  | (.string bytes, d) => bytes.length + uptoBulk d + 1
  | (_, d) => uptoBulk d + 1
 end
def uptoSmall : (H : Type) → List (DataW H) → Bool := fun _ ds => decide (uptoBulkAll ds ≤ 1048576)
def OpenSpec.upto (s : _root_.Go.ChangeSpec) : _root_.Go.OpenSpec := { _root_.Go.OpenSpec.ofChange s with cond := some uptoSmall }

/-- 'laws.FnBerths', WHERE WHAT IT READS IS OF BULK AT MOST 1048576: true; the input reads as it did. -/
def fnBerthsUptoRow : OpenClaim := { program := "ytpljcpeghjplnaa", sum := "c9cf494ecd37d9fa943418b7941c86edc92953fd44c178302be7edc69378ed46", func := "loop.example/g00906/laws.FnBerths", spec := "fnBerths", unfollowed := true, recurses := true, apart := false, narrowed := true }
def FnBerthsUptoSaid : Prop := fnBerthsUptoRow.holds Try.pinned (OpenSpec.upto fnBerthsSpec)

/-- 'laws.FnQuay', WHERE WHAT IT READS IS OF BULK AT MOST 1048576: true; the input reads as it did. -/
def fnQuayUptoRow : OpenClaim := { program := "ytpljcpeghjplnaa", sum := "c9cf494ecd37d9fa943418b7941c86edc92953fd44c178302be7edc69378ed46", func := "loop.example/g00906/laws.FnQuay", spec := "fnQuay", unfollowed := true, recurses := true, apart := false, narrowed := true }
def FnQuayUptoSaid : Prop := fnQuayUptoRow.holds Try.pinned (OpenSpec.upto fnQuaySpec)

/-- 'laws.FnExactIsPossiblePlan', WHERE WHAT IT READS IS OF BULK AT MOST 1048576: true; the input reads as it did. -/
def fnExactIsPossiblePlanUptoRow : OpenClaim := { program := "ytpljcpeghjplnaa", sum := "c9cf494ecd37d9fa943418b7941c86edc92953fd44c178302be7edc69378ed46", func := "loop.example/g00906/laws.FnExactIsPossiblePlan", spec := "fnExactIsPossiblePlan", unfollowed := true, recurses := true, apart := false, narrowed := true }
def FnExactIsPossiblePlanUptoSaid : Prop := fnExactIsPossiblePlanUptoRow.holds Try.pinned (OpenSpec.upto fnExactIsPossiblePlanSpec)

/-- 'laws.FnExactPlanCost', WHERE WHAT IT READS IS OF BULK AT MOST 1048576: true; the input reads as it did. -/
def fnExactPlanCostUptoRow : OpenClaim := { program := "ytpljcpeghjplnaa", sum := "c9cf494ecd37d9fa943418b7941c86edc92953fd44c178302be7edc69378ed46", func := "loop.example/g00906/laws.FnExactPlanCost", spec := "fnExactPlanCost", unfollowed := true, recurses := true, apart := false, narrowed := true }
def FnExactPlanCostUptoSaid : Prop := fnExactPlanCostUptoRow.holds Try.pinned (OpenSpec.upto fnExactPlanCostSpec)

/-- 'laws.FnExactNextBerth', WHERE WHAT IT READS IS OF BULK AT MOST 1048576: true; the input reads as it did. -/
def fnExactNextBerthUptoRow : OpenClaim := { program := "ytpljcpeghjplnaa", sum := "c9cf494ecd37d9fa943418b7941c86edc92953fd44c178302be7edc69378ed46", func := "loop.example/g00906/laws.FnExactNextBerth", spec := "fnExactNextBerth", unfollowed := true, recurses := true, apart := false, narrowed := true }
def FnExactNextBerthUptoSaid : Prop := fnExactNextBerthUptoRow.holds Try.pinned (OpenSpec.upto fnExactNextBerthSpec)

/-- 'laws.FnExactPlanInOrder', WHERE WHAT IT READS IS OF BULK AT MOST 1048576: true; the input reads as it did. -/
def fnExactPlanInOrderUptoRow : OpenClaim := { program := "ytpljcpeghjplnaa", sum := "c9cf494ecd37d9fa943418b7941c86edc92953fd44c178302be7edc69378ed46", func := "loop.example/g00906/laws.FnExactPlanInOrder", spec := "fnExactPlanInOrder", unfollowed := true, recurses := true, apart := false, narrowed := true }
def FnExactPlanInOrderUptoSaid : Prop := fnExactPlanInOrderUptoRow.holds Try.pinned (OpenSpec.upto fnExactPlanInOrderSpec)

/-- 'laws.FnExactBestOrder', WHERE WHAT IT READS IS OF BULK AT MOST 1048576: true; the input reads as it did. -/
def fnExactBestOrderUptoRow : OpenClaim := { program := "ytpljcpeghjplnaa", sum := "c9cf494ecd37d9fa943418b7941c86edc92953fd44c178302be7edc69378ed46", func := "loop.example/g00906/laws.FnExactBestOrder", spec := "fnExactBestOrder", unfollowed := true, recurses := true, apart := false, narrowed := true }
def FnExactBestOrderUptoSaid : Prop := fnExactBestOrderUptoRow.holds Try.pinned (OpenSpec.upto fnExactBestOrderSpec)

/-- 'laws.FnExactQuayUse', WHERE WHAT IT READS IS OF BULK AT MOST 1048576: true; the input reads as it did. -/
def fnExactQuayUseUptoRow : OpenClaim := { program := "ytpljcpeghjplnaa", sum := "c9cf494ecd37d9fa943418b7941c86edc92953fd44c178302be7edc69378ed46", func := "loop.example/g00906/laws.FnExactQuayUse", spec := "fnExactQuayUse", unfollowed := true, recurses := true, apart := false, narrowed := true }
def FnExactQuayUseUptoSaid : Prop := fnExactQuayUseUptoRow.holds Try.pinned (OpenSpec.upto fnExactQuayUseSpec)

/-- 'laws.FnExactLastHour', WHERE WHAT IT READS IS OF BULK AT MOST 1048576: true; the input reads as it did. -/
def fnExactLastHourUptoRow : OpenClaim := { program := "ytpljcpeghjplnaa", sum := "c9cf494ecd37d9fa943418b7941c86edc92953fd44c178302be7edc69378ed46", func := "loop.example/g00906/laws.FnExactLastHour", spec := "fnExactLastHour", unfollowed := true, recurses := true, apart := false, narrowed := true }
def FnExactLastHourUptoSaid : Prop := fnExactLastHourUptoRow.holds Try.pinned (OpenSpec.upto fnExactLastHourSpec)

/-- 'laws.FnExactWaitOf', WHERE WHAT IT READS IS OF BULK AT MOST 1048576: true; the input reads as it did. -/
def fnExactWaitOfUptoRow : OpenClaim := { program := "ytpljcpeghjplnaa", sum := "c9cf494ecd37d9fa943418b7941c86edc92953fd44c178302be7edc69378ed46", func := "loop.example/g00906/laws.FnExactWaitOf", spec := "fnExactWaitOf", unfollowed := true, recurses := true, apart := false, narrowed := true }
def FnExactWaitOfUptoSaid : Prop := fnExactWaitOfUptoRow.holds Try.pinned (OpenSpec.upto fnExactWaitOfSpec)

/-- 'laws.FnExactFirstClash', WHERE WHAT IT READS IS OF BULK AT MOST 1048576: true; the input reads as it did. -/
def fnExactFirstClashUptoRow : OpenClaim := { program := "ytpljcpeghjplnaa", sum := "c9cf494ecd37d9fa943418b7941c86edc92953fd44c178302be7edc69378ed46", func := "loop.example/g00906/laws.FnExactFirstClash", spec := "fnExactFirstClash", unfollowed := true, recurses := true, apart := false, narrowed := true }
def FnExactFirstClashUptoSaid : Prop := fnExactFirstClashUptoRow.holds Try.pinned (OpenSpec.upto fnExactFirstClashSpec)

/-- 'laws.FnExactBestDivision', WHERE WHAT IT READS IS OF BULK AT MOST 1048576: true; the input reads as it did. -/
def fnExactBestDivisionUptoRow : OpenClaim := { program := "ytpljcpeghjplnaa", sum := "c9cf494ecd37d9fa943418b7941c86edc92953fd44c178302be7edc69378ed46", func := "loop.example/g00906/laws.FnExactBestDivision", spec := "fnExactBestDivision", unfollowed := true, recurses := true, apart := false, narrowed := true }
def FnExactBestDivisionUptoSaid : Prop := fnExactBestDivisionUptoRow.holds Try.pinned (OpenSpec.upto fnExactBestDivisionSpec)

/-- 'laws.FnExactMoreCranes', WHERE WHAT IT READS IS OF BULK AT MOST 1048576: true; the input reads as it did. -/
def fnExactMoreCranesUptoRow : OpenClaim := { program := "ytpljcpeghjplnaa", sum := "c9cf494ecd37d9fa943418b7941c86edc92953fd44c178302be7edc69378ed46", func := "loop.example/g00906/laws.FnExactMoreCranes", spec := "fnExactMoreCranes", unfollowed := true, recurses := true, apart := false, narrowed := true }
def FnExactMoreCranesUptoSaid : Prop := fnExactMoreCranesUptoRow.holds Try.pinned (OpenSpec.upto fnExactMoreCranesSpec)

end Rows
end Go.Proofs.Ytpljcpeghjplnaa
