/-
  No cell of these rows narrows 'for every input' (looked for: loops, veiled, ifaces, maps, wideKeys, modest, calm, conditions, laid).
  DERIVED. THE GIVEN ROWS OF THIS SEAT. 12 by the template 'for every input the law returns true; each argument reads behind the call as it read before'; 0 by the template 'total and deterministic' (their statements: YtndafdjllbhbfaaTotals.lean).
  GIVEN WITH THE SEED: the statements are not yours to turn. If you find one false, say at which input.
  Laid BY PROGRAM, IN A SANDBOX (cutbox-rows.mjs): the forced cells as the released guide's own fill.sh prints them over the translation 552e1c3c4a5b1b37… (all of the seat's roots in one cut). By AI agents, Wed Nov 11 2026. No macro, syntax, notation, axiom, sorry.
-/
import Derived.Test.YtndafdjllbhbfaaChecked
import GoSem.Claim
import GoSem.ClaimJoined
import GoSem.ClaimMapViews
import Derived.JoinedTies
import Derived.KernelRfl
namespace Go.Proofs.Ytndafdjllbhbfaa
/- THE CELL 'sum', in the pinned program and in every row, IS THE sha256 OF THE DUMP (.gsa) THAT YtndafdjllbhbfaaProg.lean LOADS. Nothing in Lean hashes anything: it is a label: what it is worth is what the hold of that sum in a sandbox is worth. -/
noncomputable def Try.pinned : Pinned := { name := "ytndafdjllbhbfaa", sum := "552e1c3c4a5b1b377cf1af08c05c852071709530bbdf58ad6b764cdecfaa9512", checked := Try.checked }
namespace Rows
def none {H : Type} : Left H := { results := [], args := [] }

/-- 'laws.FnCenters': WHATEVER THE INPUT: true; the input reads as it did. -/
def fnCentersSpec : ChangeSpec := { name := "fnCenters", fn := fun _ => fun
  | [d] => { results := [.lit (.bool true)], args := [d] }
  | _ => none }
def fnCentersRow : OpenClaim := { program := "ytndafdjllbhbfaa", sum := "552e1c3c4a5b1b377cf1af08c05c852071709530bbdf58ad6b764cdecfaa9512", func := "loop.example/g00906/laws.FnCenters", spec := "fnCenters", unfollowed := true, recurses := true, apart := false }
def FnCentersSaid : Prop := fnCentersRow.holds Try.pinned (OpenSpec.ofChange fnCentersSpec)

/-- ITS FALSE NEIGHBOUR: 'it returns false'. Refute it at one input. -/
def fnCentersWrong : ChangeSpec := { name := "fnCenters", fn := fun _ => fun
  | [d] => { results := [.lit (.bool false)], args := [d] }
  | _ => none }
def FnCentersWrongFalsely : Prop := fnCentersRow.holds Try.pinned (OpenSpec.ofChange fnCentersWrong)

/-- 'laws.FnBallast': WHATEVER THE INPUT: true; the input reads as it did. -/
def fnBallastSpec : ChangeSpec := { name := "fnBallast", fn := fun _ => fun
  | [d] => { results := [.lit (.bool true)], args := [d] }
  | _ => none }
def fnBallastRow : OpenClaim := { program := "ytndafdjllbhbfaa", sum := "552e1c3c4a5b1b377cf1af08c05c852071709530bbdf58ad6b764cdecfaa9512", func := "loop.example/g00906/laws.FnBallast", spec := "fnBallast", unfollowed := true, recurses := true, apart := false }
def FnBallastSaid : Prop := fnBallastRow.holds Try.pinned (OpenSpec.ofChange fnBallastSpec)

/-- ITS FALSE NEIGHBOUR: 'it returns false'. Refute it at one input. -/
def fnBallastWrong : ChangeSpec := { name := "fnBallast", fn := fun _ => fun
  | [d] => { results := [.lit (.bool false)], args := [d] }
  | _ => none }
def FnBallastWrongFalsely : Prop := fnBallastRow.holds Try.pinned (OpenSpec.ofChange fnBallastWrong)

/-- 'laws.FnExactIsValidLoads': WHATEVER THE INPUT: true; the input reads as it did. -/
def fnExactIsValidLoadsSpec : ChangeSpec := { name := "fnExactIsValidLoads", fn := fun _ => fun
  | [d] => { results := [.lit (.bool true)], args := [d] }
  | _ => none }
def fnExactIsValidLoadsRow : OpenClaim := { program := "ytndafdjllbhbfaa", sum := "552e1c3c4a5b1b377cf1af08c05c852071709530bbdf58ad6b764cdecfaa9512", func := "loop.example/g00906/laws.FnExactIsValidLoads", spec := "fnExactIsValidLoads", unfollowed := true, recurses := true, apart := false }
def FnExactIsValidLoadsSaid : Prop := fnExactIsValidLoadsRow.holds Try.pinned (OpenSpec.ofChange fnExactIsValidLoadsSpec)

/-- ITS FALSE NEIGHBOUR: 'it returns false'. Refute it at one input. -/
def fnExactIsValidLoadsWrong : ChangeSpec := { name := "fnExactIsValidLoads", fn := fun _ => fun
  | [d] => { results := [.lit (.bool false)], args := [d] }
  | _ => none }
def FnExactIsValidLoadsWrongFalsely : Prop := fnExactIsValidLoadsRow.holds Try.pinned (OpenSpec.ofChange fnExactIsValidLoadsWrong)

/-- 'laws.FnExactLoadMoments': WHATEVER THE INPUT: true; the input reads as it did. -/
def fnExactLoadMomentsSpec : ChangeSpec := { name := "fnExactLoadMoments", fn := fun _ => fun
  | [d] => { results := [.lit (.bool true)], args := [d] }
  | _ => none }
def fnExactLoadMomentsRow : OpenClaim := { program := "ytndafdjllbhbfaa", sum := "552e1c3c4a5b1b377cf1af08c05c852071709530bbdf58ad6b764cdecfaa9512", func := "loop.example/g00906/laws.FnExactLoadMoments", spec := "fnExactLoadMoments", unfollowed := true, recurses := true, apart := false }
def FnExactLoadMomentsSaid : Prop := fnExactLoadMomentsRow.holds Try.pinned (OpenSpec.ofChange fnExactLoadMomentsSpec)

/-- ITS FALSE NEIGHBOUR: 'it returns false'. Refute it at one input. -/
def fnExactLoadMomentsWrong : ChangeSpec := { name := "fnExactLoadMoments", fn := fun _ => fun
  | [d] => { results := [.lit (.bool false)], args := [d] }
  | _ => none }
def FnExactLoadMomentsWrongFalsely : Prop := fnExactLoadMomentsRow.holds Try.pinned (OpenSpec.ofChange fnExactLoadMomentsWrong)

/-- 'laws.FnExactCenterAcross': WHATEVER THE INPUT: true; the input reads as it did. -/
def fnExactCenterAcrossSpec : ChangeSpec := { name := "fnExactCenterAcross", fn := fun _ => fun
  | [d] => { results := [.lit (.bool true)], args := [d] }
  | _ => none }
def fnExactCenterAcrossRow : OpenClaim := { program := "ytndafdjllbhbfaa", sum := "552e1c3c4a5b1b377cf1af08c05c852071709530bbdf58ad6b764cdecfaa9512", func := "loop.example/g00906/laws.FnExactCenterAcross", spec := "fnExactCenterAcross", unfollowed := true, recurses := true, apart := false }
def FnExactCenterAcrossSaid : Prop := fnExactCenterAcrossRow.holds Try.pinned (OpenSpec.ofChange fnExactCenterAcrossSpec)

/-- ITS FALSE NEIGHBOUR: 'it returns false'. Refute it at one input. -/
def fnExactCenterAcrossWrong : ChangeSpec := { name := "fnExactCenterAcross", fn := fun _ => fun
  | [d] => { results := [.lit (.bool false)], args := [d] }
  | _ => none }
def FnExactCenterAcrossWrongFalsely : Prop := fnExactCenterAcrossRow.holds Try.pinned (OpenSpec.ofChange fnExactCenterAcrossWrong)

/-- 'laws.FnExactCenterHeight': WHATEVER THE INPUT: true; the input reads as it did. -/
def fnExactCenterHeightSpec : ChangeSpec := { name := "fnExactCenterHeight", fn := fun _ => fun
  | [d1, d2, d3] => { results := [.lit (.bool true)], args := [d1, d2, d3] }
  | _ => none }
def fnExactCenterHeightRow : OpenClaim := { program := "ytndafdjllbhbfaa", sum := "552e1c3c4a5b1b377cf1af08c05c852071709530bbdf58ad6b764cdecfaa9512", func := "loop.example/g00906/laws.FnExactCenterHeight", spec := "fnExactCenterHeight", unfollowed := true, recurses := true, apart := false }
def FnExactCenterHeightSaid : Prop := fnExactCenterHeightRow.holds Try.pinned (OpenSpec.ofChange fnExactCenterHeightSpec)

/-- ITS FALSE NEIGHBOUR: 'it returns false'. Refute it at one input. -/
def fnExactCenterHeightWrong : ChangeSpec := { name := "fnExactCenterHeight", fn := fun _ => fun
  | [d1, d2, d3] => { results := [.lit (.bool false)], args := [d1, d2, d3] }
  | _ => none }
def FnExactCenterHeightWrongFalsely : Prop := fnExactCenterHeightRow.holds Try.pinned (OpenSpec.ofChange fnExactCenterHeightWrong)

/-- 'laws.FnExactStabilityMargin': WHATEVER THE INPUT: true; the input reads as it did. -/
def fnExactStabilityMarginSpec : ChangeSpec := { name := "fnExactStabilityMargin", fn := fun _ => fun
  | [d1, d2, d3, d4] => { results := [.lit (.bool true)], args := [d1, d2, d3, d4] }
  | _ => none }
def fnExactStabilityMarginRow : OpenClaim := { program := "ytndafdjllbhbfaa", sum := "552e1c3c4a5b1b377cf1af08c05c852071709530bbdf58ad6b764cdecfaa9512", func := "loop.example/g00906/laws.FnExactStabilityMargin", spec := "fnExactStabilityMargin", unfollowed := true, recurses := true, apart := false }
def FnExactStabilityMarginSaid : Prop := fnExactStabilityMarginRow.holds Try.pinned (OpenSpec.ofChange fnExactStabilityMarginSpec)

/-- ITS FALSE NEIGHBOUR: 'it returns false'. Refute it at one input. -/
def fnExactStabilityMarginWrong : ChangeSpec := { name := "fnExactStabilityMargin", fn := fun _ => fun
  | [d1, d2, d3, d4] => { results := [.lit (.bool false)], args := [d1, d2, d3, d4] }
  | _ => none }
def FnExactStabilityMarginWrongFalsely : Prop := fnExactStabilityMarginRow.holds Try.pinned (OpenSpec.ofChange fnExactStabilityMarginWrong)

/-- 'laws.FnExactBallastFor': WHATEVER THE INPUT: true; the input reads as it did. -/
def fnExactBallastForSpec : ChangeSpec := { name := "fnExactBallastFor", fn := fun _ => fun
  | [d1, d2, d3] => { results := [.lit (.bool true)], args := [d1, d2, d3] }
  | _ => none }
def fnExactBallastForRow : OpenClaim := { program := "ytndafdjllbhbfaa", sum := "552e1c3c4a5b1b377cf1af08c05c852071709530bbdf58ad6b764cdecfaa9512", func := "loop.example/g00906/laws.FnExactBallastFor", spec := "fnExactBallastFor", unfollowed := true, recurses := true, apart := false }
def FnExactBallastForSaid : Prop := fnExactBallastForRow.holds Try.pinned (OpenSpec.ofChange fnExactBallastForSpec)

/-- ITS FALSE NEIGHBOUR: 'it returns false'. Refute it at one input. -/
def fnExactBallastForWrong : ChangeSpec := { name := "fnExactBallastFor", fn := fun _ => fun
  | [d1, d2, d3] => { results := [.lit (.bool false)], args := [d1, d2, d3] }
  | _ => none }
def FnExactBallastForWrongFalsely : Prop := fnExactBallastForRow.holds Try.pinned (OpenSpec.ofChange fnExactBallastForWrong)

/-- 'laws.FnExactBestSwap': WHATEVER THE INPUT: true; the input reads as it did. -/
def fnExactBestSwapSpec : ChangeSpec := { name := "fnExactBestSwap", fn := fun _ => fun
  | [d] => { results := [.lit (.bool true)], args := [d] }
  | _ => none }
def fnExactBestSwapRow : OpenClaim := { program := "ytndafdjllbhbfaa", sum := "552e1c3c4a5b1b377cf1af08c05c852071709530bbdf58ad6b764cdecfaa9512", func := "loop.example/g00906/laws.FnExactBestSwap", spec := "fnExactBestSwap", unfollowed := true, recurses := true, apart := false }
def FnExactBestSwapSaid : Prop := fnExactBestSwapRow.holds Try.pinned (OpenSpec.ofChange fnExactBestSwapSpec)

/-- ITS FALSE NEIGHBOUR: 'it returns false'. Refute it at one input. -/
def fnExactBestSwapWrong : ChangeSpec := { name := "fnExactBestSwap", fn := fun _ => fun
  | [d] => { results := [.lit (.bool false)], args := [d] }
  | _ => none }
def FnExactBestSwapWrongFalsely : Prop := fnExactBestSwapRow.holds Try.pinned (OpenSpec.ofChange fnExactBestSwapWrong)

/-- 'laws.FnExactMirrorLoads': WHATEVER THE INPUT: true; the input reads as it did. -/
def fnExactMirrorLoadsSpec : ChangeSpec := { name := "fnExactMirrorLoads", fn := fun _ => fun
  | [d] => { results := [.lit (.bool true)], args := [d] }
  | _ => none }
def fnExactMirrorLoadsRow : OpenClaim := { program := "ytndafdjllbhbfaa", sum := "552e1c3c4a5b1b377cf1af08c05c852071709530bbdf58ad6b764cdecfaa9512", func := "loop.example/g00906/laws.FnExactMirrorLoads", spec := "fnExactMirrorLoads", unfollowed := true, recurses := true, apart := false }
def FnExactMirrorLoadsSaid : Prop := fnExactMirrorLoadsRow.holds Try.pinned (OpenSpec.ofChange fnExactMirrorLoadsSpec)

/-- ITS FALSE NEIGHBOUR: 'it returns false'. Refute it at one input. -/
def fnExactMirrorLoadsWrong : ChangeSpec := { name := "fnExactMirrorLoads", fn := fun _ => fun
  | [d] => { results := [.lit (.bool false)], args := [d] }
  | _ => none }
def FnExactMirrorLoadsWrongFalsely : Prop := fnExactMirrorLoadsRow.holds Try.pinned (OpenSpec.ofChange fnExactMirrorLoadsWrong)

/-- 'laws.FnExactWeightAbove': WHATEVER THE INPUT: true; the input reads as it did. -/
def fnExactWeightAboveSpec : ChangeSpec := { name := "fnExactWeightAbove", fn := fun _ => fun
  | [d1, d2] => { results := [.lit (.bool true)], args := [d1, d2] }
  | _ => none }
def fnExactWeightAboveRow : OpenClaim := { program := "ytndafdjllbhbfaa", sum := "552e1c3c4a5b1b377cf1af08c05c852071709530bbdf58ad6b764cdecfaa9512", func := "loop.example/g00906/laws.FnExactWeightAbove", spec := "fnExactWeightAbove", unfollowed := true, recurses := true, apart := false }
def FnExactWeightAboveSaid : Prop := fnExactWeightAboveRow.holds Try.pinned (OpenSpec.ofChange fnExactWeightAboveSpec)

/-- ITS FALSE NEIGHBOUR: 'it returns false'. Refute it at one input. -/
def fnExactWeightAboveWrong : ChangeSpec := { name := "fnExactWeightAbove", fn := fun _ => fun
  | [d1, d2] => { results := [.lit (.bool false)], args := [d1, d2] }
  | _ => none }
def FnExactWeightAboveWrongFalsely : Prop := fnExactWeightAboveRow.holds Try.pinned (OpenSpec.ofChange fnExactWeightAboveWrong)

/-- 'laws.FnExactIsUpright': WHATEVER THE INPUT: true; the input reads as it did. -/
def fnExactIsUprightSpec : ChangeSpec := { name := "fnExactIsUpright", fn := fun _ => fun
  | [d1, d2] => { results := [.lit (.bool true)], args := [d1, d2] }
  | _ => none }
def fnExactIsUprightRow : OpenClaim := { program := "ytndafdjllbhbfaa", sum := "552e1c3c4a5b1b377cf1af08c05c852071709530bbdf58ad6b764cdecfaa9512", func := "loop.example/g00906/laws.FnExactIsUpright", spec := "fnExactIsUpright", unfollowed := true, recurses := true, apart := false }
def FnExactIsUprightSaid : Prop := fnExactIsUprightRow.holds Try.pinned (OpenSpec.ofChange fnExactIsUprightSpec)

/-- ITS FALSE NEIGHBOUR: 'it returns false'. Refute it at one input. -/
def fnExactIsUprightWrong : ChangeSpec := { name := "fnExactIsUpright", fn := fun _ => fun
  | [d1, d2] => { results := [.lit (.bool false)], args := [d1, d2] }
  | _ => none }
def FnExactIsUprightWrongFalsely : Prop := fnExactIsUprightRow.holds Try.pinned (OpenSpec.ofChange fnExactIsUprightWrong)

/- THE SECOND FORM. 'bulk': how many values and letters a reading holds, each counted each time it is reached (what is shared counts as often as it is met; a slice's spare places count too). A statement '..UptoSaid' is the law's where the arguments, and the package variables that the reading takes, are together of bulk at most 1048576: NARROWER than '..Said'. Prove '..Said' where nothing that the law and all that it calls make is longer than what came in: it says more and counts as full. Else prove '..UptoSaid'. A law counts once. -/
mutual
def uptoBulk {H : Type} : DataW H → Nat
  | .lit (.string bytes) => bytes.length + 1
  | .lit _ => 1
  | .nil => 1
  | .ptr d => uptoBulk d + 1
  | .slice elems spare => uptoBulkAll elems + uptoBulkAll spare + 1
  | .agg parts => uptoBulkAll parts + 1
  | .iface _ d => uptoBulk d + 1
  | .map entries => uptoBulkEntries entries + 1
  | .held _ => 1
def uptoBulkAll {H : Type} : List (DataW H) → Nat
  | [] => 0
  | d :: r => uptoBulk d + uptoBulkAll r
def uptoBulkEntries {H : Type} : List (Lit × DataW H) → Nat
  | [] => 0
  | x :: r => uptoBulkEntry x + uptoBulkEntries r
def uptoBulkEntry {H : Type} : Lit × DataW H → Nat
  | (.string bytes, d) => bytes.length + uptoBulk d + 1
  | (_, d) => uptoBulk d + 1
 end
def uptoSmall : (H : Type) → List (DataW H) → Bool := fun _ ds => decide (uptoBulkAll ds ≤ 1048576)
def OpenSpec.upto (s : _root_.Go.ChangeSpec) : _root_.Go.OpenSpec := { _root_.Go.OpenSpec.ofChange s with cond := some uptoSmall }

/-- 'laws.FnCenters', WHERE WHAT IT READS IS OF BULK AT MOST 1048576: true; the input reads as it did. -/
def fnCentersUptoRow : OpenClaim := { program := "ytndafdjllbhbfaa", sum := "552e1c3c4a5b1b377cf1af08c05c852071709530bbdf58ad6b764cdecfaa9512", func := "loop.example/g00906/laws.FnCenters", spec := "fnCenters", unfollowed := true, recurses := true, apart := false, narrowed := true }
def FnCentersUptoSaid : Prop := fnCentersUptoRow.holds Try.pinned (OpenSpec.upto fnCentersSpec)

/-- 'laws.FnBallast', WHERE WHAT IT READS IS OF BULK AT MOST 1048576: true; the input reads as it did. -/
def fnBallastUptoRow : OpenClaim := { program := "ytndafdjllbhbfaa", sum := "552e1c3c4a5b1b377cf1af08c05c852071709530bbdf58ad6b764cdecfaa9512", func := "loop.example/g00906/laws.FnBallast", spec := "fnBallast", unfollowed := true, recurses := true, apart := false, narrowed := true }
def FnBallastUptoSaid : Prop := fnBallastUptoRow.holds Try.pinned (OpenSpec.upto fnBallastSpec)

/-- 'laws.FnExactIsValidLoads', WHERE WHAT IT READS IS OF BULK AT MOST 1048576: true; the input reads as it did. -/
def fnExactIsValidLoadsUptoRow : OpenClaim := { program := "ytndafdjllbhbfaa", sum := "552e1c3c4a5b1b377cf1af08c05c852071709530bbdf58ad6b764cdecfaa9512", func := "loop.example/g00906/laws.FnExactIsValidLoads", spec := "fnExactIsValidLoads", unfollowed := true, recurses := true, apart := false, narrowed := true }
def FnExactIsValidLoadsUptoSaid : Prop := fnExactIsValidLoadsUptoRow.holds Try.pinned (OpenSpec.upto fnExactIsValidLoadsSpec)

/-- 'laws.FnExactLoadMoments', WHERE WHAT IT READS IS OF BULK AT MOST 1048576: true; the input reads as it did. -/
def fnExactLoadMomentsUptoRow : OpenClaim := { program := "ytndafdjllbhbfaa", sum := "552e1c3c4a5b1b377cf1af08c05c852071709530bbdf58ad6b764cdecfaa9512", func := "loop.example/g00906/laws.FnExactLoadMoments", spec := "fnExactLoadMoments", unfollowed := true, recurses := true, apart := false, narrowed := true }
def FnExactLoadMomentsUptoSaid : Prop := fnExactLoadMomentsUptoRow.holds Try.pinned (OpenSpec.upto fnExactLoadMomentsSpec)

/-- 'laws.FnExactCenterAcross', WHERE WHAT IT READS IS OF BULK AT MOST 1048576: true; the input reads as it did. -/
def fnExactCenterAcrossUptoRow : OpenClaim := { program := "ytndafdjllbhbfaa", sum := "552e1c3c4a5b1b377cf1af08c05c852071709530bbdf58ad6b764cdecfaa9512", func := "loop.example/g00906/laws.FnExactCenterAcross", spec := "fnExactCenterAcross", unfollowed := true, recurses := true, apart := false, narrowed := true }
def FnExactCenterAcrossUptoSaid : Prop := fnExactCenterAcrossUptoRow.holds Try.pinned (OpenSpec.upto fnExactCenterAcrossSpec)

/-- 'laws.FnExactCenterHeight', WHERE WHAT IT READS IS OF BULK AT MOST 1048576: true; the input reads as it did. -/
def fnExactCenterHeightUptoRow : OpenClaim := { program := "ytndafdjllbhbfaa", sum := "552e1c3c4a5b1b377cf1af08c05c852071709530bbdf58ad6b764cdecfaa9512", func := "loop.example/g00906/laws.FnExactCenterHeight", spec := "fnExactCenterHeight", unfollowed := true, recurses := true, apart := false, narrowed := true }
def FnExactCenterHeightUptoSaid : Prop := fnExactCenterHeightUptoRow.holds Try.pinned (OpenSpec.upto fnExactCenterHeightSpec)

/-- 'laws.FnExactStabilityMargin', WHERE WHAT IT READS IS OF BULK AT MOST 1048576: true; the input reads as it did. -/
def fnExactStabilityMarginUptoRow : OpenClaim := { program := "ytndafdjllbhbfaa", sum := "552e1c3c4a5b1b377cf1af08c05c852071709530bbdf58ad6b764cdecfaa9512", func := "loop.example/g00906/laws.FnExactStabilityMargin", spec := "fnExactStabilityMargin", unfollowed := true, recurses := true, apart := false, narrowed := true }
def FnExactStabilityMarginUptoSaid : Prop := fnExactStabilityMarginUptoRow.holds Try.pinned (OpenSpec.upto fnExactStabilityMarginSpec)

/-- 'laws.FnExactBallastFor', WHERE WHAT IT READS IS OF BULK AT MOST 1048576: true; the input reads as it did. -/
def fnExactBallastForUptoRow : OpenClaim := { program := "ytndafdjllbhbfaa", sum := "552e1c3c4a5b1b377cf1af08c05c852071709530bbdf58ad6b764cdecfaa9512", func := "loop.example/g00906/laws.FnExactBallastFor", spec := "fnExactBallastFor", unfollowed := true, recurses := true, apart := false, narrowed := true }
def FnExactBallastForUptoSaid : Prop := fnExactBallastForUptoRow.holds Try.pinned (OpenSpec.upto fnExactBallastForSpec)

/-- 'laws.FnExactBestSwap', WHERE WHAT IT READS IS OF BULK AT MOST 1048576: true; the input reads as it did. -/
def fnExactBestSwapUptoRow : OpenClaim := { program := "ytndafdjllbhbfaa", sum := "552e1c3c4a5b1b377cf1af08c05c852071709530bbdf58ad6b764cdecfaa9512", func := "loop.example/g00906/laws.FnExactBestSwap", spec := "fnExactBestSwap", unfollowed := true, recurses := true, apart := false, narrowed := true }
def FnExactBestSwapUptoSaid : Prop := fnExactBestSwapUptoRow.holds Try.pinned (OpenSpec.upto fnExactBestSwapSpec)

/-- 'laws.FnExactMirrorLoads', WHERE WHAT IT READS IS OF BULK AT MOST 1048576: true; the input reads as it did. -/
def fnExactMirrorLoadsUptoRow : OpenClaim := { program := "ytndafdjllbhbfaa", sum := "552e1c3c4a5b1b377cf1af08c05c852071709530bbdf58ad6b764cdecfaa9512", func := "loop.example/g00906/laws.FnExactMirrorLoads", spec := "fnExactMirrorLoads", unfollowed := true, recurses := true, apart := false, narrowed := true }
def FnExactMirrorLoadsUptoSaid : Prop := fnExactMirrorLoadsUptoRow.holds Try.pinned (OpenSpec.upto fnExactMirrorLoadsSpec)

/-- 'laws.FnExactWeightAbove', WHERE WHAT IT READS IS OF BULK AT MOST 1048576: true; the input reads as it did. -/
def fnExactWeightAboveUptoRow : OpenClaim := { program := "ytndafdjllbhbfaa", sum := "552e1c3c4a5b1b377cf1af08c05c852071709530bbdf58ad6b764cdecfaa9512", func := "loop.example/g00906/laws.FnExactWeightAbove", spec := "fnExactWeightAbove", unfollowed := true, recurses := true, apart := false, narrowed := true }
def FnExactWeightAboveUptoSaid : Prop := fnExactWeightAboveUptoRow.holds Try.pinned (OpenSpec.upto fnExactWeightAboveSpec)

/-- 'laws.FnExactIsUpright', WHERE WHAT IT READS IS OF BULK AT MOST 1048576: true; the input reads as it did. -/
def fnExactIsUprightUptoRow : OpenClaim := { program := "ytndafdjllbhbfaa", sum := "552e1c3c4a5b1b377cf1af08c05c852071709530bbdf58ad6b764cdecfaa9512", func := "loop.example/g00906/laws.FnExactIsUpright", spec := "fnExactIsUpright", unfollowed := true, recurses := true, apart := false, narrowed := true }
def FnExactIsUprightUptoSaid : Prop := fnExactIsUprightUptoRow.holds Try.pinned (OpenSpec.upto fnExactIsUprightSpec)

end Rows
end Go.Proofs.Ytndafdjllbhbfaa
