/-
  No cell of these rows narrows 'for every input' (looked for: loops, veiled, ifaces, maps, wideKeys, modest, calm, conditions, laid).
  DERIVED. THE GIVEN ROWS OF THIS SEAT. 11 by the template 'for every input the law returns true; each argument reads behind the call as it read before'; 0 by the template 'total and deterministic' (their statements: YtalobfpmmembiaaTotals.lean).
  GIVEN WITH THE SEED: the statements are not yours to turn. If you find one false, say at which input.
  Laid BY PROGRAM, IN A SANDBOX (cutbox-rows.mjs): the forced cells as the released guide's own fill.sh prints them over the translation 8b080bce5c2f62a9… (all of the seat's roots in one cut). By AI agents, Wed Nov 11 2026. No macro, syntax, notation, axiom, sorry.
-/
import Derived.Test.YtalobfpmmembiaaChecked
import GoSem.Claim
import GoSem.ClaimJoined
import GoSem.ClaimMapViews
import Derived.JoinedTies
import Derived.KernelRfl
namespace Go.Proofs.Ytalobfpmmembiaa
/- THE CELL 'sum', in the pinned program and in every row, IS THE sha256 OF THE DUMP (.gsa) THAT YtalobfpmmembiaaProg.lean LOADS. Nothing in Lean hashes anything: it is a label: what it is worth is what the hold of that sum in a sandbox is worth. -/
noncomputable def Try.pinned : Pinned := { name := "ytalobfpmmembiaa", sum := "8b080bce5c2f62a99c4aeb4278eb3e21f57776cf8e52905fb9730851649ab186", checked := Try.checked }
namespace Rows
def none {H : Type} : Left H := { results := [], args := [] }

/-- 'laws.FnForces': WHATEVER THE INPUT: true; the input reads as it did. -/
def fnForcesSpec : ChangeSpec := { name := "fnForces", fn := fun _ => fun
  | [d] => { results := [.lit (.bool true)], args := [d] }
  | _ => none }
def fnForcesRow : OpenClaim := { program := "ytalobfpmmembiaa", sum := "8b080bce5c2f62a99c4aeb4278eb3e21f57776cf8e52905fb9730851649ab186", func := "loop.example/g00906/laws.FnForces", spec := "fnForces", unfollowed := true, recurses := true, apart := false }
def FnForcesSaid : Prop := fnForcesRow.holds Try.pinned (OpenSpec.ofChange fnForcesSpec)

/-- ITS FALSE NEIGHBOUR: 'it returns false'. Refute it at one input. -/
def fnForcesWrong : ChangeSpec := { name := "fnForces", fn := fun _ => fun
  | [d] => { results := [.lit (.bool false)], args := [d] }
  | _ => none }
def FnForcesWrongFalsely : Prop := fnForcesRow.holds Try.pinned (OpenSpec.ofChange fnForcesWrong)

/-- 'laws.FnColumns': WHATEVER THE INPUT: true; the input reads as it did. -/
def fnColumnsSpec : ChangeSpec := { name := "fnColumns", fn := fun _ => fun
  | [d] => { results := [.lit (.bool true)], args := [d] }
  | _ => none }
def fnColumnsRow : OpenClaim := { program := "ytalobfpmmembiaa", sum := "8b080bce5c2f62a99c4aeb4278eb3e21f57776cf8e52905fb9730851649ab186", func := "loop.example/g00906/laws.FnColumns", spec := "fnColumns", unfollowed := true, recurses := true, apart := false }
def FnColumnsSaid : Prop := fnColumnsRow.holds Try.pinned (OpenSpec.ofChange fnColumnsSpec)

/-- ITS FALSE NEIGHBOUR: 'it returns false'. Refute it at one input. -/
def fnColumnsWrong : ChangeSpec := { name := "fnColumns", fn := fun _ => fun
  | [d] => { results := [.lit (.bool false)], args := [d] }
  | _ => none }
def FnColumnsWrongFalsely : Prop := fnColumnsRow.holds Try.pinned (OpenSpec.ofChange fnColumnsWrong)

/-- 'laws.FnExactIsValidColumn': WHATEVER THE INPUT: true; the input reads as it did. -/
def fnExactIsValidColumnSpec : ChangeSpec := { name := "fnExactIsValidColumn", fn := fun _ => fun
  | [d] => { results := [.lit (.bool true)], args := [d] }
  | _ => none }
def fnExactIsValidColumnRow : OpenClaim := { program := "ytalobfpmmembiaa", sum := "8b080bce5c2f62a99c4aeb4278eb3e21f57776cf8e52905fb9730851649ab186", func := "loop.example/g00906/laws.FnExactIsValidColumn", spec := "fnExactIsValidColumn", unfollowed := true, recurses := true, apart := false }
def FnExactIsValidColumnSaid : Prop := fnExactIsValidColumnRow.holds Try.pinned (OpenSpec.ofChange fnExactIsValidColumnSpec)

/-- ITS FALSE NEIGHBOUR: 'it returns false'. Refute it at one input. -/
def fnExactIsValidColumnWrong : ChangeSpec := { name := "fnExactIsValidColumn", fn := fun _ => fun
  | [d] => { results := [.lit (.bool false)], args := [d] }
  | _ => none }
def FnExactIsValidColumnWrongFalsely : Prop := fnExactIsValidColumnRow.holds Try.pinned (OpenSpec.ofChange fnExactIsValidColumnWrong)

/-- 'laws.FnExactColumnWeight': WHATEVER THE INPUT: true; the input reads as it did. -/
def fnExactColumnWeightSpec : ChangeSpec := { name := "fnExactColumnWeight", fn := fun _ => fun
  | [d1, d2] => { results := [.lit (.bool true)], args := [d1, d2] }
  | _ => none }
def fnExactColumnWeightRow : OpenClaim := { program := "ytalobfpmmembiaa", sum := "8b080bce5c2f62a99c4aeb4278eb3e21f57776cf8e52905fb9730851649ab186", func := "loop.example/g00906/laws.FnExactColumnWeight", spec := "fnExactColumnWeight", unfollowed := true, recurses := true, apart := false }
def FnExactColumnWeightSaid : Prop := fnExactColumnWeightRow.holds Try.pinned (OpenSpec.ofChange fnExactColumnWeightSpec)

/-- ITS FALSE NEIGHBOUR: 'it returns false'. Refute it at one input. -/
def fnExactColumnWeightWrong : ChangeSpec := { name := "fnExactColumnWeight", fn := fun _ => fun
  | [d1, d2] => { results := [.lit (.bool false)], args := [d1, d2] }
  | _ => none }
def FnExactColumnWeightWrongFalsely : Prop := fnExactColumnWeightRow.holds Try.pinned (OpenSpec.ofChange fnExactColumnWeightWrong)

/-- 'laws.FnExactLashForces': WHATEVER THE INPUT: true; the input reads as it did. -/
def fnExactLashForcesSpec : ChangeSpec := { name := "fnExactLashForces", fn := fun _ => fun
  | [d1, d2] => { results := [.lit (.bool true)], args := [d1, d2] }
  | _ => none }
def fnExactLashForcesRow : OpenClaim := { program := "ytalobfpmmembiaa", sum := "8b080bce5c2f62a99c4aeb4278eb3e21f57776cf8e52905fb9730851649ab186", func := "loop.example/g00906/laws.FnExactLashForces", spec := "fnExactLashForces", unfollowed := true, recurses := true, apart := false }
def FnExactLashForcesSaid : Prop := fnExactLashForcesRow.holds Try.pinned (OpenSpec.ofChange fnExactLashForcesSpec)

/-- ITS FALSE NEIGHBOUR: 'it returns false'. Refute it at one input. -/
def fnExactLashForcesWrong : ChangeSpec := { name := "fnExactLashForces", fn := fun _ => fun
  | [d1, d2] => { results := [.lit (.bool false)], args := [d1, d2] }
  | _ => none }
def FnExactLashForcesWrongFalsely : Prop := fnExactLashForcesRow.holds Try.pinned (OpenSpec.ofChange fnExactLashForcesWrong)

/-- 'laws.FnExactLashingsNeeded': WHATEVER THE INPUT: true; the input reads as it did. -/
def fnExactLashingsNeededSpec : ChangeSpec := { name := "fnExactLashingsNeeded", fn := fun _ => fun
  | [d1, d2] => { results := [.lit (.bool true)], args := [d1, d2] }
  | _ => none }
def fnExactLashingsNeededRow : OpenClaim := { program := "ytalobfpmmembiaa", sum := "8b080bce5c2f62a99c4aeb4278eb3e21f57776cf8e52905fb9730851649ab186", func := "loop.example/g00906/laws.FnExactLashingsNeeded", spec := "fnExactLashingsNeeded", unfollowed := true, recurses := true, apart := false }
def FnExactLashingsNeededSaid : Prop := fnExactLashingsNeededRow.holds Try.pinned (OpenSpec.ofChange fnExactLashingsNeededSpec)

/-- ITS FALSE NEIGHBOUR: 'it returns false'. Refute it at one input. -/
def fnExactLashingsNeededWrong : ChangeSpec := { name := "fnExactLashingsNeeded", fn := fun _ => fun
  | [d1, d2] => { results := [.lit (.bool false)], args := [d1, d2] }
  | _ => none }
def FnExactLashingsNeededWrongFalsely : Prop := fnExactLashingsNeededRow.holds Try.pinned (OpenSpec.ofChange fnExactLashingsNeededWrong)

/-- 'laws.FnExactHeavyFirst': WHATEVER THE INPUT: true; the input reads as it did. -/
def fnExactHeavyFirstSpec : ChangeSpec := { name := "fnExactHeavyFirst", fn := fun _ => fun
  | [d] => { results := [.lit (.bool true)], args := [d] }
  | _ => none }
def fnExactHeavyFirstRow : OpenClaim := { program := "ytalobfpmmembiaa", sum := "8b080bce5c2f62a99c4aeb4278eb3e21f57776cf8e52905fb9730851649ab186", func := "loop.example/g00906/laws.FnExactHeavyFirst", spec := "fnExactHeavyFirst", unfollowed := true, recurses := true, apart := false }
def FnExactHeavyFirstSaid : Prop := fnExactHeavyFirstRow.holds Try.pinned (OpenSpec.ofChange fnExactHeavyFirstSpec)

/-- ITS FALSE NEIGHBOUR: 'it returns false'. Refute it at one input. -/
def fnExactHeavyFirstWrong : ChangeSpec := { name := "fnExactHeavyFirst", fn := fun _ => fun
  | [d] => { results := [.lit (.bool false)], args := [d] }
  | _ => none }
def FnExactHeavyFirstWrongFalsely : Prop := fnExactHeavyFirstRow.holds Try.pinned (OpenSpec.ofChange fnExactHeavyFirstWrong)

/-- 'laws.FnExactLightestForce': WHATEVER THE INPUT: true; the input reads as it did. -/
def fnExactLightestForceSpec : ChangeSpec := { name := "fnExactLightestForce", fn := fun _ => fun
  | [d1, d2] => { results := [.lit (.bool true)], args := [d1, d2] }
  | _ => none }
def fnExactLightestForceRow : OpenClaim := { program := "ytalobfpmmembiaa", sum := "8b080bce5c2f62a99c4aeb4278eb3e21f57776cf8e52905fb9730851649ab186", func := "loop.example/g00906/laws.FnExactLightestForce", spec := "fnExactLightestForce", unfollowed := true, recurses := true, apart := false }
def FnExactLightestForceSaid : Prop := fnExactLightestForceRow.holds Try.pinned (OpenSpec.ofChange fnExactLightestForceSpec)

/-- ITS FALSE NEIGHBOUR: 'it returns false'. Refute it at one input. -/
def fnExactLightestForceWrong : ChangeSpec := { name := "fnExactLightestForce", fn := fun _ => fun
  | [d1, d2] => { results := [.lit (.bool false)], args := [d1, d2] }
  | _ => none }
def FnExactLightestForceWrongFalsely : Prop := fnExactLightestForceRow.holds Try.pinned (OpenSpec.ofChange fnExactLightestForceWrong)

/-- 'laws.FnExactSplitColumns': WHATEVER THE INPUT: true; the input reads as it did. -/
def fnExactSplitColumnsSpec : ChangeSpec := { name := "fnExactSplitColumns", fn := fun _ => fun
  | [d1, d2] => { results := [.lit (.bool true)], args := [d1, d2] }
  | _ => none }
def fnExactSplitColumnsRow : OpenClaim := { program := "ytalobfpmmembiaa", sum := "8b080bce5c2f62a99c4aeb4278eb3e21f57776cf8e52905fb9730851649ab186", func := "loop.example/g00906/laws.FnExactSplitColumns", spec := "fnExactSplitColumns", unfollowed := true, recurses := true, apart := false }
def FnExactSplitColumnsSaid : Prop := fnExactSplitColumnsRow.holds Try.pinned (OpenSpec.ofChange fnExactSplitColumnsSpec)

/-- ITS FALSE NEIGHBOUR: 'it returns false'. Refute it at one input. -/
def fnExactSplitColumnsWrong : ChangeSpec := { name := "fnExactSplitColumns", fn := fun _ => fun
  | [d1, d2] => { results := [.lit (.bool false)], args := [d1, d2] }
  | _ => none }
def FnExactSplitColumnsWrongFalsely : Prop := fnExactSplitColumnsRow.holds Try.pinned (OpenSpec.ofChange fnExactSplitColumnsWrong)

/-- 'laws.FnExactAddOnTop': WHATEVER THE INPUT: true; the input reads as it did. -/
def fnExactAddOnTopSpec : ChangeSpec := { name := "fnExactAddOnTop", fn := fun _ => fun
  | [d1, d2, d3] => { results := [.lit (.bool true)], args := [d1, d2, d3] }
  | _ => none }
def fnExactAddOnTopRow : OpenClaim := { program := "ytalobfpmmembiaa", sum := "8b080bce5c2f62a99c4aeb4278eb3e21f57776cf8e52905fb9730851649ab186", func := "loop.example/g00906/laws.FnExactAddOnTop", spec := "fnExactAddOnTop", unfollowed := true, recurses := true, apart := false }
def FnExactAddOnTopSaid : Prop := fnExactAddOnTopRow.holds Try.pinned (OpenSpec.ofChange fnExactAddOnTopSpec)

/-- ITS FALSE NEIGHBOUR: 'it returns false'. Refute it at one input. -/
def fnExactAddOnTopWrong : ChangeSpec := { name := "fnExactAddOnTop", fn := fun _ => fun
  | [d1, d2, d3] => { results := [.lit (.bool false)], args := [d1, d2, d3] }
  | _ => none }
def FnExactAddOnTopWrongFalsely : Prop := fnExactAddOnTopRow.holds Try.pinned (OpenSpec.ofChange fnExactAddOnTopWrong)

/-- 'laws.FnExactRoomFor': WHATEVER THE INPUT: true; the input reads as it did. -/
def fnExactRoomForSpec : ChangeSpec := { name := "fnExactRoomFor", fn := fun _ => fun
  | [d1, d2] => { results := [.lit (.bool true)], args := [d1, d2] }
  | _ => none }
def fnExactRoomForRow : OpenClaim := { program := "ytalobfpmmembiaa", sum := "8b080bce5c2f62a99c4aeb4278eb3e21f57776cf8e52905fb9730851649ab186", func := "loop.example/g00906/laws.FnExactRoomFor", spec := "fnExactRoomFor", unfollowed := true, recurses := true, apart := false }
def FnExactRoomForSaid : Prop := fnExactRoomForRow.holds Try.pinned (OpenSpec.ofChange fnExactRoomForSpec)

/-- ITS FALSE NEIGHBOUR: 'it returns false'. Refute it at one input. -/
def fnExactRoomForWrong : ChangeSpec := { name := "fnExactRoomFor", fn := fun _ => fun
  | [d1, d2] => { results := [.lit (.bool false)], args := [d1, d2] }
  | _ => none }
def FnExactRoomForWrongFalsely : Prop := fnExactRoomForRow.holds Try.pinned (OpenSpec.ofChange fnExactRoomForWrong)

/- THE SECOND FORM. 'bulk': how many values and letters a reading holds, each counted each time it is reached (what is shared counts as often as it is met; a slice's spare places count too). A statement '..UptoSaid' is the law's where the arguments, and the package variables that the reading takes, are together of bulk at most 1048576: NARROWER than '..Said'. Prove '..Said' where nothing that the law and all that it calls make is longer than what came in: it says more and counts as full. Else prove '..UptoSaid'. A law counts once. -/
mutual
def uptoBulk {H : Type} : DataW H → Nat
  | .lit (.string bytes) => bytes.length + 1
  | .lit _ => 1
  | .nil => 1
  | .ptr d => uptoBulk d + 1
  | .slice elems spare => uptoBulkAll elems + uptoBulkAll spare + 1
  | .agg parts => uptoBulkAll parts + 1
  | .iface _ d => uptoBulk d + 1
  | .map entries => uptoBulkEntries entries + 1
  | .held _ => 1
def uptoBulkAll {H : Type} : List (DataW H) → Nat
  | [] => 0
  | d :: r => uptoBulk d + uptoBulkAll r
def uptoBulkEntries {H : Type} : List (Lit × DataW H) → Nat
  | [] => 0
  | x :: r => uptoBulkEntry x + uptoBulkEntries r
def uptoBulkEntry {H : Type} : Lit × DataW H → Nat
  | (.string bytes, d) => bytes.length + uptoBulk d + 1
  | (_, d) => uptoBulk d + 1
 end
def uptoSmall : (H : Type) → List (DataW H) → Bool := fun _ ds => decide (uptoBulkAll ds ≤ 1048576)
def OpenSpec.upto (s : _root_.Go.ChangeSpec) : _root_.Go.OpenSpec := { _root_.Go.OpenSpec.ofChange s with cond := some uptoSmall }

/-- 'laws.FnForces', WHERE WHAT IT READS IS OF BULK AT MOST 1048576: true; the input reads as it did. -/
def fnForcesUptoRow : OpenClaim := { program := "ytalobfpmmembiaa", sum := "8b080bce5c2f62a99c4aeb4278eb3e21f57776cf8e52905fb9730851649ab186", func := "loop.example/g00906/laws.FnForces", spec := "fnForces", unfollowed := true, recurses := true, apart := false, narrowed := true }
def FnForcesUptoSaid : Prop := fnForcesUptoRow.holds Try.pinned (OpenSpec.upto fnForcesSpec)

/-- 'laws.FnColumns', WHERE WHAT IT READS IS OF BULK AT MOST 1048576: true; the input reads as it did. -/
def fnColumnsUptoRow : OpenClaim := { program := "ytalobfpmmembiaa", sum := "8b080bce5c2f62a99c4aeb4278eb3e21f57776cf8e52905fb9730851649ab186", func := "loop.example/g00906/laws.FnColumns", spec := "fnColumns", unfollowed := true, recurses := true, apart := false, narrowed := true }
def FnColumnsUptoSaid : Prop := fnColumnsUptoRow.holds Try.pinned (OpenSpec.upto fnColumnsSpec)

/-- 'laws.FnExactIsValidColumn', WHERE WHAT IT READS IS OF BULK AT MOST 1048576: true; the input reads as it did. -/
def fnExactIsValidColumnUptoRow : OpenClaim := { program := "ytalobfpmmembiaa", sum := "8b080bce5c2f62a99c4aeb4278eb3e21f57776cf8e52905fb9730851649ab186", func := "loop.example/g00906/laws.FnExactIsValidColumn", spec := "fnExactIsValidColumn", unfollowed := true, recurses := true, apart := false, narrowed := true }
def FnExactIsValidColumnUptoSaid : Prop := fnExactIsValidColumnUptoRow.holds Try.pinned (OpenSpec.upto fnExactIsValidColumnSpec)

/-- 'laws.FnExactColumnWeight', WHERE WHAT IT READS IS OF BULK AT MOST 1048576: true; the input reads as it did. -/
def fnExactColumnWeightUptoRow : OpenClaim := { program := "ytalobfpmmembiaa", sum := "8b080bce5c2f62a99c4aeb4278eb3e21f57776cf8e52905fb9730851649ab186", func := "loop.example/g00906/laws.FnExactColumnWeight", spec := "fnExactColumnWeight", unfollowed := true, recurses := true, apart := false, narrowed := true }
def FnExactColumnWeightUptoSaid : Prop := fnExactColumnWeightUptoRow.holds Try.pinned (OpenSpec.upto fnExactColumnWeightSpec)

/-- 'laws.FnExactLashForces', WHERE WHAT IT READS IS OF BULK AT MOST 1048576: true; the input reads as it did. -/
def fnExactLashForcesUptoRow : OpenClaim := { program := "ytalobfpmmembiaa", sum := "8b080bce5c2f62a99c4aeb4278eb3e21f57776cf8e52905fb9730851649ab186", func := "loop.example/g00906/laws.FnExactLashForces", spec := "fnExactLashForces", unfollowed := true, recurses := true, apart := false, narrowed := true }
def FnExactLashForcesUptoSaid : Prop := fnExactLashForcesUptoRow.holds Try.pinned (OpenSpec.upto fnExactLashForcesSpec)

/-- 'laws.FnExactLashingsNeeded', WHERE WHAT IT READS IS OF BULK AT MOST 1048576: true; the input reads as it did. -/
def fnExactLashingsNeededUptoRow : OpenClaim := { program := "ytalobfpmmembiaa", sum := "8b080bce5c2f62a99c4aeb4278eb3e21f57776cf8e52905fb9730851649ab186", func := "loop.example/g00906/laws.FnExactLashingsNeeded", spec := "fnExactLashingsNeeded", unfollowed := true, recurses := true, apart := false, narrowed := true }
def FnExactLashingsNeededUptoSaid : Prop := fnExactLashingsNeededUptoRow.holds Try.pinned (OpenSpec.upto fnExactLashingsNeededSpec)

/-- 'laws.FnExactHeavyFirst', WHERE WHAT IT READS IS OF BULK AT MOST 1048576: true; the input reads as it did. -/
def fnExactHeavyFirstUptoRow : OpenClaim := { program := "ytalobfpmmembiaa", sum := "8b080bce5c2f62a99c4aeb4278eb3e21f57776cf8e52905fb9730851649ab186", func := "loop.example/g00906/laws.FnExactHeavyFirst", spec := "fnExactHeavyFirst", unfollowed := true, recurses := true, apart := false, narrowed := true }
def FnExactHeavyFirstUptoSaid : Prop := fnExactHeavyFirstUptoRow.holds Try.pinned (OpenSpec.upto fnExactHeavyFirstSpec)

/-- 'laws.FnExactLightestForce', WHERE WHAT IT READS IS OF BULK AT MOST 1048576: true; the input reads as it did. -/
def fnExactLightestForceUptoRow : OpenClaim := { program := "ytalobfpmmembiaa", sum := "8b080bce5c2f62a99c4aeb4278eb3e21f57776cf8e52905fb9730851649ab186", func := "loop.example/g00906/laws.FnExactLightestForce", spec := "fnExactLightestForce", unfollowed := true, recurses := true, apart := false, narrowed := true }
def FnExactLightestForceUptoSaid : Prop := fnExactLightestForceUptoRow.holds Try.pinned (OpenSpec.upto fnExactLightestForceSpec)

/-- 'laws.FnExactSplitColumns', WHERE WHAT IT READS IS OF BULK AT MOST 1048576: true; the input reads as it did. -/
def fnExactSplitColumnsUptoRow : OpenClaim := { program := "ytalobfpmmembiaa", sum := "8b080bce5c2f62a99c4aeb4278eb3e21f57776cf8e52905fb9730851649ab186", func := "loop.example/g00906/laws.FnExactSplitColumns", spec := "fnExactSplitColumns", unfollowed := true, recurses := true, apart := false, narrowed := true }
def FnExactSplitColumnsUptoSaid : Prop := fnExactSplitColumnsUptoRow.holds Try.pinned (OpenSpec.upto fnExactSplitColumnsSpec)

/-- 'laws.FnExactAddOnTop', WHERE WHAT IT READS IS OF BULK AT MOST 1048576: true; the input reads as it did. -/
def fnExactAddOnTopUptoRow : OpenClaim := { program := "ytalobfpmmembiaa", sum := "8b080bce5c2f62a99c4aeb4278eb3e21f57776cf8e52905fb9730851649ab186", func := "loop.example/g00906/laws.FnExactAddOnTop", spec := "fnExactAddOnTop", unfollowed := true, recurses := true, apart := false, narrowed := true }
def FnExactAddOnTopUptoSaid : Prop := fnExactAddOnTopUptoRow.holds Try.pinned (OpenSpec.upto fnExactAddOnTopSpec)

/-- 'laws.FnExactRoomFor', WHERE WHAT IT READS IS OF BULK AT MOST 1048576: true; the input reads as it did. -/
def fnExactRoomForUptoRow : OpenClaim := { program := "ytalobfpmmembiaa", sum := "8b080bce5c2f62a99c4aeb4278eb3e21f57776cf8e52905fb9730851649ab186", func := "loop.example/g00906/laws.FnExactRoomFor", spec := "fnExactRoomFor", unfollowed := true, recurses := true, apart := false, narrowed := true }
def FnExactRoomForUptoSaid : Prop := fnExactRoomForUptoRow.holds Try.pinned (OpenSpec.upto fnExactRoomForSpec)

end Rows
end Go.Proofs.Ytalobfpmmembiaa
