/-
  No cell of these rows narrows 'for every input' (looked for: loops, veiled, ifaces, maps, wideKeys, modest, calm, conditions, laid).
  DERIVED. THE GIVEN ROWS OF THIS SEAT. 10 by the template 'for every input the law returns true; each argument reads behind the call as it read before'; 0 by the template 'total and deterministic' (their statements: YtpflnjjckeeihaaTotals.lean).
  GIVEN WITH THE SEED: the statements are not yours to turn. If you find one false, say at which input.
  Laid BY PROGRAM, IN A SANDBOX (cutbox-rows.mjs): the forced cells as the released guide's own fill.sh prints them over the translation e03c09cbdfbb971e… (all of the seat's roots in one cut). By AI agents, Wed Nov 11 2026. No macro, syntax, notation, axiom, sorry.
-/
import Derived.Test.YtpflnjjckeeihaaChecked
import GoSem.Claim
import GoSem.ClaimJoined
import GoSem.ClaimMapViews
import Derived.JoinedTies
import Derived.KernelRfl
namespace Go.Proofs.Ytpflnjjckeeihaa
/- THE CELL 'sum', in the pinned program and in every row, IS THE sha256 OF THE DUMP (.gsa) THAT YtpflnjjckeeihaaProg.lean LOADS. Nothing in Lean hashes anything: it is a label: what it is worth is what the hold of that sum in a sandbox is worth. -/
noncomputable def Try.pinned : Pinned := { name := "ytpflnjjckeeihaa", sum := "e03c09cbdfbb971e01a6fe9d879899acf9f3f69073d49ac119345e3c48e00d24", checked := Try.checked }
namespace Rows
def none {H : Type} : Left H := { results := [], args := [] }

/-- 'laws.FnStowage': WHATEVER THE INPUT: true; the input reads as it did. -/
def fnStowageSpec : ChangeSpec := { name := "fnStowage", fn := fun _ => fun
  | [d] => { results := [.lit (.bool true)], args := [d] }
  | _ => none }
def fnStowageRow : OpenClaim := { program := "ytpflnjjckeeihaa", sum := "e03c09cbdfbb971e01a6fe9d879899acf9f3f69073d49ac119345e3c48e00d24", func := "loop.example/g00906/laws.FnStowage", spec := "fnStowage", unfollowed := true, recurses := true, apart := false }
def FnStowageSaid : Prop := fnStowageRow.holds Try.pinned (OpenSpec.ofChange fnStowageSpec)

/-- ITS FALSE NEIGHBOUR: 'it returns false'. Refute it at one input. -/
def fnStowageWrong : ChangeSpec := { name := "fnStowage", fn := fun _ => fun
  | [d] => { results := [.lit (.bool false)], args := [d] }
  | _ => none }
def FnStowageWrongFalsely : Prop := fnStowageRow.holds Try.pinned (OpenSpec.ofChange fnStowageWrong)

/-- 'laws.FnPortWork': WHATEVER THE INPUT: true; the input reads as it did. -/
def fnPortWorkSpec : ChangeSpec := { name := "fnPortWork", fn := fun _ => fun
  | [d] => { results := [.lit (.bool true)], args := [d] }
  | _ => none }
def fnPortWorkRow : OpenClaim := { program := "ytpflnjjckeeihaa", sum := "e03c09cbdfbb971e01a6fe9d879899acf9f3f69073d49ac119345e3c48e00d24", func := "loop.example/g00906/laws.FnPortWork", spec := "fnPortWork", unfollowed := true, recurses := true, apart := false }
def FnPortWorkSaid : Prop := fnPortWorkRow.holds Try.pinned (OpenSpec.ofChange fnPortWorkSpec)

/-- ITS FALSE NEIGHBOUR: 'it returns false'. Refute it at one input. -/
def fnPortWorkWrong : ChangeSpec := { name := "fnPortWork", fn := fun _ => fun
  | [d] => { results := [.lit (.bool false)], args := [d] }
  | _ => none }
def FnPortWorkWrongFalsely : Prop := fnPortWorkRow.holds Try.pinned (OpenSpec.ofChange fnPortWorkWrong)

/-- 'laws.FnExactIsValidStowage': WHATEVER THE INPUT: true; the input reads as it did. -/
def fnExactIsValidStowageSpec : ChangeSpec := { name := "fnExactIsValidStowage", fn := fun _ => fun
  | [d] => { results := [.lit (.bool true)], args := [d] }
  | _ => none }
def fnExactIsValidStowageRow : OpenClaim := { program := "ytpflnjjckeeihaa", sum := "e03c09cbdfbb971e01a6fe9d879899acf9f3f69073d49ac119345e3c48e00d24", func := "loop.example/g00906/laws.FnExactIsValidStowage", spec := "fnExactIsValidStowage", unfollowed := true, recurses := true, apart := false }
def FnExactIsValidStowageSaid : Prop := fnExactIsValidStowageRow.holds Try.pinned (OpenSpec.ofChange fnExactIsValidStowageSpec)

/-- ITS FALSE NEIGHBOUR: 'it returns false'. Refute it at one input. -/
def fnExactIsValidStowageWrong : ChangeSpec := { name := "fnExactIsValidStowage", fn := fun _ => fun
  | [d] => { results := [.lit (.bool false)], args := [d] }
  | _ => none }
def FnExactIsValidStowageWrongFalsely : Prop := fnExactIsValidStowageRow.holds Try.pinned (OpenSpec.ofChange fnExactIsValidStowageWrong)

/-- 'laws.FnExactPlanBay': WHATEVER THE INPUT: true; the input reads as it did. -/
def fnExactPlanBaySpec : ChangeSpec := { name := "fnExactPlanBay", fn := fun _ => fun
  | [d1, d2] => { results := [.lit (.bool true)], args := [d1, d2] }
  | _ => none }
def fnExactPlanBayRow : OpenClaim := { program := "ytpflnjjckeeihaa", sum := "e03c09cbdfbb971e01a6fe9d879899acf9f3f69073d49ac119345e3c48e00d24", func := "loop.example/g00906/laws.FnExactPlanBay", spec := "fnExactPlanBay", unfollowed := true, recurses := true, apart := false }
def FnExactPlanBaySaid : Prop := fnExactPlanBayRow.holds Try.pinned (OpenSpec.ofChange fnExactPlanBaySpec)

/-- ITS FALSE NEIGHBOUR: 'it returns false'. Refute it at one input. -/
def fnExactPlanBayWrong : ChangeSpec := { name := "fnExactPlanBay", fn := fun _ => fun
  | [d1, d2] => { results := [.lit (.bool false)], args := [d1, d2] }
  | _ => none }
def FnExactPlanBayWrongFalsely : Prop := fnExactPlanBayRow.holds Try.pinned (OpenSpec.ofChange fnExactPlanBayWrong)

/-- 'laws.FnExactShiftedBoxes': WHATEVER THE INPUT: true; the input reads as it did. -/
def fnExactShiftedBoxesSpec : ChangeSpec := { name := "fnExactShiftedBoxes", fn := fun _ => fun
  | [d1, d2] => { results := [.lit (.bool true)], args := [d1, d2] }
  | _ => none }
def fnExactShiftedBoxesRow : OpenClaim := { program := "ytpflnjjckeeihaa", sum := "e03c09cbdfbb971e01a6fe9d879899acf9f3f69073d49ac119345e3c48e00d24", func := "loop.example/g00906/laws.FnExactShiftedBoxes", spec := "fnExactShiftedBoxes", unfollowed := true, recurses := true, apart := false }
def FnExactShiftedBoxesSaid : Prop := fnExactShiftedBoxesRow.holds Try.pinned (OpenSpec.ofChange fnExactShiftedBoxesSpec)

/-- ITS FALSE NEIGHBOUR: 'it returns false'. Refute it at one input. -/
def fnExactShiftedBoxesWrong : ChangeSpec := { name := "fnExactShiftedBoxes", fn := fun _ => fun
  | [d1, d2] => { results := [.lit (.bool false)], args := [d1, d2] }
  | _ => none }
def FnExactShiftedBoxesWrongFalsely : Prop := fnExactShiftedBoxesRow.holds Try.pinned (OpenSpec.ofChange fnExactShiftedBoxesWrong)

/-- 'laws.FnExactBestStowage': WHATEVER THE INPUT: true; the input reads as it did. -/
def fnExactBestStowageSpec : ChangeSpec := { name := "fnExactBestStowage", fn := fun _ => fun
  | [d] => { results := [.lit (.bool true)], args := [d] }
  | _ => none }
def fnExactBestStowageRow : OpenClaim := { program := "ytpflnjjckeeihaa", sum := "e03c09cbdfbb971e01a6fe9d879899acf9f3f69073d49ac119345e3c48e00d24", func := "loop.example/g00906/laws.FnExactBestStowage", spec := "fnExactBestStowage", unfollowed := true, recurses := true, apart := false }
def FnExactBestStowageSaid : Prop := fnExactBestStowageRow.holds Try.pinned (OpenSpec.ofChange fnExactBestStowageSpec)

/-- ITS FALSE NEIGHBOUR: 'it returns false'. Refute it at one input. -/
def fnExactBestStowageWrong : ChangeSpec := { name := "fnExactBestStowage", fn := fun _ => fun
  | [d] => { results := [.lit (.bool false)], args := [d] }
  | _ => none }
def FnExactBestStowageWrongFalsely : Prop := fnExactBestStowageRow.holds Try.pinned (OpenSpec.ofChange fnExactBestStowageWrong)

/-- 'laws.FnExactGreedyStowage': WHATEVER THE INPUT: true; the input reads as it did. -/
def fnExactGreedyStowageSpec : ChangeSpec := { name := "fnExactGreedyStowage", fn := fun _ => fun
  | [d] => { results := [.lit (.bool true)], args := [d] }
  | _ => none }
def fnExactGreedyStowageRow : OpenClaim := { program := "ytpflnjjckeeihaa", sum := "e03c09cbdfbb971e01a6fe9d879899acf9f3f69073d49ac119345e3c48e00d24", func := "loop.example/g00906/laws.FnExactGreedyStowage", spec := "fnExactGreedyStowage", unfollowed := true, recurses := true, apart := false }
def FnExactGreedyStowageSaid : Prop := fnExactGreedyStowageRow.holds Try.pinned (OpenSpec.ofChange fnExactGreedyStowageSpec)

/-- ITS FALSE NEIGHBOUR: 'it returns false'. Refute it at one input. -/
def fnExactGreedyStowageWrong : ChangeSpec := { name := "fnExactGreedyStowage", fn := fun _ => fun
  | [d] => { results := [.lit (.bool false)], args := [d] }
  | _ => none }
def FnExactGreedyStowageWrongFalsely : Prop := fnExactGreedyStowageRow.holds Try.pinned (OpenSpec.ofChange fnExactGreedyStowageWrong)

/-- 'laws.FnExactPortWork': WHATEVER THE INPUT: true; the input reads as it did. -/
def fnExactPortWorkSpec : ChangeSpec := { name := "fnExactPortWork", fn := fun _ => fun
  | [d1, d2, d3] => { results := [.lit (.bool true)], args := [d1, d2, d3] }
  | _ => none }
def fnExactPortWorkRow : OpenClaim := { program := "ytpflnjjckeeihaa", sum := "e03c09cbdfbb971e01a6fe9d879899acf9f3f69073d49ac119345e3c48e00d24", func := "loop.example/g00906/laws.FnExactPortWork", spec := "fnExactPortWork", unfollowed := true, recurses := true, apart := false }
def FnExactPortWorkSaid : Prop := fnExactPortWorkRow.holds Try.pinned (OpenSpec.ofChange fnExactPortWorkSpec)

/-- ITS FALSE NEIGHBOUR: 'it returns false'. Refute it at one input. -/
def fnExactPortWorkWrong : ChangeSpec := { name := "fnExactPortWork", fn := fun _ => fun
  | [d1, d2, d3] => { results := [.lit (.bool false)], args := [d1, d2, d3] }
  | _ => none }
def FnExactPortWorkWrongFalsely : Prop := fnExactPortWorkRow.holds Try.pinned (OpenSpec.ofChange fnExactPortWorkWrong)

/-- 'laws.FnExactLoadOrder': WHATEVER THE INPUT: true; the input reads as it did. -/
def fnExactLoadOrderSpec : ChangeSpec := { name := "fnExactLoadOrder", fn := fun _ => fun
  | [d] => { results := [.lit (.bool true)], args := [d] }
  | _ => none }
def fnExactLoadOrderRow : OpenClaim := { program := "ytpflnjjckeeihaa", sum := "e03c09cbdfbb971e01a6fe9d879899acf9f3f69073d49ac119345e3c48e00d24", func := "loop.example/g00906/laws.FnExactLoadOrder", spec := "fnExactLoadOrder", unfollowed := true, recurses := true, apart := false }
def FnExactLoadOrderSaid : Prop := fnExactLoadOrderRow.holds Try.pinned (OpenSpec.ofChange fnExactLoadOrderSpec)

/-- ITS FALSE NEIGHBOUR: 'it returns false'. Refute it at one input. -/
def fnExactLoadOrderWrong : ChangeSpec := { name := "fnExactLoadOrder", fn := fun _ => fun
  | [d] => { results := [.lit (.bool false)], args := [d] }
  | _ => none }
def FnExactLoadOrderWrongFalsely : Prop := fnExactLoadOrderRow.holds Try.pinned (OpenSpec.ofChange fnExactLoadOrderWrong)

/-- 'laws.FnExactRowPorts': WHATEVER THE INPUT: true; the input reads as it did. -/
def fnExactRowPortsSpec : ChangeSpec := { name := "fnExactRowPorts", fn := fun _ => fun
  | [d1, d2] => { results := [.lit (.bool true)], args := [d1, d2] }
  | _ => none }
def fnExactRowPortsRow : OpenClaim := { program := "ytpflnjjckeeihaa", sum := "e03c09cbdfbb971e01a6fe9d879899acf9f3f69073d49ac119345e3c48e00d24", func := "loop.example/g00906/laws.FnExactRowPorts", spec := "fnExactRowPorts", unfollowed := true, recurses := true, apart := false }
def FnExactRowPortsSaid : Prop := fnExactRowPortsRow.holds Try.pinned (OpenSpec.ofChange fnExactRowPortsSpec)

/-- ITS FALSE NEIGHBOUR: 'it returns false'. Refute it at one input. -/
def fnExactRowPortsWrong : ChangeSpec := { name := "fnExactRowPorts", fn := fun _ => fun
  | [d1, d2] => { results := [.lit (.bool false)], args := [d1, d2] }
  | _ => none }
def FnExactRowPortsWrongFalsely : Prop := fnExactRowPortsRow.holds Try.pinned (OpenSpec.ofChange fnExactRowPortsWrong)

/- THE SECOND FORM. 'bulk': how many values and letters a reading holds, each counted each time it is reached (what is shared counts as often as it is met; a slice's spare places count too). A statement '..UptoSaid' is the law's where the arguments, and the package variables that the reading takes, are together of bulk at most 1048576: NARROWER than '..Said'. Prove '..Said' where nothing that the law and all that it calls make is longer than what came in: it says more and counts as full. Else prove '..UptoSaid'. A law counts once. -/
mutual
def uptoBulk {H : Type} : DataW H → Nat
  | .lit (.string bytes) => bytes.length + 1
  | .lit _ => 1
  | .nil => 1
  | .ptr d => uptoBulk d + 1
  | .slice elems spare => uptoBulkAll elems + uptoBulkAll spare + 1
  | .agg parts => uptoBulkAll parts + 1
  | .iface _ d => uptoBulk d + 1
  | .map entries => uptoBulkEntries entries + 1
  | .held _ => 1
def uptoBulkAll {H : Type} : List (DataW H) → Nat
  | [] => 0
  | d :: r => uptoBulk d + uptoBulkAll r
def uptoBulkEntries {H : Type} : List (Lit × DataW H) → Nat
  | [] => 0
  | x :: r => uptoBulkEntry x + uptoBulkEntries r
def uptoBulkEntry {H : Type} : Lit × DataW H → Nat
  | (.string bytes, d) => bytes.length + uptoBulk d + 1
  | (_, d) => uptoBulk d + 1
 end
def uptoSmall : (H : Type) → List (DataW H) → Bool := fun _ ds => decide (uptoBulkAll ds ≤ 1048576)
def OpenSpec.upto (s : _root_.Go.ChangeSpec) : _root_.Go.OpenSpec := { _root_.Go.OpenSpec.ofChange s with cond := some uptoSmall }

/-- 'laws.FnStowage', WHERE WHAT IT READS IS OF BULK AT MOST 1048576: true; the input reads as it did. -/
def fnStowageUptoRow : OpenClaim := { program := "ytpflnjjckeeihaa", sum := "e03c09cbdfbb971e01a6fe9d879899acf9f3f69073d49ac119345e3c48e00d24", func := "loop.example/g00906/laws.FnStowage", spec := "fnStowage", unfollowed := true, recurses := true, apart := false, narrowed := true }
def FnStowageUptoSaid : Prop := fnStowageUptoRow.holds Try.pinned (OpenSpec.upto fnStowageSpec)

/-- 'laws.FnPortWork', WHERE WHAT IT READS IS OF BULK AT MOST 1048576: true; the input reads as it did. -/
def fnPortWorkUptoRow : OpenClaim := { program := "ytpflnjjckeeihaa", sum := "e03c09cbdfbb971e01a6fe9d879899acf9f3f69073d49ac119345e3c48e00d24", func := "loop.example/g00906/laws.FnPortWork", spec := "fnPortWork", unfollowed := true, recurses := true, apart := false, narrowed := true }
def FnPortWorkUptoSaid : Prop := fnPortWorkUptoRow.holds Try.pinned (OpenSpec.upto fnPortWorkSpec)

/-- 'laws.FnExactIsValidStowage', WHERE WHAT IT READS IS OF BULK AT MOST 1048576: true; the input reads as it did. -/
def fnExactIsValidStowageUptoRow : OpenClaim := { program := "ytpflnjjckeeihaa", sum := "e03c09cbdfbb971e01a6fe9d879899acf9f3f69073d49ac119345e3c48e00d24", func := "loop.example/g00906/laws.FnExactIsValidStowage", spec := "fnExactIsValidStowage", unfollowed := true, recurses := true, apart := false, narrowed := true }
def FnExactIsValidStowageUptoSaid : Prop := fnExactIsValidStowageUptoRow.holds Try.pinned (OpenSpec.upto fnExactIsValidStowageSpec)

/-- 'laws.FnExactPlanBay', WHERE WHAT IT READS IS OF BULK AT MOST 1048576: true; the input reads as it did. -/
def fnExactPlanBayUptoRow : OpenClaim := { program := "ytpflnjjckeeihaa", sum := "e03c09cbdfbb971e01a6fe9d879899acf9f3f69073d49ac119345e3c48e00d24", func := "loop.example/g00906/laws.FnExactPlanBay", spec := "fnExactPlanBay", unfollowed := true, recurses := true, apart := false, narrowed := true }
def FnExactPlanBayUptoSaid : Prop := fnExactPlanBayUptoRow.holds Try.pinned (OpenSpec.upto fnExactPlanBaySpec)

/-- 'laws.FnExactShiftedBoxes', WHERE WHAT IT READS IS OF BULK AT MOST 1048576: true; the input reads as it did. -/
def fnExactShiftedBoxesUptoRow : OpenClaim := { program := "ytpflnjjckeeihaa", sum := "e03c09cbdfbb971e01a6fe9d879899acf9f3f69073d49ac119345e3c48e00d24", func := "loop.example/g00906/laws.FnExactShiftedBoxes", spec := "fnExactShiftedBoxes", unfollowed := true, recurses := true, apart := false, narrowed := true }
def FnExactShiftedBoxesUptoSaid : Prop := fnExactShiftedBoxesUptoRow.holds Try.pinned (OpenSpec.upto fnExactShiftedBoxesSpec)

/-- 'laws.FnExactBestStowage', WHERE WHAT IT READS IS OF BULK AT MOST 1048576: true; the input reads as it did. -/
def fnExactBestStowageUptoRow : OpenClaim := { program := "ytpflnjjckeeihaa", sum := "e03c09cbdfbb971e01a6fe9d879899acf9f3f69073d49ac119345e3c48e00d24", func := "loop.example/g00906/laws.FnExactBestStowage", spec := "fnExactBestStowage", unfollowed := true, recurses := true, apart := false, narrowed := true }
def FnExactBestStowageUptoSaid : Prop := fnExactBestStowageUptoRow.holds Try.pinned (OpenSpec.upto fnExactBestStowageSpec)

/-- 'laws.FnExactGreedyStowage', WHERE WHAT IT READS IS OF BULK AT MOST 1048576: true; the input reads as it did. -/
def fnExactGreedyStowageUptoRow : OpenClaim := { program := "ytpflnjjckeeihaa", sum := "e03c09cbdfbb971e01a6fe9d879899acf9f3f69073d49ac119345e3c48e00d24", func := "loop.example/g00906/laws.FnExactGreedyStowage", spec := "fnExactGreedyStowage", unfollowed := true, recurses := true, apart := false, narrowed := true }
def FnExactGreedyStowageUptoSaid : Prop := fnExactGreedyStowageUptoRow.holds Try.pinned (OpenSpec.upto fnExactGreedyStowageSpec)

/-- 'laws.FnExactPortWork', WHERE WHAT IT READS IS OF BULK AT MOST 1048576: true; the input reads as it did. -/
def fnExactPortWorkUptoRow : OpenClaim := { program := "ytpflnjjckeeihaa", sum := "e03c09cbdfbb971e01a6fe9d879899acf9f3f69073d49ac119345e3c48e00d24", func := "loop.example/g00906/laws.FnExactPortWork", spec := "fnExactPortWork", unfollowed := true, recurses := true, apart := false, narrowed := true }
def FnExactPortWorkUptoSaid : Prop := fnExactPortWorkUptoRow.holds Try.pinned (OpenSpec.upto fnExactPortWorkSpec)

/-- 'laws.FnExactLoadOrder', WHERE WHAT IT READS IS OF BULK AT MOST 1048576: true; the input reads as it did. -/
def fnExactLoadOrderUptoRow : OpenClaim := { program := "ytpflnjjckeeihaa", sum := "e03c09cbdfbb971e01a6fe9d879899acf9f3f69073d49ac119345e3c48e00d24", func := "loop.example/g00906/laws.FnExactLoadOrder", spec := "fnExactLoadOrder", unfollowed := true, recurses := true, apart := false, narrowed := true }
def FnExactLoadOrderUptoSaid : Prop := fnExactLoadOrderUptoRow.holds Try.pinned (OpenSpec.upto fnExactLoadOrderSpec)

/-- 'laws.FnExactRowPorts', WHERE WHAT IT READS IS OF BULK AT MOST 1048576: true; the input reads as it did. -/
def fnExactRowPortsUptoRow : OpenClaim := { program := "ytpflnjjckeeihaa", sum := "e03c09cbdfbb971e01a6fe9d879899acf9f3f69073d49ac119345e3c48e00d24", func := "loop.example/g00906/laws.FnExactRowPorts", spec := "fnExactRowPorts", unfollowed := true, recurses := true, apart := false, narrowed := true }
def FnExactRowPortsUptoSaid : Prop := fnExactRowPortsUptoRow.holds Try.pinned (OpenSpec.upto fnExactRowPortsSpec)

end Rows
end Go.Proofs.Ytpflnjjckeeihaa
