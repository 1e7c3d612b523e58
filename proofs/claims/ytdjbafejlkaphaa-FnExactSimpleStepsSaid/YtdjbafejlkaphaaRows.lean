/-
  No cell of these rows narrows 'for every input' (looked for: loops, veiled, ifaces, maps, wideKeys, modest, calm, conditions, laid).
  DERIVED. THE GIVEN ROWS OF THIS SEAT. 11 by the template 'for every input the law returns true; each argument reads behind the call as it read before'; 0 by the template 'total and deterministic' (their statements: YtdjbafejlkaphaaTotals.lean).
  GIVEN WITH THE SEED: the statements are not yours to turn. If you find one false, say at which input.
  Laid BY PROGRAM, IN A SANDBOX (cutbox-rows.mjs): the forced cells as the released guide's own fill.sh prints them over the translation 12c0790953e86d3f… (all of the seat's roots in one cut). By AI agents, Wed Nov 11 2026. No macro, syntax, notation, axiom, sorry.
-/
import Derived.Test.YtdjbafejlkaphaaChecked
import GoSem.Claim
import GoSem.ClaimJoined
import GoSem.ClaimMapViews
import Derived.JoinedTies
import Derived.KernelRfl
namespace Go.Proofs.Ytdjbafejlkaphaa
/- THE CELL 'sum', in the pinned program and in every row, IS THE sha256 OF THE DUMP (.gsa) THAT YtdjbafejlkaphaaProg.lean LOADS. Nothing in Lean hashes anything: it is a label: what it is worth is what the hold of that sum in a sandbox is worth. -/
noncomputable def Try.pinned : Pinned := { name := "ytdjbafejlkaphaa", sum := "12c0790953e86d3fd9664e7b6244d6a2f2435c4c1f6d5e3abcfc4a8d444e8464", checked := Try.checked }
namespace Rows
def none {H : Type} : Left H := { results := [], args := [] }

/-- 'laws.FnStacks': WHATEVER THE INPUT: true; the input reads as it did. -/
def fnStacksSpec : ChangeSpec := { name := "fnStacks", fn := fun _ => fun
  | [d] => { results := [.lit (.bool true)], args := [d] }
  | _ => none }
def fnStacksRow : OpenClaim := { program := "ytdjbafejlkaphaa", sum := "12c0790953e86d3fd9664e7b6244d6a2f2435c4c1f6d5e3abcfc4a8d444e8464", func := "loop.example/g00906/laws.FnStacks", spec := "fnStacks", unfollowed := true, recurses := true, plainKeys := false, apart := false }
def FnStacksSaid : Prop := fnStacksRow.holds Try.pinned (OpenSpec.ofChange fnStacksSpec)

/-- ITS FALSE NEIGHBOUR: 'it returns false'. Refute it at one input. -/
def fnStacksWrong : ChangeSpec := { name := "fnStacks", fn := fun _ => fun
  | [d] => { results := [.lit (.bool false)], args := [d] }
  | _ => none }
def FnStacksWrongFalsely : Prop := fnStacksRow.holds Try.pinned (OpenSpec.ofChange fnStacksWrong)

/-- 'laws.FnStackMoves': WHATEVER THE INPUT: true; the input reads as it did. -/
def fnStackMovesSpec : ChangeSpec := { name := "fnStackMoves", fn := fun _ => fun
  | [d] => { results := [.lit (.bool true)], args := [d] }
  | _ => none }
def fnStackMovesRow : OpenClaim := { program := "ytdjbafejlkaphaa", sum := "12c0790953e86d3fd9664e7b6244d6a2f2435c4c1f6d5e3abcfc4a8d444e8464", func := "loop.example/g00906/laws.FnStackMoves", spec := "fnStackMoves", unfollowed := true, recurses := true, plainKeys := false, apart := false }
def FnStackMovesSaid : Prop := fnStackMovesRow.holds Try.pinned (OpenSpec.ofChange fnStackMovesSpec)

/-- ITS FALSE NEIGHBOUR: 'it returns false'. Refute it at one input. -/
def fnStackMovesWrong : ChangeSpec := { name := "fnStackMoves", fn := fun _ => fun
  | [d] => { results := [.lit (.bool false)], args := [d] }
  | _ => none }
def FnStackMovesWrongFalsely : Prop := fnStackMovesRow.holds Try.pinned (OpenSpec.ofChange fnStackMovesWrong)

/-- 'laws.FnRetrieval': WHATEVER THE INPUT: true; the input reads as it did. -/
def fnRetrievalSpec : ChangeSpec := { name := "fnRetrieval", fn := fun _ => fun
  | [d] => { results := [.lit (.bool true)], args := [d] }
  | _ => none }
def fnRetrievalRow : OpenClaim := { program := "ytdjbafejlkaphaa", sum := "12c0790953e86d3fd9664e7b6244d6a2f2435c4c1f6d5e3abcfc4a8d444e8464", func := "loop.example/g00906/laws.FnRetrieval", spec := "fnRetrieval", unfollowed := true, recurses := true, plainKeys := false, apart := false }
def FnRetrievalSaid : Prop := fnRetrievalRow.holds Try.pinned (OpenSpec.ofChange fnRetrievalSpec)

/-- ITS FALSE NEIGHBOUR: 'it returns false'. Refute it at one input. -/
def fnRetrievalWrong : ChangeSpec := { name := "fnRetrieval", fn := fun _ => fun
  | [d] => { results := [.lit (.bool false)], args := [d] }
  | _ => none }
def FnRetrievalWrongFalsely : Prop := fnRetrievalRow.holds Try.pinned (OpenSpec.ofChange fnRetrievalWrong)

/-- 'laws.FnPlans': WHATEVER THE INPUT: true; the input reads as it did. -/
def fnPlansSpec : ChangeSpec := { name := "fnPlans", fn := fun _ => fun
  | [d] => { results := [.lit (.bool true)], args := [d] }
  | _ => none }
def fnPlansRow : OpenClaim := { program := "ytdjbafejlkaphaa", sum := "12c0790953e86d3fd9664e7b6244d6a2f2435c4c1f6d5e3abcfc4a8d444e8464", func := "loop.example/g00906/laws.FnPlans", spec := "fnPlans", unfollowed := true, recurses := true, plainKeys := false, apart := false }
def FnPlansSaid : Prop := fnPlansRow.holds Try.pinned (OpenSpec.ofChange fnPlansSpec)

/-- ITS FALSE NEIGHBOUR: 'it returns false'. Refute it at one input. -/
def fnPlansWrong : ChangeSpec := { name := "fnPlans", fn := fun _ => fun
  | [d] => { results := [.lit (.bool false)], args := [d] }
  | _ => none }
def FnPlansWrongFalsely : Prop := fnPlansRow.holds Try.pinned (OpenSpec.ofChange fnPlansWrong)

/-- 'laws.FnExactRunSteps': WHATEVER THE INPUT: true; the input reads as it did. -/
def fnExactRunStepsSpec : ChangeSpec := { name := "fnExactRunSteps", fn := fun _ => fun
  | [d1, d2] => { results := [.lit (.bool true)], args := [d1, d2] }
  | _ => none }
def fnExactRunStepsRow : OpenClaim := { program := "ytdjbafejlkaphaa", sum := "12c0790953e86d3fd9664e7b6244d6a2f2435c4c1f6d5e3abcfc4a8d444e8464", func := "loop.example/g00906/laws.FnExactRunSteps", spec := "fnExactRunSteps", plainKeys := false, apart := false }
def FnExactRunStepsSaid : Prop := fnExactRunStepsRow.holds Try.pinned (OpenSpec.ofChange fnExactRunStepsSpec)

/-- ITS FALSE NEIGHBOUR: 'it returns false'. Refute it at one input. -/
def fnExactRunStepsWrong : ChangeSpec := { name := "fnExactRunSteps", fn := fun _ => fun
  | [d1, d2] => { results := [.lit (.bool false)], args := [d1, d2] }
  | _ => none }
def FnExactRunStepsWrongFalsely : Prop := fnExactRunStepsRow.holds Try.pinned (OpenSpec.ofChange fnExactRunStepsWrong)

/-- 'laws.FnExactIsPlan': WHATEVER THE INPUT: true; the input reads as it did. -/
def fnExactIsPlanSpec : ChangeSpec := { name := "fnExactIsPlan", fn := fun _ => fun
  | [d1, d2, d3] => { results := [.lit (.bool true)], args := [d1, d2, d3] }
  | _ => none }
def fnExactIsPlanRow : OpenClaim := { program := "ytdjbafejlkaphaa", sum := "12c0790953e86d3fd9664e7b6244d6a2f2435c4c1f6d5e3abcfc4a8d444e8464", func := "loop.example/g00906/laws.FnExactIsPlan", spec := "fnExactIsPlan", plainKeys := false, apart := false }
def FnExactIsPlanSaid : Prop := fnExactIsPlanRow.holds Try.pinned (OpenSpec.ofChange fnExactIsPlanSpec)

/-- ITS FALSE NEIGHBOUR: 'it returns false'. Refute it at one input. -/
def fnExactIsPlanWrong : ChangeSpec := { name := "fnExactIsPlan", fn := fun _ => fun
  | [d1, d2, d3] => { results := [.lit (.bool false)], args := [d1, d2, d3] }
  | _ => none }
def FnExactIsPlanWrongFalsely : Prop := fnExactIsPlanRow.holds Try.pinned (OpenSpec.ofChange fnExactIsPlanWrong)

/-- 'laws.FnExactRelocationBound': WHATEVER THE INPUT: true; the input reads as it did. -/
def fnExactRelocationBoundSpec : ChangeSpec := { name := "fnExactRelocationBound", fn := fun _ => fun
  | [d1, d2] => { results := [.lit (.bool true)], args := [d1, d2] }
  | _ => none }
def fnExactRelocationBoundRow : OpenClaim := { program := "ytdjbafejlkaphaa", sum := "12c0790953e86d3fd9664e7b6244d6a2f2435c4c1f6d5e3abcfc4a8d444e8464", func := "loop.example/g00906/laws.FnExactRelocationBound", spec := "fnExactRelocationBound", recurses := true, plainKeys := false, apart := false }
def FnExactRelocationBoundSaid : Prop := fnExactRelocationBoundRow.holds Try.pinned (OpenSpec.ofChange fnExactRelocationBoundSpec)

/-- ITS FALSE NEIGHBOUR: 'it returns false'. Refute it at one input. -/
def fnExactRelocationBoundWrong : ChangeSpec := { name := "fnExactRelocationBound", fn := fun _ => fun
  | [d1, d2] => { results := [.lit (.bool false)], args := [d1, d2] }
  | _ => none }
def FnExactRelocationBoundWrongFalsely : Prop := fnExactRelocationBoundRow.holds Try.pinned (OpenSpec.ofChange fnExactRelocationBoundWrong)

/-- 'laws.FnExactFewestRelocations': WHATEVER THE INPUT: true; the input reads as it did. -/
def fnExactFewestRelocationsSpec : ChangeSpec := { name := "fnExactFewestRelocations", fn := fun _ => fun
  | [d1, d2] => { results := [.lit (.bool true)], args := [d1, d2] }
  | _ => none }
def fnExactFewestRelocationsRow : OpenClaim := { program := "ytdjbafejlkaphaa", sum := "12c0790953e86d3fd9664e7b6244d6a2f2435c4c1f6d5e3abcfc4a8d444e8464", func := "loop.example/g00906/laws.FnExactFewestRelocations", spec := "fnExactFewestRelocations", unfollowed := true, recurses := true, plainKeys := false, apart := false }
def FnExactFewestRelocationsSaid : Prop := fnExactFewestRelocationsRow.holds Try.pinned (OpenSpec.ofChange fnExactFewestRelocationsSpec)

/-- ITS FALSE NEIGHBOUR: 'it returns false'. Refute it at one input. -/
def fnExactFewestRelocationsWrong : ChangeSpec := { name := "fnExactFewestRelocations", fn := fun _ => fun
  | [d1, d2] => { results := [.lit (.bool false)], args := [d1, d2] }
  | _ => none }
def FnExactFewestRelocationsWrongFalsely : Prop := fnExactFewestRelocationsRow.holds Try.pinned (OpenSpec.ofChange fnExactFewestRelocationsWrong)

/-- 'laws.FnExactBestSteps': WHATEVER THE INPUT: true; the input reads as it did. -/
def fnExactBestStepsSpec : ChangeSpec := { name := "fnExactBestSteps", fn := fun _ => fun
  | [d1, d2] => { results := [.lit (.bool true)], args := [d1, d2] }
  | _ => none }
def fnExactBestStepsRow : OpenClaim := { program := "ytdjbafejlkaphaa", sum := "12c0790953e86d3fd9664e7b6244d6a2f2435c4c1f6d5e3abcfc4a8d444e8464", func := "loop.example/g00906/laws.FnExactBestSteps", spec := "fnExactBestSteps", unfollowed := true, recurses := true, plainKeys := false, apart := false }
def FnExactBestStepsSaid : Prop := fnExactBestStepsRow.holds Try.pinned (OpenSpec.ofChange fnExactBestStepsSpec)

/-- ITS FALSE NEIGHBOUR: 'it returns false'. Refute it at one input. -/
def fnExactBestStepsWrong : ChangeSpec := { name := "fnExactBestSteps", fn := fun _ => fun
  | [d1, d2] => { results := [.lit (.bool false)], args := [d1, d2] }
  | _ => none }
def FnExactBestStepsWrongFalsely : Prop := fnExactBestStepsRow.holds Try.pinned (OpenSpec.ofChange fnExactBestStepsWrong)

/-- 'laws.FnExactSimpleSteps': WHATEVER THE INPUT: true; the input reads as it did. -/
def fnExactSimpleStepsSpec : ChangeSpec := { name := "fnExactSimpleSteps", fn := fun _ => fun
  | [d1, d2] => { results := [.lit (.bool true)], args := [d1, d2] }
  | _ => none }
def fnExactSimpleStepsRow : OpenClaim := { program := "ytdjbafejlkaphaa", sum := "12c0790953e86d3fd9664e7b6244d6a2f2435c4c1f6d5e3abcfc4a8d444e8464", func := "loop.example/g00906/laws.FnExactSimpleSteps", spec := "fnExactSimpleSteps", unfollowed := true, recurses := true, plainKeys := false, apart := false }
def FnExactSimpleStepsSaid : Prop := fnExactSimpleStepsRow.holds Try.pinned (OpenSpec.ofChange fnExactSimpleStepsSpec)

/-- ITS FALSE NEIGHBOUR: 'it returns false'. Refute it at one input. -/
def fnExactSimpleStepsWrong : ChangeSpec := { name := "fnExactSimpleSteps", fn := fun _ => fun
  | [d1, d2] => { results := [.lit (.bool false)], args := [d1, d2] }
  | _ => none }
def FnExactSimpleStepsWrongFalsely : Prop := fnExactSimpleStepsRow.holds Try.pinned (OpenSpec.ofChange fnExactSimpleStepsWrong)

/-- 'laws.FnExactCountRelocations': WHATEVER THE INPUT: true; the input reads as it did. -/
def fnExactCountRelocationsSpec : ChangeSpec := { name := "fnExactCountRelocations", fn := fun _ => fun
  | [d] => { results := [.lit (.bool true)], args := [d] }
  | _ => none }
def fnExactCountRelocationsRow : OpenClaim := { program := "ytdjbafejlkaphaa", sum := "12c0790953e86d3fd9664e7b6244d6a2f2435c4c1f6d5e3abcfc4a8d444e8464", func := "loop.example/g00906/laws.FnExactCountRelocations", spec := "fnExactCountRelocations", plainKeys := false, apart := false }
def FnExactCountRelocationsSaid : Prop := fnExactCountRelocationsRow.holds Try.pinned (OpenSpec.ofChange fnExactCountRelocationsSpec)

/-- ITS FALSE NEIGHBOUR: 'it returns false'. Refute it at one input. -/
def fnExactCountRelocationsWrong : ChangeSpec := { name := "fnExactCountRelocations", fn := fun _ => fun
  | [d] => { results := [.lit (.bool false)], args := [d] }
  | _ => none }
def FnExactCountRelocationsWrongFalsely : Prop := fnExactCountRelocationsRow.holds Try.pinned (OpenSpec.ofChange fnExactCountRelocationsWrong)

/- THE SECOND FORM. 'bulk': how many values and letters a reading holds, each counted each time it is reached (what is shared counts as often as it is met; a slice's spare places count too). A statement '..UptoSaid' is the law's where the arguments, and the package variables that the reading takes, are together of bulk at most 1048576: NARROWER than '..Said'. Prove '..Said' where nothing that the law and all that it calls make is longer than what came in: it says more and counts as full. Else prove '..UptoSaid'. A law counts once. -/
mutual
def uptoBulk {H : Type} : DataW H → Nat
  | .lit (.string bytes) => bytes.length + 1
  | .lit _ => 1
  | .nil => 1
  | .ptr d => uptoBulk d + 1
  | .slice elems spare => uptoBulkAll elems + uptoBulkAll spare + 1
  | .agg parts => uptoBulkAll parts + 1
  | .iface _ d => uptoBulk d + 1
  | .map entries => uptoBulkEntries entries + 1
  | .held _ => 1
def uptoBulkAll {H : Type} : List (DataW H) → Nat
  | [] => 0
  | d :: r => uptoBulk d + uptoBulkAll r
def uptoBulkEntries {H : Type} : List (Lit × DataW H) → Nat
  | [] => 0
  | x :: r => uptoBulkEntry x + uptoBulkEntries r
def uptoBulkEntry {H : Type} : Lit × DataW H → Nat
  | (.string bytes, d) => bytes.length + uptoBulk d + 1
  | (_, d) => uptoBulk d + 1
 end
def uptoSmall : (H : Type) → List (DataW H) → Bool := fun _ ds => decide (uptoBulkAll ds ≤ 1048576)
def OpenSpec.upto (s : _root_.Go.ChangeSpec) : _root_.Go.OpenSpec := { _root_.Go.OpenSpec.ofChange s with cond := some uptoSmall }

/-- 'laws.FnStacks', WHERE WHAT IT READS IS OF BULK AT MOST 1048576: true; the input reads as it did. -/
def fnStacksUptoRow : OpenClaim := { program := "ytdjbafejlkaphaa", sum := "12c0790953e86d3fd9664e7b6244d6a2f2435c4c1f6d5e3abcfc4a8d444e8464", func := "loop.example/g00906/laws.FnStacks", spec := "fnStacks", unfollowed := true, recurses := true, plainKeys := false, apart := false, narrowed := true }
def FnStacksUptoSaid : Prop := fnStacksUptoRow.holds Try.pinned (OpenSpec.upto fnStacksSpec)

/-- 'laws.FnStackMoves', WHERE WHAT IT READS IS OF BULK AT MOST 1048576: true; the input reads as it did. -/
def fnStackMovesUptoRow : OpenClaim := { program := "ytdjbafejlkaphaa", sum := "12c0790953e86d3fd9664e7b6244d6a2f2435c4c1f6d5e3abcfc4a8d444e8464", func := "loop.example/g00906/laws.FnStackMoves", spec := "fnStackMoves", unfollowed := true, recurses := true, plainKeys := false, apart := false, narrowed := true }
def FnStackMovesUptoSaid : Prop := fnStackMovesUptoRow.holds Try.pinned (OpenSpec.upto fnStackMovesSpec)

/-- 'laws.FnRetrieval', WHERE WHAT IT READS IS OF BULK AT MOST 1048576: true; the input reads as it did. -/
def fnRetrievalUptoRow : OpenClaim := { program := "ytdjbafejlkaphaa", sum := "12c0790953e86d3fd9664e7b6244d6a2f2435c4c1f6d5e3abcfc4a8d444e8464", func := "loop.example/g00906/laws.FnRetrieval", spec := "fnRetrieval", unfollowed := true, recurses := true, plainKeys := false, apart := false, narrowed := true }
def FnRetrievalUptoSaid : Prop := fnRetrievalUptoRow.holds Try.pinned (OpenSpec.upto fnRetrievalSpec)

/-- 'laws.FnPlans', WHERE WHAT IT READS IS OF BULK AT MOST 1048576: true; the input reads as it did. -/
def fnPlansUptoRow : OpenClaim := { program := "ytdjbafejlkaphaa", sum := "12c0790953e86d3fd9664e7b6244d6a2f2435c4c1f6d5e3abcfc4a8d444e8464", func := "loop.example/g00906/laws.FnPlans", spec := "fnPlans", unfollowed := true, recurses := true, plainKeys := false, apart := false, narrowed := true }
def FnPlansUptoSaid : Prop := fnPlansUptoRow.holds Try.pinned (OpenSpec.upto fnPlansSpec)

/-- 'laws.FnExactRunSteps', WHERE WHAT IT READS IS OF BULK AT MOST 1048576: true; the input reads as it did. -/
def fnExactRunStepsUptoRow : OpenClaim := { program := "ytdjbafejlkaphaa", sum := "12c0790953e86d3fd9664e7b6244d6a2f2435c4c1f6d5e3abcfc4a8d444e8464", func := "loop.example/g00906/laws.FnExactRunSteps", spec := "fnExactRunSteps", plainKeys := false, apart := false, narrowed := true }
def FnExactRunStepsUptoSaid : Prop := fnExactRunStepsUptoRow.holds Try.pinned (OpenSpec.upto fnExactRunStepsSpec)

/-- 'laws.FnExactIsPlan', WHERE WHAT IT READS IS OF BULK AT MOST 1048576: true; the input reads as it did. -/
def fnExactIsPlanUptoRow : OpenClaim := { program := "ytdjbafejlkaphaa", sum := "12c0790953e86d3fd9664e7b6244d6a2f2435c4c1f6d5e3abcfc4a8d444e8464", func := "loop.example/g00906/laws.FnExactIsPlan", spec := "fnExactIsPlan", plainKeys := false, apart := false, narrowed := true }
def FnExactIsPlanUptoSaid : Prop := fnExactIsPlanUptoRow.holds Try.pinned (OpenSpec.upto fnExactIsPlanSpec)

/-- 'laws.FnExactRelocationBound', WHERE WHAT IT READS IS OF BULK AT MOST 1048576: true; the input reads as it did. -/
def fnExactRelocationBoundUptoRow : OpenClaim := { program := "ytdjbafejlkaphaa", sum := "12c0790953e86d3fd9664e7b6244d6a2f2435c4c1f6d5e3abcfc4a8d444e8464", func := "loop.example/g00906/laws.FnExactRelocationBound", spec := "fnExactRelocationBound", recurses := true, plainKeys := false, apart := false, narrowed := true }
def FnExactRelocationBoundUptoSaid : Prop := fnExactRelocationBoundUptoRow.holds Try.pinned (OpenSpec.upto fnExactRelocationBoundSpec)

/-- 'laws.FnExactFewestRelocations', WHERE WHAT IT READS IS OF BULK AT MOST 1048576: true; the input reads as it did. -/
def fnExactFewestRelocationsUptoRow : OpenClaim := { program := "ytdjbafejlkaphaa", sum := "12c0790953e86d3fd9664e7b6244d6a2f2435c4c1f6d5e3abcfc4a8d444e8464", func := "loop.example/g00906/laws.FnExactFewestRelocations", spec := "fnExactFewestRelocations", unfollowed := true, recurses := true, plainKeys := false, apart := false, narrowed := true }
def FnExactFewestRelocationsUptoSaid : Prop := fnExactFewestRelocationsUptoRow.holds Try.pinned (OpenSpec.upto fnExactFewestRelocationsSpec)

/-- 'laws.FnExactBestSteps', WHERE WHAT IT READS IS OF BULK AT MOST 1048576: true; the input reads as it did. -/
def fnExactBestStepsUptoRow : OpenClaim := { program := "ytdjbafejlkaphaa", sum := "12c0790953e86d3fd9664e7b6244d6a2f2435c4c1f6d5e3abcfc4a8d444e8464", func := "loop.example/g00906/laws.FnExactBestSteps", spec := "fnExactBestSteps", unfollowed := true, recurses := true, plainKeys := false, apart := false, narrowed := true }
def FnExactBestStepsUptoSaid : Prop := fnExactBestStepsUptoRow.holds Try.pinned (OpenSpec.upto fnExactBestStepsSpec)

/-- 'laws.FnExactSimpleSteps', WHERE WHAT IT READS IS OF BULK AT MOST 1048576: true; the input reads as it did. -/
def fnExactSimpleStepsUptoRow : OpenClaim := { program := "ytdjbafejlkaphaa", sum := "12c0790953e86d3fd9664e7b6244d6a2f2435c4c1f6d5e3abcfc4a8d444e8464", func := "loop.example/g00906/laws.FnExactSimpleSteps", spec := "fnExactSimpleSteps", unfollowed := true, recurses := true, plainKeys := false, apart := false, narrowed := true }
def FnExactSimpleStepsUptoSaid : Prop := fnExactSimpleStepsUptoRow.holds Try.pinned (OpenSpec.upto fnExactSimpleStepsSpec)

/-- 'laws.FnExactCountRelocations', WHERE WHAT IT READS IS OF BULK AT MOST 1048576: true; the input reads as it did. -/
def fnExactCountRelocationsUptoRow : OpenClaim := { program := "ytdjbafejlkaphaa", sum := "12c0790953e86d3fd9664e7b6244d6a2f2435c4c1f6d5e3abcfc4a8d444e8464", func := "loop.example/g00906/laws.FnExactCountRelocations", spec := "fnExactCountRelocations", plainKeys := false, apart := false, narrowed := true }
def FnExactCountRelocationsUptoSaid : Prop := fnExactCountRelocationsUptoRow.holds Try.pinned (OpenSpec.upto fnExactCountRelocationsSpec)

end Rows
end Go.Proofs.Ytdjbafejlkaphaa
