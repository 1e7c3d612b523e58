/-
  No cell of these rows narrows 'for every input' (looked for: loops, veiled, ifaces, maps, wideKeys, modest, calm, conditions, laid).
  DERIVED. THE GIVEN ROWS OF THIS SEAT. 6 by the template 'for every input the law returns true; each argument reads behind the call as it read before'; 0 by the template 'total and deterministic' (their statements: YtonploneihnekaaTotals.lean).
  GIVEN WITH THE SEED: the statements are not yours to turn. If you find one false, say at which input.
  Laid BY PROGRAM, IN A SANDBOX (cutbox-rows.mjs): the forced cells as the released guide's own fill.sh prints them over the translation 0100640397b1045a… (all of the seat's roots in one cut). By AI agents, Wed Nov 11 2026. No macro, syntax, notation, axiom, sorry.
-/
import Derived.Test.YtonploneihnekaaChecked
import GoSem.Claim
import GoSem.ClaimJoined
import GoSem.ClaimMapViews
import Derived.JoinedTies
import Derived.KernelRfl
namespace Go.Proofs.Ytonploneihnekaa
/- THE CELL 'sum', in the pinned program and in every row, IS THE sha256 OF THE DUMP (.gsa) THAT YtonploneihnekaaProg.lean LOADS. Nothing in Lean hashes anything: it is a label: what it is worth is what the hold of that sum in a sandbox is worth. -/
noncomputable def Try.pinned : Pinned := { name := "ytonploneihnekaa", sum := "0100640397b1045af62c86ad38dc81a1a8ee7e9b1b3f755b4fe748f5486b2512", checked := Try.checked }
namespace Rows
def none {H : Type} : Left H := { results := [], args := [] }

/-- 'laws.FnExactYardFindings': WHATEVER THE INPUT: true; the input reads as it did. -/
def fnExactYardFindingsSpec : ChangeSpec := { name := "fnExactYardFindings", fn := fun _ => fun
  | [d1, d2, d3] => { results := [.lit (.bool true)], args := [d1, d2, d3] }
  | _ => none }
def fnExactYardFindingsRow : OpenClaim := { program := "ytonploneihnekaa", sum := "0100640397b1045af62c86ad38dc81a1a8ee7e9b1b3f755b4fe748f5486b2512", func := "loop.example/g00906/laws.FnExactYardFindings", spec := "fnExactYardFindings", unfollowed := true, recurses := true, apart := false }
def FnExactYardFindingsSaid : Prop := fnExactYardFindingsRow.holds Try.pinned (OpenSpec.ofChange fnExactYardFindingsSpec)

/-- ITS FALSE NEIGHBOUR: 'it returns false'. Refute it at one input. -/
def fnExactYardFindingsWrong : ChangeSpec := { name := "fnExactYardFindings", fn := fun _ => fun
  | [d1, d2, d3] => { results := [.lit (.bool false)], args := [d1, d2, d3] }
  | _ => none }
def FnExactYardFindingsWrongFalsely : Prop := fnExactYardFindingsRow.holds Try.pinned (OpenSpec.ofChange fnExactYardFindingsWrong)

/-- 'laws.FnExactKeepsYardRules': WHATEVER THE INPUT: true; the input reads as it did. -/
def fnExactKeepsYardRulesSpec : ChangeSpec := { name := "fnExactKeepsYardRules", fn := fun _ => fun
  | [d1, d2, d3] => { results := [.lit (.bool true)], args := [d1, d2, d3] }
  | _ => none }
def fnExactKeepsYardRulesRow : OpenClaim := { program := "ytonploneihnekaa", sum := "0100640397b1045af62c86ad38dc81a1a8ee7e9b1b3f755b4fe748f5486b2512", func := "loop.example/g00906/laws.FnExactKeepsYardRules", spec := "fnExactKeepsYardRules", unfollowed := true, recurses := true, apart := false }
def FnExactKeepsYardRulesSaid : Prop := fnExactKeepsYardRulesRow.holds Try.pinned (OpenSpec.ofChange fnExactKeepsYardRulesSpec)

/-- ITS FALSE NEIGHBOUR: 'it returns false'. Refute it at one input. -/
def fnExactKeepsYardRulesWrong : ChangeSpec := { name := "fnExactKeepsYardRules", fn := fun _ => fun
  | [d1, d2, d3] => { results := [.lit (.bool false)], args := [d1, d2, d3] }
  | _ => none }
def FnExactKeepsYardRulesWrongFalsely : Prop := fnExactKeepsYardRulesRow.holds Try.pinned (OpenSpec.ofChange fnExactKeepsYardRulesWrong)

/-- 'laws.FnExactAllowedStacks': WHATEVER THE INPUT: true; the input reads as it did. -/
def fnExactAllowedStacksSpec : ChangeSpec := { name := "fnExactAllowedStacks", fn := fun _ => fun
  | [d1, d2, d3, d4] => { results := [.lit (.bool true)], args := [d1, d2, d3, d4] }
  | _ => none }
def fnExactAllowedStacksRow : OpenClaim := { program := "ytonploneihnekaa", sum := "0100640397b1045af62c86ad38dc81a1a8ee7e9b1b3f755b4fe748f5486b2512", func := "loop.example/g00906/laws.FnExactAllowedStacks", spec := "fnExactAllowedStacks", unfollowed := true, recurses := true, apart := false }
def FnExactAllowedStacksSaid : Prop := fnExactAllowedStacksRow.holds Try.pinned (OpenSpec.ofChange fnExactAllowedStacksSpec)

/-- ITS FALSE NEIGHBOUR: 'it returns false'. Refute it at one input. -/
def fnExactAllowedStacksWrong : ChangeSpec := { name := "fnExactAllowedStacks", fn := fun _ => fun
  | [d1, d2, d3, d4] => { results := [.lit (.bool false)], args := [d1, d2, d3, d4] }
  | _ => none }
def FnExactAllowedStacksWrongFalsely : Prop := fnExactAllowedStacksRow.holds Try.pinned (OpenSpec.ofChange fnExactAllowedStacksWrong)

/-- 'laws.FnExactCountFindings': WHATEVER THE INPUT: true; the input reads as it did. -/
def fnExactCountFindingsSpec : ChangeSpec := { name := "fnExactCountFindings", fn := fun _ => fun
  | [d1, d2, d3] => { results := [.lit (.bool true)], args := [d1, d2, d3] }
  | _ => none }
def fnExactCountFindingsRow : OpenClaim := { program := "ytonploneihnekaa", sum := "0100640397b1045af62c86ad38dc81a1a8ee7e9b1b3f755b4fe748f5486b2512", func := "loop.example/g00906/laws.FnExactCountFindings", spec := "fnExactCountFindings", unfollowed := true, recurses := true, apart := false }
def FnExactCountFindingsSaid : Prop := fnExactCountFindingsRow.holds Try.pinned (OpenSpec.ofChange fnExactCountFindingsSpec)

/-- ITS FALSE NEIGHBOUR: 'it returns false'. Refute it at one input. -/
def fnExactCountFindingsWrong : ChangeSpec := { name := "fnExactCountFindings", fn := fun _ => fun
  | [d1, d2, d3] => { results := [.lit (.bool false)], args := [d1, d2, d3] }
  | _ => none }
def FnExactCountFindingsWrongFalsely : Prop := fnExactCountFindingsRow.holds Try.pinned (OpenSpec.ofChange fnExactCountFindingsWrong)

/-- 'laws.FnExactWorstStack': WHATEVER THE INPUT: true; the input reads as it did. -/
def fnExactWorstStackSpec : ChangeSpec := { name := "fnExactWorstStack", fn := fun _ => fun
  | [d1, d2, d3] => { results := [.lit (.bool true)], args := [d1, d2, d3] }
  | _ => none }
def fnExactWorstStackRow : OpenClaim := { program := "ytonploneihnekaa", sum := "0100640397b1045af62c86ad38dc81a1a8ee7e9b1b3f755b4fe748f5486b2512", func := "loop.example/g00906/laws.FnExactWorstStack", spec := "fnExactWorstStack", unfollowed := true, recurses := true, apart := false }
def FnExactWorstStackSaid : Prop := fnExactWorstStackRow.holds Try.pinned (OpenSpec.ofChange fnExactWorstStackSpec)

/-- ITS FALSE NEIGHBOUR: 'it returns false'. Refute it at one input. -/
def fnExactWorstStackWrong : ChangeSpec := { name := "fnExactWorstStack", fn := fun _ => fun
  | [d1, d2, d3] => { results := [.lit (.bool false)], args := [d1, d2, d3] }
  | _ => none }
def FnExactWorstStackWrongFalsely : Prop := fnExactWorstStackRow.holds Try.pinned (OpenSpec.ofChange fnExactWorstStackWrong)

/-- 'laws.FnExactHelpfulMoves': WHATEVER THE INPUT: true; the input reads as it did. -/
def fnExactHelpfulMovesSpec : ChangeSpec := { name := "fnExactHelpfulMoves", fn := fun _ => fun
  | [d1, d2, d3] => { results := [.lit (.bool true)], args := [d1, d2, d3] }
  | _ => none }
def fnExactHelpfulMovesRow : OpenClaim := { program := "ytonploneihnekaa", sum := "0100640397b1045af62c86ad38dc81a1a8ee7e9b1b3f755b4fe748f5486b2512", func := "loop.example/g00906/laws.FnExactHelpfulMoves", spec := "fnExactHelpfulMoves", unfollowed := true, recurses := true, apart := false }
def FnExactHelpfulMovesSaid : Prop := fnExactHelpfulMovesRow.holds Try.pinned (OpenSpec.ofChange fnExactHelpfulMovesSpec)

/-- ITS FALSE NEIGHBOUR: 'it returns false'. Refute it at one input. -/
def fnExactHelpfulMovesWrong : ChangeSpec := { name := "fnExactHelpfulMoves", fn := fun _ => fun
  | [d1, d2, d3] => { results := [.lit (.bool false)], args := [d1, d2, d3] }
  | _ => none }
def FnExactHelpfulMovesWrongFalsely : Prop := fnExactHelpfulMovesRow.holds Try.pinned (OpenSpec.ofChange fnExactHelpfulMovesWrong)

/- THE SECOND FORM. 'bulk': how many values and letters a reading holds, each counted each time it is reached (what is shared counts as often as it is met; a slice's spare places count too). A statement '..UptoSaid' is the law's where the arguments, and the package variables that the reading takes, are together of bulk at most 1048576: NARROWER than '..Said'. Prove '..Said' where nothing that the law and all that it calls make is longer than what came in: it says more and counts as full. Else prove '..UptoSaid'. A law counts once. -/
mutual
def uptoBulk {H : Type} : DataW H → Nat
  | .lit (.string bytes) => bytes.length + 1
  | .lit _ => 1
  | .nil => 1
  | .ptr d => uptoBulk d + 1
  | .slice elems spare => uptoBulkAll elems + uptoBulkAll spare + 1
  | .agg parts => uptoBulkAll parts + 1
  | .iface _ d => uptoBulk d + 1
  | .map entries => uptoBulkEntries entries + 1
  | .held _ => 1
def uptoBulkAll {H : Type} : List (DataW H) → Nat
  | [] => 0
  | d :: r => uptoBulk d + uptoBulkAll r
def uptoBulkEntries {H : Type} : List (Lit × DataW H) → Nat
  | [] => 0
  | x :: r => uptoBulkEntry x + uptoBulkEntries r
def uptoBulkEntry {H : Type} : Lit × DataW H → Nat
  | (.string bytes, d) => bytes.length + uptoBulk d + 1
  | (_, d) => uptoBulk d + 1
 end
def uptoSmall : (H : Type) → List (DataW H) → Bool := fun _ ds => decide (uptoBulkAll ds ≤ 1048576)
def OpenSpec.upto (s : _root_.Go.ChangeSpec) : _root_.Go.OpenSpec := { _root_.Go.OpenSpec.ofChange s with cond := some uptoSmall }

/-- 'laws.FnExactYardFindings', WHERE WHAT IT READS IS OF BULK AT MOST 1048576: true; the input reads as it did. -/
def fnExactYardFindingsUptoRow : OpenClaim := { program := "ytonploneihnekaa", sum := "0100640397b1045af62c86ad38dc81a1a8ee7e9b1b3f755b4fe748f5486b2512", func := "loop.example/g00906/laws.FnExactYardFindings", spec := "fnExactYardFindings", unfollowed := true, recurses := true, apart := false, narrowed := true }
def FnExactYardFindingsUptoSaid : Prop := fnExactYardFindingsUptoRow.holds Try.pinned (OpenSpec.upto fnExactYardFindingsSpec)

/-- 'laws.FnExactKeepsYardRules', WHERE WHAT IT READS IS OF BULK AT MOST 1048576: true; the input reads as it did. -/
def fnExactKeepsYardRulesUptoRow : OpenClaim := { program := "ytonploneihnekaa", sum := "0100640397b1045af62c86ad38dc81a1a8ee7e9b1b3f755b4fe748f5486b2512", func := "loop.example/g00906/laws.FnExactKeepsYardRules", spec := "fnExactKeepsYardRules", unfollowed := true, recurses := true, apart := false, narrowed := true }
def FnExactKeepsYardRulesUptoSaid : Prop := fnExactKeepsYardRulesUptoRow.holds Try.pinned (OpenSpec.upto fnExactKeepsYardRulesSpec)

/-- 'laws.FnExactAllowedStacks', WHERE WHAT IT READS IS OF BULK AT MOST 1048576: true; the input reads as it did. -/
def fnExactAllowedStacksUptoRow : OpenClaim := { program := "ytonploneihnekaa", sum := "0100640397b1045af62c86ad38dc81a1a8ee7e9b1b3f755b4fe748f5486b2512", func := "loop.example/g00906/laws.FnExactAllowedStacks", spec := "fnExactAllowedStacks", unfollowed := true, recurses := true, apart := false, narrowed := true }
def FnExactAllowedStacksUptoSaid : Prop := fnExactAllowedStacksUptoRow.holds Try.pinned (OpenSpec.upto fnExactAllowedStacksSpec)

/-- 'laws.FnExactCountFindings', WHERE WHAT IT READS IS OF BULK AT MOST 1048576: true; the input reads as it did. -/
def fnExactCountFindingsUptoRow : OpenClaim := { program := "ytonploneihnekaa", sum := "0100640397b1045af62c86ad38dc81a1a8ee7e9b1b3f755b4fe748f5486b2512", func := "loop.example/g00906/laws.FnExactCountFindings", spec := "fnExactCountFindings", unfollowed := true, recurses := true, apart := false, narrowed := true }
def FnExactCountFindingsUptoSaid : Prop := fnExactCountFindingsUptoRow.holds Try.pinned (OpenSpec.upto fnExactCountFindingsSpec)

/-- 'laws.FnExactWorstStack', WHERE WHAT IT READS IS OF BULK AT MOST 1048576: true; the input reads as it did. -/
def fnExactWorstStackUptoRow : OpenClaim := { program := "ytonploneihnekaa", sum := "0100640397b1045af62c86ad38dc81a1a8ee7e9b1b3f755b4fe748f5486b2512", func := "loop.example/g00906/laws.FnExactWorstStack", spec := "fnExactWorstStack", unfollowed := true, recurses := true, apart := false, narrowed := true }
def FnExactWorstStackUptoSaid : Prop := fnExactWorstStackUptoRow.holds Try.pinned (OpenSpec.upto fnExactWorstStackSpec)

/-- 'laws.FnExactHelpfulMoves', WHERE WHAT IT READS IS OF BULK AT MOST 1048576: true; the input reads as it did. -/
def fnExactHelpfulMovesUptoRow : OpenClaim := { program := "ytonploneihnekaa", sum := "0100640397b1045af62c86ad38dc81a1a8ee7e9b1b3f755b4fe748f5486b2512", func := "loop.example/g00906/laws.FnExactHelpfulMoves", spec := "fnExactHelpfulMoves", unfollowed := true, recurses := true, apart := false, narrowed := true }
def FnExactHelpfulMovesUptoSaid : Prop := fnExactHelpfulMovesUptoRow.holds Try.pinned (OpenSpec.upto fnExactHelpfulMovesSpec)

end Rows
end Go.Proofs.Ytonploneihnekaa
