/-
  No cell of these rows narrows 'for every input' (looked for: loops, veiled, ifaces, maps, wideKeys, modest, calm, conditions, laid).
  DERIVED. THE GIVEN ROWS OF THIS SEAT. 7 by the template 'for every input the law returns true; each argument reads behind the call as it read before'; 0 by the template 'total and deterministic' (their statements: YtpdonhdffniabaaTotals.lean).
  GIVEN WITH THE SEED: the statements are not yours to turn. If you find one false, say at which input.
  Laid BY PROGRAM, IN A SANDBOX (cutbox-rows.mjs): the forced cells as the released guide's own fill.sh prints them over the translation a68ddade84f15f9c… (all of the seat's roots in one cut). By AI agents, Wed Nov 11 2026. No macro, syntax, notation, axiom, sorry.
-/
import Derived.Test.YtpdonhdffniabaaChecked
import GoSem.Claim
import GoSem.ClaimJoined
import GoSem.ClaimMapViews
import Derived.JoinedTies
import Derived.KernelRfl
namespace Go.Proofs.Ytpdonhdffniabaa
/- THE CELL 'sum', in the pinned program and in every row, IS THE sha256 OF THE DUMP (.gsa) THAT YtpdonhdffniabaaProg.lean LOADS. Nothing in Lean hashes anything: it is a label: what it is worth is what the hold of that sum in a sandbox is worth. -/
noncomputable def Try.pinned : Pinned := { name := "ytpdonhdffniabaa", sum := "a68ddade84f15f9cec1fe2d600cf2a811db227f1917d8f30eeb30663b7231c99", checked := Try.checked }
namespace Rows
def none {H : Type} : Left H := { results := [], args := [] }

/-- 'laws.FnExactIsValidContainer': WHATEVER THE INPUT: true; the input reads as it did. -/
def fnExactIsValidContainerSpec : ChangeSpec := { name := "fnExactIsValidContainer", fn := fun _ => fun
  | [d] => { results := [.lit (.bool true)], args := [d] }
  | _ => none }
def fnExactIsValidContainerRow : OpenClaim := { program := "ytpdonhdffniabaa", sum := "a68ddade84f15f9cec1fe2d600cf2a811db227f1917d8f30eeb30663b7231c99", func := "loop.example/g00906/laws.FnExactIsValidContainer", spec := "fnExactIsValidContainer", apart := false }
def FnExactIsValidContainerSaid : Prop := fnExactIsValidContainerRow.holds Try.pinned (OpenSpec.ofChange fnExactIsValidContainerSpec)

/-- ITS FALSE NEIGHBOUR: 'it returns false'. Refute it at one input. -/
def fnExactIsValidContainerWrong : ChangeSpec := { name := "fnExactIsValidContainer", fn := fun _ => fun
  | [d] => { results := [.lit (.bool false)], args := [d] }
  | _ => none }
def FnExactIsValidContainerWrongFalsely : Prop := fnExactIsValidContainerRow.holds Try.pinned (OpenSpec.ofChange fnExactIsValidContainerWrong)

/-- 'laws.FnExactIsValidContainers': WHATEVER THE INPUT: true; the input reads as it did. -/
def fnExactIsValidContainersSpec : ChangeSpec := { name := "fnExactIsValidContainers", fn := fun _ => fun
  | [d] => { results := [.lit (.bool true)], args := [d] }
  | _ => none }
def fnExactIsValidContainersRow : OpenClaim := { program := "ytpdonhdffniabaa", sum := "a68ddade84f15f9cec1fe2d600cf2a811db227f1917d8f30eeb30663b7231c99", func := "loop.example/g00906/laws.FnExactIsValidContainers", spec := "fnExactIsValidContainers", unfollowed := true, recurses := true, apart := false }
def FnExactIsValidContainersSaid : Prop := fnExactIsValidContainersRow.holds Try.pinned (OpenSpec.ofChange fnExactIsValidContainersSpec)

/-- ITS FALSE NEIGHBOUR: 'it returns false'. Refute it at one input. -/
def fnExactIsValidContainersWrong : ChangeSpec := { name := "fnExactIsValidContainers", fn := fun _ => fun
  | [d] => { results := [.lit (.bool false)], args := [d] }
  | _ => none }
def FnExactIsValidContainersWrongFalsely : Prop := fnExactIsValidContainersRow.holds Try.pinned (OpenSpec.ofChange fnExactIsValidContainersWrong)

/-- 'laws.FnExactFindContainer': WHATEVER THE INPUT: true; the input reads as it did. -/
def fnExactFindContainerSpec : ChangeSpec := { name := "fnExactFindContainer", fn := fun _ => fun
  | [d1, d2] => { results := [.lit (.bool true)], args := [d1, d2] }
  | _ => none }
def fnExactFindContainerRow : OpenClaim := { program := "ytpdonhdffniabaa", sum := "a68ddade84f15f9cec1fe2d600cf2a811db227f1917d8f30eeb30663b7231c99", func := "loop.example/g00906/laws.FnExactFindContainer", spec := "fnExactFindContainer", unfollowed := true, recurses := true, apart := false }
def FnExactFindContainerSaid : Prop := fnExactFindContainerRow.holds Try.pinned (OpenSpec.ofChange fnExactFindContainerSpec)

/-- ITS FALSE NEIGHBOUR: 'it returns false'. Refute it at one input. -/
def fnExactFindContainerWrong : ChangeSpec := { name := "fnExactFindContainer", fn := fun _ => fun
  | [d1, d2] => { results := [.lit (.bool false)], args := [d1, d2] }
  | _ => none }
def FnExactFindContainerWrongFalsely : Prop := fnExactFindContainerRow.holds Try.pinned (OpenSpec.ofChange fnExactFindContainerWrong)

/-- 'laws.FnExactTotalWeight': WHATEVER THE INPUT: true; the input reads as it did. -/
def fnExactTotalWeightSpec : ChangeSpec := { name := "fnExactTotalWeight", fn := fun _ => fun
  | [d] => { results := [.lit (.bool true)], args := [d] }
  | _ => none }
def fnExactTotalWeightRow : OpenClaim := { program := "ytpdonhdffniabaa", sum := "a68ddade84f15f9cec1fe2d600cf2a811db227f1917d8f30eeb30663b7231c99", func := "loop.example/g00906/laws.FnExactTotalWeight", spec := "fnExactTotalWeight", unfollowed := true, recurses := true, apart := false }
def FnExactTotalWeightSaid : Prop := fnExactTotalWeightRow.holds Try.pinned (OpenSpec.ofChange fnExactTotalWeightSpec)

/-- ITS FALSE NEIGHBOUR: 'it returns false'. Refute it at one input. -/
def fnExactTotalWeightWrong : ChangeSpec := { name := "fnExactTotalWeight", fn := fun _ => fun
  | [d] => { results := [.lit (.bool false)], args := [d] }
  | _ => none }
def FnExactTotalWeightWrongFalsely : Prop := fnExactTotalWeightRow.holds Try.pinned (OpenSpec.ofChange fnExactTotalWeightWrong)

/-- 'laws.FnExactCountUnits': WHATEVER THE INPUT: true; the input reads as it did. -/
def fnExactCountUnitsSpec : ChangeSpec := { name := "fnExactCountUnits", fn := fun _ => fun
  | [d] => { results := [.lit (.bool true)], args := [d] }
  | _ => none }
def fnExactCountUnitsRow : OpenClaim := { program := "ytpdonhdffniabaa", sum := "a68ddade84f15f9cec1fe2d600cf2a811db227f1917d8f30eeb30663b7231c99", func := "loop.example/g00906/laws.FnExactCountUnits", spec := "fnExactCountUnits", unfollowed := true, recurses := true, apart := false }
def FnExactCountUnitsSaid : Prop := fnExactCountUnitsRow.holds Try.pinned (OpenSpec.ofChange fnExactCountUnitsSpec)

/-- ITS FALSE NEIGHBOUR: 'it returns false'. Refute it at one input. -/
def fnExactCountUnitsWrong : ChangeSpec := { name := "fnExactCountUnits", fn := fun _ => fun
  | [d] => { results := [.lit (.bool false)], args := [d] }
  | _ => none }
def FnExactCountUnitsWrongFalsely : Prop := fnExactCountUnitsRow.holds Try.pinned (OpenSpec.ofChange fnExactCountUnitsWrong)

/-- 'laws.FnExactContainersFor': WHATEVER THE INPUT: true; the input reads as it did. -/
def fnExactContainersForSpec : ChangeSpec := { name := "fnExactContainersFor", fn := fun _ => fun
  | [d1, d2] => { results := [.lit (.bool true)], args := [d1, d2] }
  | _ => none }
def fnExactContainersForRow : OpenClaim := { program := "ytpdonhdffniabaa", sum := "a68ddade84f15f9cec1fe2d600cf2a811db227f1917d8f30eeb30663b7231c99", func := "loop.example/g00906/laws.FnExactContainersFor", spec := "fnExactContainersFor", unfollowed := true, recurses := true, apart := false }
def FnExactContainersForSaid : Prop := fnExactContainersForRow.holds Try.pinned (OpenSpec.ofChange fnExactContainersForSpec)

/-- ITS FALSE NEIGHBOUR: 'it returns false'. Refute it at one input. -/
def fnExactContainersForWrong : ChangeSpec := { name := "fnExactContainersFor", fn := fun _ => fun
  | [d1, d2] => { results := [.lit (.bool false)], args := [d1, d2] }
  | _ => none }
def FnExactContainersForWrongFalsely : Prop := fnExactContainersForRow.holds Try.pinned (OpenSpec.ofChange fnExactContainersForWrong)

/-- 'laws.FnExactHeaviestFirst': WHATEVER THE INPUT: true; the input reads as it did. -/
def fnExactHeaviestFirstSpec : ChangeSpec := { name := "fnExactHeaviestFirst", fn := fun _ => fun
  | [d] => { results := [.lit (.bool true)], args := [d] }
  | _ => none }
def fnExactHeaviestFirstRow : OpenClaim := { program := "ytpdonhdffniabaa", sum := "a68ddade84f15f9cec1fe2d600cf2a811db227f1917d8f30eeb30663b7231c99", func := "loop.example/g00906/laws.FnExactHeaviestFirst", spec := "fnExactHeaviestFirst", unfollowed := true, recurses := true, apart := false }
def FnExactHeaviestFirstSaid : Prop := fnExactHeaviestFirstRow.holds Try.pinned (OpenSpec.ofChange fnExactHeaviestFirstSpec)

/-- ITS FALSE NEIGHBOUR: 'it returns false'. Refute it at one input. -/
def fnExactHeaviestFirstWrong : ChangeSpec := { name := "fnExactHeaviestFirst", fn := fun _ => fun
  | [d] => { results := [.lit (.bool false)], args := [d] }
  | _ => none }
def FnExactHeaviestFirstWrongFalsely : Prop := fnExactHeaviestFirstRow.holds Try.pinned (OpenSpec.ofChange fnExactHeaviestFirstWrong)

/- THE SECOND FORM. 'bulk': how many values and letters a reading holds, each counted each time it is reached (what is shared counts as often as it is met; a slice's spare places count too). A statement '..UptoSaid' is the law's where the arguments, and the package variables that the reading takes, are together of bulk at most 1048576: NARROWER than '..Said'. Prove '..Said' where nothing that the law and all that it calls make is longer than what came in: it says more and counts as full. Else prove '..UptoSaid'. A law counts once. -/
mutual
def uptoBulk {H : Type} : DataW H → Nat
  | .lit (.string bytes) => bytes.length + 1
  | .lit _ => 1
  | .nil => 1
  | .ptr d => uptoBulk d + 1
  | .slice elems spare => uptoBulkAll elems + uptoBulkAll spare + 1
  | .agg parts => uptoBulkAll parts + 1
  | .iface _ d => uptoBulk d + 1
  | .map entries => uptoBulkEntries entries + 1
  | .held _ => 1
def uptoBulkAll {H : Type} : List (DataW H) → Nat
  | [] => 0
  | d :: r => uptoBulk d + uptoBulkAll r
def uptoBulkEntries {H : Type} : List (Lit × DataW H) → Nat
  | [] => 0
  | x :: r => uptoBulkEntry x + uptoBulkEntries r
def uptoBulkEntry {H : Type} : Lit × DataW H → Nat
  | (.string bytes, d) => bytes.length + uptoBulk d + 1
  | (_, d) => uptoBulk d + 1
 end
def uptoSmall : (H : Type) → List (DataW H) → Bool := fun _ ds => decide (uptoBulkAll ds ≤ 1048576)
def OpenSpec.upto (s : _root_.Go.ChangeSpec) : _root_.Go.OpenSpec := { _root_.Go.OpenSpec.ofChange s with cond := some uptoSmall }

/-- 'laws.FnExactIsValidContainer', WHERE WHAT IT READS IS OF BULK AT MOST 1048576: true; the input reads as it did. -/
def fnExactIsValidContainerUptoRow : OpenClaim := { program := "ytpdonhdffniabaa", sum := "a68ddade84f15f9cec1fe2d600cf2a811db227f1917d8f30eeb30663b7231c99", func := "loop.example/g00906/laws.FnExactIsValidContainer", spec := "fnExactIsValidContainer", apart := false, narrowed := true }
def FnExactIsValidContainerUptoSaid : Prop := fnExactIsValidContainerUptoRow.holds Try.pinned (OpenSpec.upto fnExactIsValidContainerSpec)

/-- 'laws.FnExactIsValidContainers', WHERE WHAT IT READS IS OF BULK AT MOST 1048576: true; the input reads as it did. -/
def fnExactIsValidContainersUptoRow : OpenClaim := { program := "ytpdonhdffniabaa", sum := "a68ddade84f15f9cec1fe2d600cf2a811db227f1917d8f30eeb30663b7231c99", func := "loop.example/g00906/laws.FnExactIsValidContainers", spec := "fnExactIsValidContainers", unfollowed := true, recurses := true, apart := false, narrowed := true }
def FnExactIsValidContainersUptoSaid : Prop := fnExactIsValidContainersUptoRow.holds Try.pinned (OpenSpec.upto fnExactIsValidContainersSpec)

/-- 'laws.FnExactFindContainer', WHERE WHAT IT READS IS OF BULK AT MOST 1048576: true; the input reads as it did. -/
def fnExactFindContainerUptoRow : OpenClaim := { program := "ytpdonhdffniabaa", sum := "a68ddade84f15f9cec1fe2d600cf2a811db227f1917d8f30eeb30663b7231c99", func := "loop.example/g00906/laws.FnExactFindContainer", spec := "fnExactFindContainer", unfollowed := true, recurses := true, apart := false, narrowed := true }
def FnExactFindContainerUptoSaid : Prop := fnExactFindContainerUptoRow.holds Try.pinned (OpenSpec.upto fnExactFindContainerSpec)

/-- 'laws.FnExactTotalWeight', WHERE WHAT IT READS IS OF BULK AT MOST 1048576: true; the input reads as it did. -/
def fnExactTotalWeightUptoRow : OpenClaim := { program := "ytpdonhdffniabaa", sum := "a68ddade84f15f9cec1fe2d600cf2a811db227f1917d8f30eeb30663b7231c99", func := "loop.example/g00906/laws.FnExactTotalWeight", spec := "fnExactTotalWeight", unfollowed := true, recurses := true, apart := false, narrowed := true }
def FnExactTotalWeightUptoSaid : Prop := fnExactTotalWeightUptoRow.holds Try.pinned (OpenSpec.upto fnExactTotalWeightSpec)

/-- 'laws.FnExactCountUnits', WHERE WHAT IT READS IS OF BULK AT MOST 1048576: true; the input reads as it did. -/
def fnExactCountUnitsUptoRow : OpenClaim := { program := "ytpdonhdffniabaa", sum := "a68ddade84f15f9cec1fe2d600cf2a811db227f1917d8f30eeb30663b7231c99", func := "loop.example/g00906/laws.FnExactCountUnits", spec := "fnExactCountUnits", unfollowed := true, recurses := true, apart := false, narrowed := true }
def FnExactCountUnitsUptoSaid : Prop := fnExactCountUnitsUptoRow.holds Try.pinned (OpenSpec.upto fnExactCountUnitsSpec)

/-- 'laws.FnExactContainersFor', WHERE WHAT IT READS IS OF BULK AT MOST 1048576: true; the input reads as it did. -/
def fnExactContainersForUptoRow : OpenClaim := { program := "ytpdonhdffniabaa", sum := "a68ddade84f15f9cec1fe2d600cf2a811db227f1917d8f30eeb30663b7231c99", func := "loop.example/g00906/laws.FnExactContainersFor", spec := "fnExactContainersFor", unfollowed := true, recurses := true, apart := false, narrowed := true }
def FnExactContainersForUptoSaid : Prop := fnExactContainersForUptoRow.holds Try.pinned (OpenSpec.upto fnExactContainersForSpec)

/-- 'laws.FnExactHeaviestFirst', WHERE WHAT IT READS IS OF BULK AT MOST 1048576: true; the input reads as it did. -/
def fnExactHeaviestFirstUptoRow : OpenClaim := { program := "ytpdonhdffniabaa", sum := "a68ddade84f15f9cec1fe2d600cf2a811db227f1917d8f30eeb30663b7231c99", func := "loop.example/g00906/laws.FnExactHeaviestFirst", spec := "fnExactHeaviestFirst", unfollowed := true, recurses := true, apart := false, narrowed := true }
def FnExactHeaviestFirstUptoSaid : Prop := fnExactHeaviestFirstUptoRow.holds Try.pinned (OpenSpec.upto fnExactHeaviestFirstSpec)

end Rows
end Go.Proofs.Ytpdonhdffniabaa
