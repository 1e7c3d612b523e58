/-
  No cell of these rows narrows 'for every input' (looked for: loops, veiled, ifaces, maps, wideKeys, modest, calm, conditions, laid).
  DERIVED. THE GIVEN ROWS OF THIS SEAT. 11 by the template 'for every input the law returns true; each argument reads behind the call as it read before'; 0 by the template 'total and deterministic' (their statements: YtdnbkfpcmjijlaaTotals.lean).
  GIVEN WITH THE SEED: the statements are not yours to turn. If you find one false, say at which input.
  Laid BY PROGRAM, IN A SANDBOX (cutbox-rows.mjs): the forced cells as the released guide's own fill.sh prints them over the translation 87c4e0c9decfc3ac… (all of the seat's roots in one cut). By AI agents, Wed Nov 11 2026. No macro, syntax, notation, axiom, sorry.
-/
import Derived.Test.YtdnbkfpcmjijlaaChecked
import GoSem.Claim
import GoSem.ClaimJoined
import GoSem.ClaimMapViews
import Derived.JoinedTies
import Derived.KernelRfl
namespace Go.Proofs.Ytdnbkfpcmjijlaa
/- THE CELL 'sum', in the pinned program and in every row, IS THE sha256 OF THE DUMP (.gsa) THAT YtdnbkfpcmjijlaaProg.lean LOADS. Nothing in Lean hashes anything: it is a label: what it is worth is what the hold of that sum in a sandbox is worth. -/
noncomputable def Try.pinned : Pinned := { name := "ytdnbkfpcmjijlaa", sum := "87c4e0c9decfc3accc41c8230984b412692e190f0a559d707b7cdc55290f7b5a", checked := Try.checked }
namespace Rows
def none {H : Type} : Left H := { results := [], args := [] }

/-- 'laws.FnStacks': WHATEVER THE INPUT: true; the input reads as it did. -/
def fnStacksSpec : ChangeSpec := { name := "fnStacks", fn := fun _ => fun
  | [d] => { results := [.lit (.bool true)], args := [d] }
  | _ => none }
def fnStacksRow : OpenClaim := { program := "ytdnbkfpcmjijlaa", sum := "87c4e0c9decfc3accc41c8230984b412692e190f0a559d707b7cdc55290f7b5a", func := "loop.example/g00906/laws.FnStacks", spec := "fnStacks", unfollowed := true, recurses := true, apart := false }
def FnStacksSaid : Prop := fnStacksRow.holds Try.pinned (OpenSpec.ofChange fnStacksSpec)

/-- ITS FALSE NEIGHBOUR: 'it returns false'. Refute it at one input. -/
def fnStacksWrong : ChangeSpec := { name := "fnStacks", fn := fun _ => fun
  | [d] => { results := [.lit (.bool false)], args := [d] }
  | _ => none }
def FnStacksWrongFalsely : Prop := fnStacksRow.holds Try.pinned (OpenSpec.ofChange fnStacksWrong)

/-- 'laws.FnExactIsValidYard': WHATEVER THE INPUT: true; the input reads as it did. -/
def fnExactIsValidYardSpec : ChangeSpec := { name := "fnExactIsValidYard", fn := fun _ => fun
  | [d] => { results := [.lit (.bool true)], args := [d] }
  | _ => none }
def fnExactIsValidYardRow : OpenClaim := { program := "ytdnbkfpcmjijlaa", sum := "87c4e0c9decfc3accc41c8230984b412692e190f0a559d707b7cdc55290f7b5a", func := "loop.example/g00906/laws.FnExactIsValidYard", spec := "fnExactIsValidYard", apart := false }
def FnExactIsValidYardSaid : Prop := fnExactIsValidYardRow.holds Try.pinned (OpenSpec.ofChange fnExactIsValidYardSpec)

/-- ITS FALSE NEIGHBOUR: 'it returns false'. Refute it at one input. -/
def fnExactIsValidYardWrong : ChangeSpec := { name := "fnExactIsValidYard", fn := fun _ => fun
  | [d] => { results := [.lit (.bool false)], args := [d] }
  | _ => none }
def FnExactIsValidYardWrongFalsely : Prop := fnExactIsValidYardRow.holds Try.pinned (OpenSpec.ofChange fnExactIsValidYardWrong)

/-- 'laws.FnExactPutBox': WHATEVER THE INPUT: true; the input reads as it did. -/
def fnExactPutBoxSpec : ChangeSpec := { name := "fnExactPutBox", fn := fun _ => fun
  | [d1, d2, d3] => { results := [.lit (.bool true)], args := [d1, d2, d3] }
  | _ => none }
def fnExactPutBoxRow : OpenClaim := { program := "ytdnbkfpcmjijlaa", sum := "87c4e0c9decfc3accc41c8230984b412692e190f0a559d707b7cdc55290f7b5a", func := "loop.example/g00906/laws.FnExactPutBox", spec := "fnExactPutBox", apart := false }
def FnExactPutBoxSaid : Prop := fnExactPutBoxRow.holds Try.pinned (OpenSpec.ofChange fnExactPutBoxSpec)

/-- ITS FALSE NEIGHBOUR: 'it returns false'. Refute it at one input. -/
def fnExactPutBoxWrong : ChangeSpec := { name := "fnExactPutBox", fn := fun _ => fun
  | [d1, d2, d3] => { results := [.lit (.bool false)], args := [d1, d2, d3] }
  | _ => none }
def FnExactPutBoxWrongFalsely : Prop := fnExactPutBoxRow.holds Try.pinned (OpenSpec.ofChange fnExactPutBoxWrong)

/-- 'laws.FnExactTakeBox': WHATEVER THE INPUT: true; the input reads as it did. -/
def fnExactTakeBoxSpec : ChangeSpec := { name := "fnExactTakeBox", fn := fun _ => fun
  | [d1, d2] => { results := [.lit (.bool true)], args := [d1, d2] }
  | _ => none }
def fnExactTakeBoxRow : OpenClaim := { program := "ytdnbkfpcmjijlaa", sum := "87c4e0c9decfc3accc41c8230984b412692e190f0a559d707b7cdc55290f7b5a", func := "loop.example/g00906/laws.FnExactTakeBox", spec := "fnExactTakeBox", apart := false }
def FnExactTakeBoxSaid : Prop := fnExactTakeBoxRow.holds Try.pinned (OpenSpec.ofChange fnExactTakeBoxSpec)

/-- ITS FALSE NEIGHBOUR: 'it returns false'. Refute it at one input. -/
def fnExactTakeBoxWrong : ChangeSpec := { name := "fnExactTakeBox", fn := fun _ => fun
  | [d1, d2] => { results := [.lit (.bool false)], args := [d1, d2] }
  | _ => none }
def FnExactTakeBoxWrongFalsely : Prop := fnExactTakeBoxRow.holds Try.pinned (OpenSpec.ofChange fnExactTakeBoxWrong)

/-- 'laws.FnExactMoveTop': WHATEVER THE INPUT: true; the input reads as it did. -/
def fnExactMoveTopSpec : ChangeSpec := { name := "fnExactMoveTop", fn := fun _ => fun
  | [d1, d2, d3] => { results := [.lit (.bool true)], args := [d1, d2, d3] }
  | _ => none }
def fnExactMoveTopRow : OpenClaim := { program := "ytdnbkfpcmjijlaa", sum := "87c4e0c9decfc3accc41c8230984b412692e190f0a559d707b7cdc55290f7b5a", func := "loop.example/g00906/laws.FnExactMoveTop", spec := "fnExactMoveTop", apart := false }
def FnExactMoveTopSaid : Prop := fnExactMoveTopRow.holds Try.pinned (OpenSpec.ofChange fnExactMoveTopSpec)

/-- ITS FALSE NEIGHBOUR: 'it returns false'. Refute it at one input. -/
def fnExactMoveTopWrong : ChangeSpec := { name := "fnExactMoveTop", fn := fun _ => fun
  | [d1, d2, d3] => { results := [.lit (.bool false)], args := [d1, d2, d3] }
  | _ => none }
def FnExactMoveTopWrongFalsely : Prop := fnExactMoveTopRow.holds Try.pinned (OpenSpec.ofChange fnExactMoveTopWrong)

/-- 'laws.FnExactTopOf': WHATEVER THE INPUT: true; the input reads as it did. -/
def fnExactTopOfSpec : ChangeSpec := { name := "fnExactTopOf", fn := fun _ => fun
  | [d1, d2] => { results := [.lit (.bool true)], args := [d1, d2] }
  | _ => none }
def fnExactTopOfRow : OpenClaim := { program := "ytdnbkfpcmjijlaa", sum := "87c4e0c9decfc3accc41c8230984b412692e190f0a559d707b7cdc55290f7b5a", func := "loop.example/g00906/laws.FnExactTopOf", spec := "fnExactTopOf", apart := false }
def FnExactTopOfSaid : Prop := fnExactTopOfRow.holds Try.pinned (OpenSpec.ofChange fnExactTopOfSpec)

/-- ITS FALSE NEIGHBOUR: 'it returns false'. Refute it at one input. -/
def fnExactTopOfWrong : ChangeSpec := { name := "fnExactTopOf", fn := fun _ => fun
  | [d1, d2] => { results := [.lit (.bool false)], args := [d1, d2] }
  | _ => none }
def FnExactTopOfWrongFalsely : Prop := fnExactTopOfRow.holds Try.pinned (OpenSpec.ofChange fnExactTopOfWrong)

/-- 'laws.FnExactPlaceOf': WHATEVER THE INPUT: true; the input reads as it did. -/
def fnExactPlaceOfSpec : ChangeSpec := { name := "fnExactPlaceOf", fn := fun _ => fun
  | [d1, d2] => { results := [.lit (.bool true)], args := [d1, d2] }
  | _ => none }
def fnExactPlaceOfRow : OpenClaim := { program := "ytdnbkfpcmjijlaa", sum := "87c4e0c9decfc3accc41c8230984b412692e190f0a559d707b7cdc55290f7b5a", func := "loop.example/g00906/laws.FnExactPlaceOf", spec := "fnExactPlaceOf", apart := false }
def FnExactPlaceOfSaid : Prop := fnExactPlaceOfRow.holds Try.pinned (OpenSpec.ofChange fnExactPlaceOfSpec)

/-- ITS FALSE NEIGHBOUR: 'it returns false'. Refute it at one input. -/
def fnExactPlaceOfWrong : ChangeSpec := { name := "fnExactPlaceOf", fn := fun _ => fun
  | [d1, d2] => { results := [.lit (.bool false)], args := [d1, d2] }
  | _ => none }
def FnExactPlaceOfWrongFalsely : Prop := fnExactPlaceOfRow.holds Try.pinned (OpenSpec.ofChange fnExactPlaceOfWrong)

/-- 'laws.FnExactBlockersOf': WHATEVER THE INPUT: true; the input reads as it did. -/
def fnExactBlockersOfSpec : ChangeSpec := { name := "fnExactBlockersOf", fn := fun _ => fun
  | [d1, d2] => { results := [.lit (.bool true)], args := [d1, d2] }
  | _ => none }
def fnExactBlockersOfRow : OpenClaim := { program := "ytdnbkfpcmjijlaa", sum := "87c4e0c9decfc3accc41c8230984b412692e190f0a559d707b7cdc55290f7b5a", func := "loop.example/g00906/laws.FnExactBlockersOf", spec := "fnExactBlockersOf", unfollowed := true, recurses := true, apart := false }
def FnExactBlockersOfSaid : Prop := fnExactBlockersOfRow.holds Try.pinned (OpenSpec.ofChange fnExactBlockersOfSpec)

/-- ITS FALSE NEIGHBOUR: 'it returns false'. Refute it at one input. -/
def fnExactBlockersOfWrong : ChangeSpec := { name := "fnExactBlockersOf", fn := fun _ => fun
  | [d1, d2] => { results := [.lit (.bool false)], args := [d1, d2] }
  | _ => none }
def FnExactBlockersOfWrongFalsely : Prop := fnExactBlockersOfRow.holds Try.pinned (OpenSpec.ofChange fnExactBlockersOfWrong)

/-- 'laws.FnExactFreePlaces': WHATEVER THE INPUT: true; the input reads as it did. -/
def fnExactFreePlacesSpec : ChangeSpec := { name := "fnExactFreePlaces", fn := fun _ => fun
  | [d] => { results := [.lit (.bool true)], args := [d] }
  | _ => none }
def fnExactFreePlacesRow : OpenClaim := { program := "ytdnbkfpcmjijlaa", sum := "87c4e0c9decfc3accc41c8230984b412692e190f0a559d707b7cdc55290f7b5a", func := "loop.example/g00906/laws.FnExactFreePlaces", spec := "fnExactFreePlaces", apart := false }
def FnExactFreePlacesSaid : Prop := fnExactFreePlacesRow.holds Try.pinned (OpenSpec.ofChange fnExactFreePlacesSpec)

/-- ITS FALSE NEIGHBOUR: 'it returns false'. Refute it at one input. -/
def fnExactFreePlacesWrong : ChangeSpec := { name := "fnExactFreePlaces", fn := fun _ => fun
  | [d] => { results := [.lit (.bool false)], args := [d] }
  | _ => none }
def FnExactFreePlacesWrongFalsely : Prop := fnExactFreePlacesRow.holds Try.pinned (OpenSpec.ofChange fnExactFreePlacesWrong)

/-- 'laws.FnExactStackHeights': WHATEVER THE INPUT: true; the input reads as it did. -/
def fnExactStackHeightsSpec : ChangeSpec := { name := "fnExactStackHeights", fn := fun _ => fun
  | [d] => { results := [.lit (.bool true)], args := [d] }
  | _ => none }
def fnExactStackHeightsRow : OpenClaim := { program := "ytdnbkfpcmjijlaa", sum := "87c4e0c9decfc3accc41c8230984b412692e190f0a559d707b7cdc55290f7b5a", func := "loop.example/g00906/laws.FnExactStackHeights", spec := "fnExactStackHeights", apart := false }
def FnExactStackHeightsSaid : Prop := fnExactStackHeightsRow.holds Try.pinned (OpenSpec.ofChange fnExactStackHeightsSpec)

/-- ITS FALSE NEIGHBOUR: 'it returns false'. Refute it at one input. -/
def fnExactStackHeightsWrong : ChangeSpec := { name := "fnExactStackHeights", fn := fun _ => fun
  | [d] => { results := [.lit (.bool false)], args := [d] }
  | _ => none }
def FnExactStackHeightsWrongFalsely : Prop := fnExactStackHeightsRow.holds Try.pinned (OpenSpec.ofChange fnExactStackHeightsWrong)

/-- 'laws.FnExactSameYard': WHATEVER THE INPUT: true; the input reads as it did. -/
def fnExactSameYardSpec : ChangeSpec := { name := "fnExactSameYard", fn := fun _ => fun
  | [d1, d2] => { results := [.lit (.bool true)], args := [d1, d2] }
  | _ => none }
def fnExactSameYardRow : OpenClaim := { program := "ytdnbkfpcmjijlaa", sum := "87c4e0c9decfc3accc41c8230984b412692e190f0a559d707b7cdc55290f7b5a", func := "loop.example/g00906/laws.FnExactSameYard", spec := "fnExactSameYard", unfollowed := true, recurses := true, apart := false }
def FnExactSameYardSaid : Prop := fnExactSameYardRow.holds Try.pinned (OpenSpec.ofChange fnExactSameYardSpec)

/-- ITS FALSE NEIGHBOUR: 'it returns false'. Refute it at one input. -/
def fnExactSameYardWrong : ChangeSpec := { name := "fnExactSameYard", fn := fun _ => fun
  | [d1, d2] => { results := [.lit (.bool false)], args := [d1, d2] }
  | _ => none }
def FnExactSameYardWrongFalsely : Prop := fnExactSameYardRow.holds Try.pinned (OpenSpec.ofChange fnExactSameYardWrong)

/- THE SECOND FORM. 'bulk': how many values and letters a reading holds, each counted each time it is reached (what is shared counts as often as it is met; a slice's spare places count too). A statement '..UptoSaid' is the law's where the arguments, and the package variables that the reading takes, are together of bulk at most 1048576: NARROWER than '..Said'. Prove '..Said' where nothing that the law and all that it calls make is longer than what came in: it says more and counts as full. Else prove '..UptoSaid'. A law counts once. -/
mutual
def uptoBulk {H : Type} : DataW H → Nat
  | .lit (.string bytes) => bytes.length + 1
  | .lit _ => 1
  | .nil => 1
  | .ptr d => uptoBulk d + 1
  | .slice elems spare => uptoBulkAll elems + uptoBulkAll spare + 1
  | .agg parts => uptoBulkAll parts + 1
  | .iface _ d => uptoBulk d + 1
  | .map entries => uptoBulkEntries entries + 1
  | .held _ => 1
def uptoBulkAll {H : Type} : List (DataW H) → Nat
  | [] => 0
  | d :: r => uptoBulk d + uptoBulkAll r
def uptoBulkEntries {H : Type} : List (Lit × DataW H) → Nat
  | [] => 0
  | x :: r => uptoBulkEntry x + uptoBulkEntries r
def uptoBulkEntry {H : Type} : Lit × DataW H → Nat
  | (.string bytes, d) => bytes.length + uptoBulk d + 1
  | (_, d) => uptoBulk d + 1
 end
def uptoSmall : (H : Type) → List (DataW H) → Bool := fun _ ds => decide (uptoBulkAll ds ≤ 1048576)
def OpenSpec.upto (s : _root_.Go.ChangeSpec) : _root_.Go.OpenSpec := { _root_.Go.OpenSpec.ofChange s with cond := some uptoSmall }

/-- 'laws.FnStacks', WHERE WHAT IT READS IS OF BULK AT MOST 1048576: true; the input reads as it did. -/
def fnStacksUptoRow : OpenClaim := { program := "ytdnbkfpcmjijlaa", sum := "87c4e0c9decfc3accc41c8230984b412692e190f0a559d707b7cdc55290f7b5a", func := "loop.example/g00906/laws.FnStacks", spec := "fnStacks", unfollowed := true, recurses := true, apart := false, narrowed := true }
def FnStacksUptoSaid : Prop := fnStacksUptoRow.holds Try.pinned (OpenSpec.upto fnStacksSpec)

/-- 'laws.FnExactIsValidYard', WHERE WHAT IT READS IS OF BULK AT MOST 1048576: true; the input reads as it did. -/
def fnExactIsValidYardUptoRow : OpenClaim := { program := "ytdnbkfpcmjijlaa", sum := "87c4e0c9decfc3accc41c8230984b412692e190f0a559d707b7cdc55290f7b5a", func := "loop.example/g00906/laws.FnExactIsValidYard", spec := "fnExactIsValidYard", apart := false, narrowed := true }
def FnExactIsValidYardUptoSaid : Prop := fnExactIsValidYardUptoRow.holds Try.pinned (OpenSpec.upto fnExactIsValidYardSpec)

/-- 'laws.FnExactPutBox', WHERE WHAT IT READS IS OF BULK AT MOST 1048576: true; the input reads as it did. -/
def fnExactPutBoxUptoRow : OpenClaim := { program := "ytdnbkfpcmjijlaa", sum := "87c4e0c9decfc3accc41c8230984b412692e190f0a559d707b7cdc55290f7b5a", func := "loop.example/g00906/laws.FnExactPutBox", spec := "fnExactPutBox", apart := false, narrowed := true }
def FnExactPutBoxUptoSaid : Prop := fnExactPutBoxUptoRow.holds Try.pinned (OpenSpec.upto fnExactPutBoxSpec)

/-- 'laws.FnExactTakeBox', WHERE WHAT IT READS IS OF BULK AT MOST 1048576: true; the input reads as it did. -/
def fnExactTakeBoxUptoRow : OpenClaim := { program := "ytdnbkfpcmjijlaa", sum := "87c4e0c9decfc3accc41c8230984b412692e190f0a559d707b7cdc55290f7b5a", func := "loop.example/g00906/laws.FnExactTakeBox", spec := "fnExactTakeBox", apart := false, narrowed := true }
def FnExactTakeBoxUptoSaid : Prop := fnExactTakeBoxUptoRow.holds Try.pinned (OpenSpec.upto fnExactTakeBoxSpec)

/-- 'laws.FnExactMoveTop', WHERE WHAT IT READS IS OF BULK AT MOST 1048576: true; the input reads as it did. -/
def fnExactMoveTopUptoRow : OpenClaim := { program := "ytdnbkfpcmjijlaa", sum := "87c4e0c9decfc3accc41c8230984b412692e190f0a559d707b7cdc55290f7b5a", func := "loop.example/g00906/laws.FnExactMoveTop", spec := "fnExactMoveTop", apart := false, narrowed := true }
def FnExactMoveTopUptoSaid : Prop := fnExactMoveTopUptoRow.holds Try.pinned (OpenSpec.upto fnExactMoveTopSpec)

/-- 'laws.FnExactTopOf', WHERE WHAT IT READS IS OF BULK AT MOST 1048576: true; the input reads as it did. -/
def fnExactTopOfUptoRow : OpenClaim := { program := "ytdnbkfpcmjijlaa", sum := "87c4e0c9decfc3accc41c8230984b412692e190f0a559d707b7cdc55290f7b5a", func := "loop.example/g00906/laws.FnExactTopOf", spec := "fnExactTopOf", apart := false, narrowed := true }
def FnExactTopOfUptoSaid : Prop := fnExactTopOfUptoRow.holds Try.pinned (OpenSpec.upto fnExactTopOfSpec)

/-- 'laws.FnExactPlaceOf', WHERE WHAT IT READS IS OF BULK AT MOST 1048576: true; the input reads as it did. -/
def fnExactPlaceOfUptoRow : OpenClaim := { program := "ytdnbkfpcmjijlaa", sum := "87c4e0c9decfc3accc41c8230984b412692e190f0a559d707b7cdc55290f7b5a", func := "loop.example/g00906/laws.FnExactPlaceOf", spec := "fnExactPlaceOf", apart := false, narrowed := true }
def FnExactPlaceOfUptoSaid : Prop := fnExactPlaceOfUptoRow.holds Try.pinned (OpenSpec.upto fnExactPlaceOfSpec)

/-- 'laws.FnExactBlockersOf', WHERE WHAT IT READS IS OF BULK AT MOST 1048576: true; the input reads as it did. -/
def fnExactBlockersOfUptoRow : OpenClaim := { program := "ytdnbkfpcmjijlaa", sum := "87c4e0c9decfc3accc41c8230984b412692e190f0a559d707b7cdc55290f7b5a", func := "loop.example/g00906/laws.FnExactBlockersOf", spec := "fnExactBlockersOf", unfollowed := true, recurses := true, apart := false, narrowed := true }
def FnExactBlockersOfUptoSaid : Prop := fnExactBlockersOfUptoRow.holds Try.pinned (OpenSpec.upto fnExactBlockersOfSpec)

/-- 'laws.FnExactFreePlaces', WHERE WHAT IT READS IS OF BULK AT MOST 1048576: true; the input reads as it did. -/
def fnExactFreePlacesUptoRow : OpenClaim := { program := "ytdnbkfpcmjijlaa", sum := "87c4e0c9decfc3accc41c8230984b412692e190f0a559d707b7cdc55290f7b5a", func := "loop.example/g00906/laws.FnExactFreePlaces", spec := "fnExactFreePlaces", apart := false, narrowed := true }
def FnExactFreePlacesUptoSaid : Prop := fnExactFreePlacesUptoRow.holds Try.pinned (OpenSpec.upto fnExactFreePlacesSpec)

/-- 'laws.FnExactStackHeights', WHERE WHAT IT READS IS OF BULK AT MOST 1048576: true; the input reads as it did. -/
def fnExactStackHeightsUptoRow : OpenClaim := { program := "ytdnbkfpcmjijlaa", sum := "87c4e0c9decfc3accc41c8230984b412692e190f0a559d707b7cdc55290f7b5a", func := "loop.example/g00906/laws.FnExactStackHeights", spec := "fnExactStackHeights", apart := false, narrowed := true }
def FnExactStackHeightsUptoSaid : Prop := fnExactStackHeightsUptoRow.holds Try.pinned (OpenSpec.upto fnExactStackHeightsSpec)

/-- 'laws.FnExactSameYard', WHERE WHAT IT READS IS OF BULK AT MOST 1048576: true; the input reads as it did. -/
def fnExactSameYardUptoRow : OpenClaim := { program := "ytdnbkfpcmjijlaa", sum := "87c4e0c9decfc3accc41c8230984b412692e190f0a559d707b7cdc55290f7b5a", func := "loop.example/g00906/laws.FnExactSameYard", spec := "fnExactSameYard", unfollowed := true, recurses := true, apart := false, narrowed := true }
def FnExactSameYardUptoSaid : Prop := fnExactSameYardUptoRow.holds Try.pinned (OpenSpec.upto fnExactSameYardSpec)

end Rows
end Go.Proofs.Ytdnbkfpcmjijlaa
