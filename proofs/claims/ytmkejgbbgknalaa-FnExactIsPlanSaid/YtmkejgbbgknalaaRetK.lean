/-
  What calls of this chapter answer: a list of steps, a yard with a list of ints. No statement of the seat by itself.
-/
import Derived.Test.YtmkejgbbgknalaaStepsM
import Derived.Test.YtmkejgbbgknalaaRet
import Derived.Test.YtmkejgbbgknalaaHeights
namespace Go.Proofs.Ytmkejgbbgknalaa
open Go.RowKit

/-- A list of steps of the call's own and whether it worked. -/
def RetS (w : World) (R : List (Int × Int)) (ok : Bool) (e : Ending) (w' : World) : Prop := ∃ a c, e = .returned (.tuple #[.slice a R.length c, .bool ok]) ∧ SO w' w.heap.size w'.heap.size (.slice a R.length c) R ∧ Below w.heap.size w w'
/-- A list of steps that reads so and whether it worked. -/
def SeenS (w : World) (R : List (Int × Int)) (ok : Bool) (e : Ending) (w' : World) : Prop := ∃ a c, e = .returned (.tuple #[.slice a R.length c, .bool ok]) ∧ SL w' (.slice a R.length c) R ∧ Below w.heap.size w w'
/-- A yard and a list of ints that read so and whether it worked. -/
def SeenYL (w : World) (R : List (List Int)) (D : List Int) (ok : Bool) (e : Ending) (w' : World) : Prop := ∃ a c u, e = .returned (.tuple #[.agg #[.slice a R.length c], u, .bool ok]) ∧ YL w' (.slice a R.length c) R ∧ IL w' u D ∧ Below w.heap.size w w'
/-- A yard and a list of ints of the call's own, apart from each other, and whether it worked. -/
def RetYL (w : World) (R : List (List Int)) (D : List Int) (ok : Bool) (e : Ending) (w' : World) : Prop := ∃ a c u B1 h1, e = .returned (.tuple #[.agg #[.slice a R.length c], u, .bool ok]) ∧ w.heap.size ≤ B1 ∧ OwnY w' B1 h1 (.slice a R.length c) R ∧ w'.ownsRow w.heap.size 3 1 u D.length (intV D) ∧ (∀ b, u.ownBlock = some b → b < B1 ∨ h1 ≤ b) ∧ Below w.heap.size w w'
theorem so_of_own {w W : World} {B : Nat} {v : Value} {l : List (Int × Int)} (h : W.ownsRow B 80 2 v l.length (flatS l)) (hB : w.heap.size ≤ B) : SO W w.heap.size W.heap.size v l :=
  ⟨Nat.le_refl _, h.mono hB, fun b hb => row_lt h b hb⟩
end Go.Proofs.Ytmkejgbbgknalaa
