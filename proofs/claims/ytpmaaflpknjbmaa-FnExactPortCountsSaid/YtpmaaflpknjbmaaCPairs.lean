/-
  Slices of pairs of ints: eqIntA2S, markIntA2S, heldIntA2S. No statement of the seat by itself.
-/
import Derived.Test.YtpmaaflpknjbmaaCHeldC
namespace Go.Proofs.Ytpmaaflpknjbmaa.C
open Go.RowKit

/-- The cells of a list of pairs. -/
def flatP : List (Int × Int) → List Value
  | [] => []
  | c :: l => [.int .i64 c.1, .int .i64 c.2] ++ flatP l
theorem flatP_len : ∀ l : List (Int × Int), (flatP l).length = l.length * 2
  | [] => rfl
  | c :: l => by
    rw [flatP, List.length_append, flatP_len l]
    simp
    omega
theorem flatP_snoc : ∀ (l : List (Int × Int)) (c : Int × Int), flatP (l ++ [c]) = flatP l ++ [.int .i64 c.1, .int .i64 c.2]
  | [], c => rfl
  | d :: l, c => by rw [List.cons_append, flatP, flatP, flatP_snoc l c, List.append_assoc]
theorem flatP_at : ∀ (l : List (Int × Int)) (j : Nat) (hj : j < l.length), (flatP l)[j * 2]? = some (.int .i64 l[j].1) ∧ (flatP l)[j * 2 + 1]? = some (.int .i64 l[j].2)
  | c :: l, 0, _ => ⟨rfl, rfl⟩
  | c :: l, j + 1, hj => by
    have ih := flatP_at l j (by simpa using hj)
    rw [flatP, List.getElem?_append_right (by simp; omega), List.getElem?_append_right (by simp; omega)]
    simp only [List.length_cons, List.length_nil]
    rw [show (j + 1) * 2 - (0 + 1 + 1) = j * 2 by omega, show (j + 1) * 2 + 1 - (0 + 1 + 1) = j * 2 + 1 by omega]
    simpa using ih
/-- The two cells of a pair. -/
def PCells (w : World) (g o : Nat) (c : Int × Int) : Prop := w.cell? ⟨g, o, none⟩ = some (.int .i64 c.1) ∧ w.cell? ⟨g, o + 1, none⟩ = some (.int .i64 c.2)
theorem PCells.block {W W' : World} {g o : Nat} {c : Int × Int} (h : PCells W g o c) (he : W'.heap[g]? = W.heap[g]?) : PCells W' g o c := by
  have k : ∀ i, W'.cell? ⟨g, i, none⟩ = W.cell? ⟨g, i, none⟩ := fun i => World.cell?_of_block (a := ⟨g, i, none⟩) he
  exact ⟨(k _).trans h.1, (k _).trans h.2⟩
end Go.Proofs.Ytpmaaflpknjbmaa.C
