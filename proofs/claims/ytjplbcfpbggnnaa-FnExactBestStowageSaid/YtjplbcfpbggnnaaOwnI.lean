/-
  Lists of ints of some call's own; whether a number stands in a list. No statement of the seat by itself.
-/
import Derived.Test.YtjplbcfpbggnnaaFind
import Derived.Test.YtjplbcfpbggnnaaGoodI
import Derived.Test.YtjplbcfpbggnnaaCopyI
namespace Go.Proofs.Ytjplbcfpbggnnaa
open Go.RowKit

/-- A list of ints of some call's own. -/
def OwnI (w : World) (v : Value) (l : List Int) : Prop := ∃ B, w.ownsRow B 3 1 v l.length (intV l)
theorem OwnI.below {w w' : World} {v : Value} {l : List Int} (h : OwnI w v l) (hb : Below w.heap.size w w') : OwnI w' v l := by
  obtain ⟨B, h⟩ := h
  exact ⟨B, row_below h hb⟩
theorem OwnI.read {w : World} {v : Value} {l : List Int} (h : OwnI w v l) : IL w v l := by
  obtain ⟨B, h⟩ := h
  exact il_of_owns h
theorem OwnI.form {w : World} {v : Value} {l : List Int} (h : OwnI w v l) : ∃ a c, v = .slice a l.length c ∧ l.length ≤ c := by
  obtain ⟨B, h⟩ := h
  rcases h.2 with ⟨rfl, hz⟩ | ⟨g, cap, cur, rfl, hg, hb, hnc, _⟩
  · exact ⟨none, 0, by rw [hz], by omega⟩
  · exact ⟨_, _, rfl, hnc⟩
/-- The first of a list of ints, read through a shorter slice. -/
theorem il_take {w : World} {a : Option Addr} {n c c' k : Nat} {l : List Int} (h : IL w (.slice a n c) l) (hn : l.length = n) (hk : k ≤ n) : IL w (.slice a k c') (l.take k) := by
  obtain ⟨a', c2, e, h⟩ := h
  injection e with e1 e2 e3
  subst e1
  refine ⟨a, c', by rw [List.length_take]; congr 1; omega, fun h0 => ?_⟩
  rw [List.length_take] at h0
  obtain ⟨g, off, rfl, hg, hc⟩ := h (by omega)
  refine ⟨g, off, rfl, hg, fun j x hx => ?_⟩
  rw [List.getElem?_take] at hx
  split at hx
  · exact hc j x hx
  · cases hx

end Go.Proofs.Ytjplbcfpbggnnaa
