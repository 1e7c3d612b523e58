/-
  What impl.BadlyPlaced returns. No statement of the seat by itself.
-/
import Derived.Test.YtjplbcfpbggnnaaBadI
import Derived.Test.YtjplbcfpbggnnaaPutM
namespace Go.Proofs.Ytjplbcfpbggnnaa
open Go.RowKit Go.Sort

/-- The badly placed numbers of a valid yard. -/
def badR (Y : List (List Int)) : List Int := if goodY Y = true then srtI (badYL Y Y.length) else []
theorem badYL_len (Y : List (List Int)) (h : ∀ l ∈ Y, l.length ≤ 4) : ∀ k, k ≤ Y.length → (badYL Y k).length ≤ 4 * k
  | 0, _ => by simp [badYL]
  | k + 1, hk => by
    have h1 := badYL_len Y h k (by omega)
    have hg : Y[k]? = some Y[k] := List.getElem?_eq_getElem (by omega)
    have h2 := badL_len Y[k] Y[k].length
    have h3 := h _ (List.getElem_mem (by omega : k < Y.length))
    rw [badYL_succ hg, List.length_append]
    omega
theorem badR_len (Y : List (List Int)) : (badR Y).length ≤ 1048576 := by
  unfold badR
  split
  · rename_i h
    obtain ⟨_, h6, h4, _⟩ := goodY_iff.1 h
    have := badYL_len Y h4 Y.length (Nat.le_refl _)
    rw [srtI_len]
    omega
  · simp
theorem coll_below {w w1 w2 : World} {v0 s : Value} {S : List Int} (h : Coll w w1 v0 s S) (hb : Below w1.heap.size w1 w2) : Coll w w2 v0 s S := by
  obtain ⟨r1, r2, r3, r4, r5⟩ := h
  exact ⟨row_below r1 hb, (hb.cell (p := ⟨w.heap.size, 0, none⟩) (by show w.heap.size < _; omega)).trans r2, r3.trans (hb.mono r3.size), Nat.le_trans r4 hb.size, r5⟩
theorem coll_app {w wr w4 : World} {v0 s v' : Value} {S T : List Int} (h : Coll w wr v0 s S) (ho : w4.ownsRow (w.heap.size + 1) 3 1 v' (S.length + T.length) (intV S ++ intV T)) (hg : wr.grownBy w4 s.ownBlock) (hn : v' = .slice none 0 0 ↔ s = .slice none 0 0 ∧ T.length = 0) : Coll w w4 v0 v' (S ++ T) := by
  obtain ⟨r1, r2, r3, r4, r5⟩ := h
  refine ⟨?_, ?_, r3.grown hg (by have := r3.size; omega) (fun j e => by have := row_base r1 j e; omega), by have := hg.size; omega, fun e => r5 (hn.1 e).1⟩
  · rw [List.length_append, show intV (S ++ T) = intV S ++ intV T by simp [intV]]; exact ho
  · rw [World.cell?_of_block (hg.block w.heap.size (by omega) (fun e => by have := row_base r1 _ e.symm; omega))]
    exact r2

end Go.Proofs.Ytjplbcfpbggnnaa
