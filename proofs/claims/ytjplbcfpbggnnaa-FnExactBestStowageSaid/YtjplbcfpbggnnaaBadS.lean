/-
  What spec.l8Bad and spec.BadlyPlaced return. No statement of the seat by itself.
-/
import Derived.Test.YtjplbcfpbggnnaaBadJ
namespace Go.Proofs.Ytjplbcfpbggnnaa
open Go.RowKit

/-- The badly placed ones of the first stacks and of the first k numbers of the next one. -/
def badIK (Y : List (List Int)) (i : Nat) (l : List Int) (k : Nat) : List Int := srtI (badYL Y i ++ badL l k)
theorem badYL_flat (Y : List (List Int)) : ∀ i x, i ≤ Y.length → x ∈ badYL Y i → x ∈ (Y.take i).flatten
  | 0, x, _, h => by simp [badYL] at h
  | i + 1, x, hi, h => by
    have hg : Y[i]? = some Y[i] := List.getElem?_eq_getElem (by omega)
    rw [badYL_succ hg, List.mem_append] at h
    rw [flat_succ hg, List.mem_append]
    rcases h with h | h
    · exact .inl (badYL_flat Y i x (by omega) h)
    · have := badL_mem Y[i] _ x (Nat.le_refl _) h
      rw [List.take_length] at this
      exact .inr this
theorem badIK_new {Y : List (List Int)} {i k : Nat} {l : List Int} {x : Int} (hg : goodY Y = true) (hl : Y[i]? = some l) (hx : l[k]? = some x) : ¬ x ∈ badIK Y i l k := fun hm => by
  rw [badIK, srtI_mem, List.mem_append] at hm
  have := good_twice hl hx (by
    rw [List.mem_append]
    rcases hm with hm | hm
    · exact .inl (badYL_flat Y i x (by have := lt_of_get hl; omega) hm)
    · exact .inr (badL_mem l k x (by have := lt_of_get hx; omega) hm))
  rw [this] at hg
  cases hg
theorem badIK_row (Y : List (List Int)) (i : Nat) (l : List Int) : badIK Y i l 0 = srtI (badYL Y i) := by simp [badIK, badL]
theorem badIK_next {Y : List (List Int)} {i : Nat} {l : List Int} (hl : Y[i]? = some l) : badIK Y i l l.length = srtI (badYL Y (i + 1)) := by rw [badIK, badYL_succ hl]
theorem badIK_yes {Y : List (List Int)} {i k : Nat} {l : List Int} {x : Int} (hx : l[k]? = some x) (h : earL (l.take k) < x) : badIK Y i l (k + 1) = insI x (badIK Y i l k) := by
  rw [badIK, badL_yes hx h, ← List.append_assoc, srtI_snoc, badIK]
theorem badIK_no {Y : List (List Int)} {i k : Nat} {l : List Int} {x : Int} (hx : l[k]? = some x) (h : ¬ earL (l.take k) < x) : badIK Y i l (k + 1) = badIK Y i l k := by
  rw [badIK, badL_no hx h, badIK]
theorem badIK_len {Y : List (List Int)} {i k : Nat} {l : List Int} (h : ∀ l ∈ Y, l.length ≤ 4) (hi : i ≤ Y.length) : (badIK Y i l k).length ≤ 4 * i + k := by
  have h1 := badYL_len Y h i hi
  have h2 := badL_len l k
  rw [badIK, srtI_len, List.length_append]
  omega
theorem good_99 {Y : List (List Int)} {i k : Nat} {l : List Int} {x : Int} (hg : goodY Y = true) (hl : Y[i]? = some l) (hx : l[k]? = some x) : 1 ≤ x ∧ x ≤ 99 :=
  (goodY_iff.1 hg).2.2.2.1 x (List.mem_flatten.2 ⟨l, List.mem_of_getElem? hl, List.mem_of_getElem? hx⟩)

end Go.Proofs.Ytjplbcfpbggnnaa
