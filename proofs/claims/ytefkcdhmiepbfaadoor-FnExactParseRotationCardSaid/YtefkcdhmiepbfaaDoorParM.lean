/-
  A long text is no rotation; what both ParseRotation functions return at every text. No statement of the seat by itself.
-/
import Derived.Test.YtefkcdhmiepbfaaDoorParB
namespace Go.Proofs.YtefkcdhmiepbfaaDoor.R
open Go.RowKit

theorem pst_tot (s : ByteArray) (c : UInt8) : ∀ k, k ≤ s.size → ((pst s c k).1.map ByteArray.size).sum + (pst s c k).1.length = (pst s c k).2
  | 0, _ => by simp [pst]
  | k + 1, h => by
    have ih := pst_tot s c k (by omega)
    have hl := pst_le s c k
    by_cases e : s[k] = c
    · rw [pst_hit s c k (by omega) e]
      simp only [List.map_append, List.map_cons, List.map_nil, List.sum_append, List.sum_cons, List.sum_nil, List.length_append, List.length_cons, List.length_nil, ByteArray.size_extract]
      omega
    · rw [pst_miss s c k (by omega) e]
      exact ih
theorem pieces_tot (s : ByteArray) (c : UInt8) : ((pieces s c).map ByteArray.size).sum + (pieces s c).length = s.size + 1 := by
  have h := pst_tot s c s.size (Nat.le_refl _)
  have hl := pst_le s c s.size
  unfold pieces
  simp only [List.map_append, List.map_cons, List.map_nil, List.sum_append, List.sum_cons, List.sum_nil, List.length_append, List.length_cons, List.length_nil, ByteArray.size_extract]
  omega
theorem sum_five : ∀ L : List ByteArray, (∀ p ∈ L, p.size ≤ 5) → (L.map ByteArray.size).sum ≤ 5 * L.length
  | [], _ => by simp
  | p :: L, h => by
    have h1 := h p (by simp)
    have h2 := sum_five L (fun q hq => h q (by simp [hq]))
    simp only [List.map_cons, List.sum_cons, List.length_cons]
    omega
theorem read_two {l : List UInt8} (h : (readL l).2 = true) (h1 : 1 ≤ (readL l).1) (h2 : (readL l).1 ≤ 40) : l.length ≤ 2 := by
  obtain ⟨h3, -⟩ := readL_true (l := l) (v := (readL l).1) (by rw [← h])
  obtain ⟨m, hm⟩ := Int.eq_ofNat_of_zero_le (show 0 ≤ (readL l).1 by omega)
  rw [hm, itoa_of_nat] at h3
  rw [← h3]
  exact dd_len 1 m (by omega)
theorem callR_size (p : ByteArray) (h : (callR p).2.2 = true) (h1 : 1 ≤ (callR p).1) (h2 : (callR p).1 ≤ 9) (h3 : 1 ≤ (callR p).2.1) (h4 : (callR p).2.1 ≤ 40) : p.size ≤ 5 := by
  by_cases hn : (pieces p 58).length = 2
  · obtain ⟨a, b, hab⟩ : ∃ a b, pieces p 58 = [a, b] := by
      generalize pieces p 58 = L at hn
      match L, hn with
      | [a, b], _ => exact ⟨a, b, rfl⟩
    have ht := pieces_tot p 58
    rw [callR_two hab] at h h1 h2 h3 h4
    rw [hab] at ht
    unfold twoR at h h1 h2 h3 h4
    by_cases hb : ((readL a.data.toList).2 && (readL b.data.toList).2) = true
    · rw [if_pos hb] at h h1 h2 h3 h4
      rw [Bool.and_eq_true] at hb
      have ea := read_two hb.1 h1 (by simp only at h2; omega)
      have eb := read_two hb.2 h3 h4
      have sa : a.data.toList.length = a.size := by simp
      have sb : b.data.toList.length = b.size := by simp
      simp at ht
      omega
    · rw [if_neg hb] at h
      cases h
  · rw [callR_not hn] at h
    cases h
theorem good_size (s : ByteArray) (h : 100 < s.size) : goodP (pieces s 32) = false := by
  cases hg : goodP (pieces s 32) with
  | false => rfl
  | true =>
    exfalso
    have ht := pieces_tot s 32
    generalize pieces s 32 = ps at *
    unfold goodP at hg
    rw [Bool.and_eq_true] at hg
    obtain ⟨hall, hrot⟩ := hg
    unfold rotP at hrot
    rw [rotB_iff, prL_len, dyL_len] at hrot
    obtain ⟨⟨n0, n12, -⟩, hok⟩ := hrot
    have h5 : ∀ p ∈ ps, p.size ≤ 5 := fun p hp => by
      obtain ⟨i, hi, rfl⟩ := List.getElem_of_mem hp
      have h1 := (okR_iff _ _ _ _).1 (hok i hi)
      have e1 : (prL ps).getD i 0 = (callR ps[i]).1 := by simp [prL, List.getD, hi]
      have e2 : (dyL ps).getD i 0 = (callR ps[i]).2.1 := by simp [dyL, List.getD, hi]
      rw [e1, e2] at h1
      exact callR_size _ (List.all_eq_true.1 hall _ hp) h1.1 h1.2.1 h1.2.2.1 h1.2.2.2.1
    have := sum_five ps h5
    omega
/-- Both functions answer the same at every text. -/
theorem both_any (s : ByteArray) : ∃ (R1 R2 : List Int) (ok : Bool), R1.length ≤ 1000 ∧ R2.length ≤ 1000 ∧ (∀ w, Calls Tryd.prog 8 #[.string s] w (ParQ w R1 R2 ok)) ∧ ∀ w, Tabs w → Calls Tryd.prog 9 #[.string s] w (ParQ w R1 R2 ok) := by
  by_cases h1 : s.size ≤ 100
  · have hl := pieces_size s 32
    cases hg : goodP (pieces s 32) with
    | true =>
      have hR : ParIs (pieces s 32) (prL (pieces s 32)) (dyL (pieces s 32)) true := .inl ⟨hg, rfl, rfl, rfl⟩
      exact ⟨_, _, _, by rw [prL_len]; omega, by rw [dyL_len]; omega, fun w => specPR s h1 w _ rfl _ _ _ hR, fun w hT => implPR s (by omega) w hT _ rfl _ _ _ hR⟩
    | false =>
      have hR : ParIs (pieces s 32) [] [] false := .inr ⟨hg, rfl, rfl, rfl⟩
      exact ⟨_, _, _, by simp, by simp, fun w => specPR s h1 w _ rfl _ _ _ hR, fun w hT => implPR s (by omega) w hT _ rfl _ _ _ hR⟩
  · refine ⟨[], [], false, by simp, by simp, fun w => specPR_big s (by omega) w, fun w hT => ?_⟩
    by_cases h2 : s.size ≤ 4000
    · exact implPR s h2 w hT _ rfl _ _ _ (.inr ⟨good_size s (by omega), rfl, rfl, rfl⟩)
    · exact implPR_big s (by omega) w
end Go.Proofs.YtefkcdhmiepbfaaDoor.R
