/-
  What spec.SameYard returns. No statement of the seat by itself.
-/
import Derived.Test.YtdnbkfpcmjijlaaSameB
import Derived.Test.YtdnbkfpcmjijlaaFind
namespace Go.Proofs.Ytdnbkfpcmjijlaa
open Go.RowKit

/-- How many rows are empty. -/
def emp (Y : List (List Int)) : Nat := Y.countP fun l => l.length == 0
theorem emp_perm {Y Z : List (List Int)} (h : Y.Perm Z) : emp Y = emp Z := h.countP_eq _
theorem emp_cons (l : List Int) (Y : List (List Int)) : emp (l :: Y) = emp Y + if l.length == 0 then 1 else 0 := by simp [emp, List.countP_cons]
theorem emp_take {Y : List (List Int)} {j : Nat} {l : List Int} (h : Y[j]? = some l) : emp (Y.take (j + 1)) = emp (Y.take j) + if l.length == 0 then 1 else 0 := by
  rw [List.take_add_one, h]; simp [emp, List.countP_append, List.countP_cons]
theorem emp_all (Y : List (List Int)) {n : Nat} (h : Y.length = n) : emp (Y.take n) = emp Y := by rw [List.take_of_length_le (by omega)]
theorem emp_mem {Y : List (List Int)} (h : 0 < emp Y) : [] ∈ Y := by
  obtain ⟨l, h1, h2⟩ := List.countP_pos_iff.1 h
  have : l = [] := List.length_eq_zero_iff.1 (by simpa using h2)
  exact this ▸ h1
/-- No number lies in two rows. -/
def Apart (Y : List (List Int)) : Prop := Y.Pairwise fun a b => ∀ x ∈ a, ∀ y ∈ b, x ≠ y
theorem apart_good {Y : List (List Int)} (h : goodY Y = true) : Apart Y := (List.pairwise_flatten.1 (goodY_iff.1 h).2.2.2.2).2
theorem apart_at {Y : List (List Int)} (h : Apart Y) {i j : Nat} {a b : List Int} {x : Int} (ha : Y[i]? = some a) (hb : Y[j]? = some b) (hx : x ∈ a) (hy : x ∈ b) : a = b := by
  have hi := lt_of_get ha
  have hj := lt_of_get hb
  rw [List.getElem?_eq_getElem hi] at ha
  rw [List.getElem?_eq_getElem hj] at hb
  cases ha; cases hb
  rcases Nat.lt_trichotomy i j with h' | h' | h'
  · exact absurd rfl ((List.pairwise_iff_getElem.1 h) i j hi hj h' x hx x hy)
  · subst h'; rfl
  · exact absurd rfl ((List.pairwise_iff_getElem.1 h) j i hj hi h' x hy x hx)
theorem same_yes : ∀ (Y Z : List (List Int)), Apart Y → (∀ l ∈ Y, 0 < l.length → l ∈ Z) → emp Y = emp Z → Y.length = Z.length → Y.Perm Z
  | [], Z, _, _, _, h => by rw [List.length_eq_zero_iff.1 (show Z.length = 0 by simpa using h.symm)]
  | l :: Y, Z, ha, hm, he, hn => by
    have hl : l ∈ Z := by
      rcases Nat.eq_zero_or_pos l.length with h | h
      · have : l = [] := List.length_eq_zero_iff.1 h
        subst this
        exact emp_mem (by rw [← he, emp_cons]; simp)
      · exact hm l (by simp) h
    have hp := List.perm_cons_erase hl
    have ha' := List.pairwise_cons.1 ha
    have e1 := emp_perm hp
    have e2 := hp.length_eq
    rw [emp_cons] at he e1
    rw [List.length_cons] at hn e2
    refine (List.Perm.cons l (same_yes Y (Z.erase l) ha'.2 (fun l' h' h0 => ?_) (by omega) (by omega))).trans hp.symm
    refine (List.mem_erase_of_ne ?_).2 (hm l' (by simp [h']) h0)
    intro e
    subst e
    obtain ⟨x, hx⟩ := List.exists_mem_of_length_pos h0
    exact ha'.1 l' h' x hx x hx rfl
theorem same_not {Y Z : List (List Int)} {l : List Int} {j : Nat} (h : Y[j]? = some l) (hn : ¬ l ∈ Z) : decide (Y.Perm Z) = false := by
  simp only [decide_eq_false_iff_not]
  exact fun hp => hn (hp.mem_iff.1 (List.mem_of_getElem? h))
/-- What is known when the rows before j have been found. -/
def Found (Y Z : List (List Int)) (j : Nat) : Prop := ∀ (t : Nat) (l : List Int), t < j → Y[t]? = some l → 0 < l.length → l ∈ Z
theorem found_step {Y Z : List (List Int)} {j : Nat} {l : List Int} (h : Found Y Z j) (hl : Y[j]? = some l) (hm : 0 < l.length → l ∈ Z) : Found Y Z (j + 1) := fun t r ht hr h0 => by
  by_cases e : t = j
  · subst e; rw [hl] at hr; cases hr; exact hm h0
  · exact h t r (by omega) hr h0
theorem found_all {Y Z : List (List Int)} {n : Nat} (h : Found Y Z n) (hn : Y.length = n) : ∀ l ∈ Y, 0 < l.length → l ∈ Z := fun l hl h0 => by
  obtain ⟨t, ht, e⟩ := List.getElem_of_mem hl
  exact h t l (by omega) (by rw [← e]; exact List.getElem?_eq_getElem ht) h0
theorem same_end {Y Z : List (List Int)} {n m : Nat} (h1 : Y.length = n) (h2 : Z.length = m) (ha : Apart Y) (h : Found Y Z n) : decide (Y.Perm Z) = (decide (emp Y = emp Z) && decide (n = m)) := by
  by_cases e : emp Y = emp Z
  · by_cases e2 : n = m
    · rw [decide_eq_true e, decide_eq_true e2]
      simpa using same_yes Y Z ha (found_all h h1) e (by omega)
    · rw [decide_eq_false e2, Bool.and_false]
      simp only [decide_eq_false_iff_not]
      exact fun hp => e2 (by have := hp.length_eq; omega)
  · rw [decide_eq_false e, Bool.false_and]
    simp only [decide_eq_false_iff_not]
    exact fun hp => e (emp_perm hp)
/-- A row that is not where its first number lies is nowhere. -/
theorem not_row {Z : List (List Int)} (ha : Apart Z) {l r : List Int} {x : Int} {k p : Nat} (h0 : l[0]? = some x) (hr : Z[k]? = some r) (hp : atL r x = some p) (hne : decide (l = r) = false) : ¬ l ∈ Z := fun hm => by
  obtain ⟨t, ht, e⟩ := List.getElem_of_mem hm
  have := apart_at ha (by rw [← e]; exact List.getElem?_eq_getElem ht : Z[t]? = some l) hr (List.mem_of_getElem? h0) (List.mem_of_getElem? (atL_get hp))
  simp [this] at hne
theorem not_place {Z : List (List Int)} {l : List Int} {x : Int} (h0 : l[0]? = some x) (hp : placeY Z x = none) : ¬ l ∈ Z := fun hm => by
  obtain ⟨t, ht, e⟩ := List.getElem_of_mem hm
  exact atL_not (place_not hp t l (by rw [← e]; exact List.getElem?_eq_getElem ht)) (List.mem_of_getElem? h0)
end Go.Proofs.Ytdnbkfpcmjijlaa
