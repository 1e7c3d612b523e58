/-
  Plain mathematics: the findings of a yard with a number more, and with a number moved. No program stands in it.
-/
import Derived.Test.YtonploneihnekaaFinM
import Derived.Test.YtonploneihnekaaMoveM
namespace Go.Proofs.Ytonploneihnekaa
open Go.RowKit

theorem getD_front {l : List Int} {x : Int} {k : Nat} (h : k < l.length) : (l ++ [x]).getD k 0 = l.getD k 0 := by
  rw [List.getD, List.getD, List.getElem?_append_left h]
theorem rowF_app (f : Nat → C.Cont) (p : Int) (i : Nat) (l : List Int) (x : Int) : ∀ k, k ≤ l.length → rowF f p i (l ++ [x]) k = rowF f p i l k
  | 0, _ => rfl
  | k + 1, h => by
    have e1 : (l ++ [x]).getD k 0 = l.getD k 0 := getD_front (by omega)
    have e2 : belF f (l ++ [x]) k = belF f l k := by
      unfold belF
      split
      · rfl
      · rw [getD_front (by omega)]
    rw [rowF, rowF, rowF_app f p i l x k (by omega), atF, atF, e1, e2]
theorem set_other {Y : List (List Int)} {s i : Nat} (l' : List Int) (h : i ≠ s) : (Y.set s l').getD i [] = Y.getD i [] := by
  rw [List.getD, List.getD, List.getElem?_set_ne (by omega)]
theorem set_same {Y : List (List Int)} {s : Nat} (l' : List Int) (h : s < Y.length) : (Y.set s l').getD s [] = l' := by
  rw [List.getD, List.getElem?_set_self h]; rfl
theorem yF_lo (f : Nat → C.Cont) (p : Int) {Y : List (List Int)} {s : Nat} (l' : List Int) : ∀ i, i ≤ s → yF f p (Y.set s l') i = yF f p Y i
  | 0, _ => rfl
  | i + 1, h => by rw [yF, yF, yF_lo f p l' i (by omega), set_other l' (by omega)]
theorem yF_hi (f : Nat → C.Cont) (p : Int) {Y : List (List Int)} {s : Nat} {l : List Int} (x : Int) (hl : Y[s]? = some l) : ∀ i, s < i → ∃ A B, yF f p Y i = A ++ B ∧ yF f p (Y.set s (l ++ [x])) i = A ++ (atF f p s (l ++ [x]) l.length ++ B)
  | 0, h => by omega
  | i + 1, h => by
    by_cases e : i = s
    · subst e
      refine ⟨yF f p Y i ++ rowF f p i l l.length, [], ?_, ?_⟩
      · rw [yF, getD_of hl, List.append_nil]
      · rw [yF, yF_lo f p _ i (Nat.le_refl _), set_same _ (lt_of_get hl), List.length_append, List.length_singleton, rowF, rowF_app f p i l x _ (Nat.le_refl _), List.append_nil, List.append_assoc]
    · obtain ⟨A, B, h1, h2⟩ := yF_hi f p x hl i (by omega)
      refine ⟨A, B ++ rowF f p i (Y.getD i []) (Y.getD i []).length, ?_, ?_⟩
      · rw [yF, h1, List.append_assoc]
      · rw [yF, h2, set_other _ e, List.append_assoc, List.append_assoc]
/-- With a number more, the findings are as before if that number adds none, and they differ if it adds one. -/
theorem fin_put (f : Nat → C.Cont) (p : Int) {Y : List (List Int)} {s : Nat} {l : List Int} (x : Int) (hl : Y[s]? = some l) : finY f p Y = finY f p (putY Y s x) ↔ atF f p s (l ++ [x]) l.length = [] := by
  obtain ⟨A, B, h1, h2⟩ := yF_hi f p x hl Y.length (lt_of_get hl)
  unfold finY
  rw [putY_len, putY_of hl, h1, h2]
  constructor
  · intro h
    have := congrArg List.length h
    simp only [List.length_append] at this
    exact List.eq_nil_of_length_eq_zero (by omega)
  · intro h; rw [h, List.nil_append]
theorem put_good {Y : List (List Int)} {s : Nat} {l : List Int} {x : Int} (hg : goodY Y = true) (hl : Y[s]? = some l) (h4 : l.length < 4) (hx : 1 ≤ x ∧ x ≤ 99) (hn : ¬ x ∈ Y.flatten) : goodY (putY Y s x) = true := by
  obtain ⟨h1, h2, h3, h5⟩ := goodY_iff.1 hg
  refine goodY_iff.2 ⟨by rw [putY_len]; exact h1, by rw [putY_len]; exact h2, ?_, ?_⟩
  · rw [putY_of hl]
    exact rows_set h3 (by rw [List.length_append, List.length_singleton]; omega)
  · rw [seen_count] at h5 ⊢
    intro a
    have hc := count_set (l ++ [x]) hl a
    rw [← putY_of (x := x) hl, List.count_append] at hc
    have ha := h5 a
    by_cases e : x = a
    · subst e
      have : Y.flatten.count x = 0 := List.count_eq_zero.2 hn
      simp at hc
      omega
    · have : [x].count a = 0 := List.count_eq_zero.2 (by simpa using fun h => e h.symm)
      omega
theorem put_fullF {Y : List (List Int)} {s : Nat} {l : List Int} {x : Int} (hl : Y[s]? = some l) (h4 : ¬ l.length < 4) : goodY (putY Y s x) = false := by
  refine good_row (i := s) (l := l ++ [x]) ?_ (by rw [List.length_append, List.length_singleton]; omega)
  rw [putY_of hl, List.getElem?_set_self (lt_of_get hl)]
/-- Every number stands for a container, by the yard's numbers. -/
theorem fit_iff {n : Nat} {Y : List (List Int)} : fitB n Y = true ↔ ∀ x ∈ Y.flatten, x ≤ (n : Int) := by
  constructor
  · intro h x hx
    obtain ⟨l, hl, hx⟩ := List.mem_flatten.1 hx
    obtain ⟨i, hi⟩ := List.getElem?_of_mem hl
    exact tallB_no (fitB_row h hi) x hx
  · intro h
    refine fitB_yes fun i l hl => ?_
    cases e : tallB n l with
    | false => rfl
    | true =>
      obtain ⟨x, hx, hb⟩ := List.any_eq_true.1 e
      have := h x (List.mem_flatten.2 ⟨l, List.mem_of_getElem? hl, hx⟩)
      simp at hb
      omega
theorem fit_put {n : Nat} {Y : List (List Int)} {s : Nat} {l : List Int} {x : Int} (h : fitB n Y = true) (hl : Y[s]? = some l) (hx : x ≤ (n : Int)) : fitB n (putY Y s x) = true := by
  rw [fit_iff] at h ⊢
  intro y hy
  rw [putY_of hl] at hy
  have hc := count_set (l ++ [x]) hl y
  rw [List.count_append] at hc
  have h0 := List.count_pos_iff.2 hy
  by_cases e : x = y
  · subst e; exact hx
  · have : [x].count y = 0 := List.count_eq_zero.2 (by simpa using fun h => e h.symm)
    exact h y (List.count_pos_iff.1 (by omega))
theorem moveZ_count {Y : List (List Int)} {a b : Nat} (h : okM Y (a : Int) (b : Int) = true) (x : Int) : (moveZ Y a b).flatten.count x = Y.flatten.count x := by
  obtain ⟨h1, h2, h3, h4, h5⟩ := okM_iff.1 h
  obtain ⟨hg, -, ha⟩ := okS_iff.1 h1
  obtain ⟨-, -, hb⟩ := okS_iff.1 h2
  obtain ⟨l, hl⟩ := get_at (Y := Y) rfl (show a < Y.length by omega)
  obtain ⟨lt, hlt⟩ := get_at (Y := Y) rfl (show b < Y.length by omega)
  rw [Int.toNat_natCast, getD_of hl] at h4
  obtain ⟨m, hm⟩ : ∃ m, l.length = m + 1 := ⟨l.length - 1, by omega⟩
  obtain ⟨y, hy, hsp⟩ := last_split hm
  have hab : a ≠ b := fun e => h3 (by rw [e])
  have ht : (Y.set a (l.take m))[b]? = some lt := by rw [List.getElem?_set_ne hab]; exact hlt
  have e1 : topL l = y := by unfold topL; rw [if_neg h4, hm, Nat.add_sub_cancel, List.getD, hy]; rfl
  unfold moveZ
  rw [getD_of hl, e1, hm, Nat.add_sub_cancel]
  exact moved_count hl hsp ht x
theorem fit_move {n : Nat} {Y : List (List Int)} {a b : Nat} (h : fitB n Y = true) (hm : okM Y (a : Int) (b : Int) = true) : fitB n (moveZ Y a b) = true := by
  rw [fit_iff] at h ⊢
  intro y hy
  have := List.count_pos_iff.2 hy
  rw [moveZ_count hm] at this
  exact h y (List.count_pos_iff.1 this)
theorem moveZ_good {Y : List (List Int)} {a b : Nat} (h : okM Y (a : Int) (b : Int) = true) : goodY (moveZ Y a b) = true := by
  obtain ⟨h1, h2, h3, h4, h5⟩ := okM_iff.1 h
  obtain ⟨hg, -, ha⟩ := okS_iff.1 h1
  obtain ⟨-, -, hb⟩ := okS_iff.1 h2
  obtain ⟨l, hl⟩ := get_at (Y := Y) rfl (show a < Y.length by omega)
  obtain ⟨lt, hlt⟩ := get_at (Y := Y) rfl (show b < Y.length by omega)
  rw [Int.toNat_natCast, getD_of hl] at h4
  rw [Int.toNat_natCast, getD_of hlt] at h5
  obtain ⟨m, hm⟩ : ∃ m, l.length = m + 1 := ⟨l.length - 1, by omega⟩
  obtain ⟨y, hy, hsp⟩ := last_split hm
  have hab : a ≠ b := fun e => h3 (by rw [e])
  have ht : (Y.set a (l.take m))[b]? = some lt := by rw [List.getElem?_set_ne hab]; exact hlt
  have e1 : topL l = y := by unfold topL; rw [if_neg h4, hm, Nat.add_sub_cancel, List.getD, hy]; rfl
  have h6 := row_four hg hlt
  unfold moveZ
  rw [getD_of hl, e1, hm, Nat.add_sub_cancel]
  exact moved_good hg hl hsp ht (by omega)
end Go.Proofs.Ytonploneihnekaa
