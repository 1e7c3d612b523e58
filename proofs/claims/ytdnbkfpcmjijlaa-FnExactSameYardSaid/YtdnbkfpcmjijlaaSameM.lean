/-
  Whether two yards are the same: the order of lists of numbers, and yards up to the order of their stacks. No statement of the seat by itself.
-/
import Derived.Test.YtdnbkfpcmjijlaaRet
import Derived.Sort.LotA
namespace Go.Proofs.Ytdnbkfpcmjijlaa
open Go.RowKit Go.Sort

/-- Which of two lists of numbers comes first. -/
def lexC : List Int → List Int → Int
  | [], [] => 0
  | [], _ :: _ => -1
  | _ :: _, [] => 1
  | x :: xs, y :: ys => if x < y then -1 else if y < x then 1 else lexC xs ys
theorem lexC_self : ∀ a, lexC a a = 0
  | [] => rfl
  | x :: xs => by unfold lexC; rw [if_neg (by omega), if_neg (by omega)]; exact lexC_self xs
theorem lexC_flip : ∀ a b, lexC b a = - lexC a b
  | [], [] => rfl
  | [], _ :: _ => rfl
  | _ :: _, [] => rfl
  | x :: xs, y :: ys => by
    have := lexC_flip xs ys
    unfold lexC
    by_cases h1 : x < y
    · rw [if_neg (by omega), if_pos h1, if_pos h1]; rfl
    · by_cases h2 : y < x
      · rw [if_pos h2, if_neg h1, if_pos h2]
      · rw [if_neg h2, if_neg h1, if_neg h1, if_neg h2]; exact this
theorem lexC_eq : ∀ a b, lexC a b = 0 → a = b
  | [], [] => fun _ => rfl
  | [], _ :: _ => fun h => by simp [lexC] at h
  | _ :: _, [] => fun h => by simp [lexC] at h
  | x :: xs, y :: ys => fun h => by
    unfold lexC at h
    by_cases h1 : x < y
    · rw [if_pos h1] at h; omega
    · by_cases h2 : y < x
      · rw [if_neg h1, if_pos h2] at h; omega
      · rw [if_neg h1, if_neg h2] at h
        rw [lexC_eq xs ys h, show x = y by omega]
/-- Not after, not after: not after. -/
theorem lexC_trans : ∀ a b c, lexC a b ≤ 0 → lexC b c ≤ 0 → lexC a c ≤ 0 ∧ (lexC a b < 0 ∨ lexC b c < 0 → lexC a c < 0)
  | [], [], [] => fun _ _ => by simp [lexC]
  | [], [], _ :: _ => fun _ _ => by simp [lexC]
  | [], _ :: _, [] => fun _ h => by simp [lexC] at h
  | [], _ :: _, _ :: _ => fun _ _ => by simp [lexC]
  | _ :: _, [], _ => fun h => by simp [lexC] at h
  | _ :: _, _ :: _, [] => fun _ h => by simp [lexC] at h
  | x :: xs, y :: ys, z :: zs => fun h1 h2 => by
    have ih := lexC_trans xs ys zs
    unfold lexC at h1 h2 ⊢
    by_cases a1 : x < y
    · rw [if_pos a1]
      by_cases b1 : y < z
      · rw [if_pos (show x < z by omega)]; exact ⟨by omega, fun _ => by omega⟩
      · rw [if_neg b1] at h2
        by_cases b2 : z < y
        · rw [if_pos b2] at h2; omega
        · rw [if_pos (show x < z by omega)]; exact ⟨by omega, fun _ => by omega⟩
    · rw [if_neg a1] at h1 ⊢
      by_cases a2 : y < x
      · rw [if_pos a2] at h1; omega
      · rw [if_neg a2] at h1 ⊢
        by_cases b1 : y < z
        · rw [if_pos (show x < z by omega)]; exact ⟨by omega, fun _ => by omega⟩
        · rw [if_neg b1] at h2 ⊢
          by_cases b2 : z < y
          · rw [if_pos b2] at h2; omega
          · rw [if_neg b2] at h2 ⊢
            rw [if_neg (show ¬ x < z by omega), if_neg (show ¬ z < x by omega)]
            exact ih h1 h2
/-- Comes before. -/
def lexB (a b : List Int) : Bool := decide (lexC a b < 0)
theorem lexB_swo : SWO lexB where
  irrefl x := by simp [lexB, lexC_self]
  trans x y z h1 h2 := by
    simp only [lexB, decide_eq_true_eq] at *
    exact (lexC_trans x y z (by omega) (by omega)).2 (.inl h1)
  ntrans x y z h1 h2 := by
    simp only [lexB, decide_eq_false_iff_not] at *
    have e1 := lexC_flip x y
    have e2 := lexC_flip y z
    have e3 := lexC_flip x z
    have := (lexC_trans z y x (by omega) (by omega)).1
    omega
/-- The rows in their order. -/
def sortY (Y : List (List Int)) : List (List Int) := Y.mergeSort fun a b => decide (lexC a b ≤ 0)
theorem sortY_perm (Y : List (List Int)) : (sortY Y).Perm Y := List.mergeSort_perm _ _
theorem sortY_len (Y : List (List Int)) : (sortY Y).length = Y.length := (sortY_perm Y).length_eq
theorem sortY_sorted (Y : List (List Int)) : (sortY Y).Pairwise fun a b => lexC a b ≤ 0 := by
  have := List.pairwise_mergeSort (le := fun a b => decide (lexC a b ≤ 0)) (fun a b c h1 h2 => by
    simp only [decide_eq_true_eq] at *; exact (lexC_trans a b c h1 h2).1) (fun a b => by
    have := lexC_flip a b
    simp only [Bool.or_eq_true, decide_eq_true_eq]; omega) Y
  unfold sortY
  simpa using this
theorem sort_unique {R Q : List (List Int)} (hp : R.Perm Q) (h1 : R.Pairwise fun a b => lexC a b ≤ 0) (h2 : Q.Pairwise fun a b => lexC a b ≤ 0) : R = Q :=
  List.Perm.eq_of_pairwise (fun a b _ _ e1 e2 => lexC_eq a b (by have := lexC_flip a b; omega)) h1 h2 hp
theorem sort_is {R Y : List (List Int)} (hp : R.Perm Y) (h1 : R.Pairwise fun a b => lexC a b ≤ 0) : R = sortY Y := sort_unique (hp.trans (sortY_perm Y).symm) h1 (sortY_sorted Y)
theorem sort_same {Y Z : List (List Int)} : sortY Y = sortY Z ↔ Y.Perm Z :=
  ⟨fun h => (sortY_perm Y).symm.trans (h ▸ sortY_perm Z), fun h => sort_is ((sortY_perm Y).trans h) (sortY_sorted Y)⟩

theorem lexC_step {a b : List Int} {k : Nat} {x y : Int} (ha : a[k]? = some x) (hb : b[k]? = some y) : lexC (a.drop k) (b.drop k) = if x < y then -1 else if y < x then 1 else lexC (a.drop (k + 1)) (b.drop (k + 1)) := by
  have h1 := lt_of_get ha
  have h2 := lt_of_get hb
  rw [List.getElem?_eq_getElem h1] at ha
  rw [List.getElem?_eq_getElem h2] at hb
  cases ha; cases hb
  rw [List.drop_eq_getElem_cons h1, List.drop_eq_getElem_cons h2, lexC]
theorem lexC_right {a b : List Int} {k : Nat} (ha : k < a.length) (hb : b.length ≤ k) : lexC (a.drop k) (b.drop k) = 1 := by
  rw [List.drop_eq_getElem_cons ha, List.drop_eq_nil_of_le hb, lexC]
theorem lexC_left {a b : List Int} {k : Nat} (ha : a.length ≤ k) (hb : k < b.length) : lexC (a.drop k) (b.drop k) = -1 := by
  rw [List.drop_eq_getElem_cons hb, List.drop_eq_nil_of_le ha, lexC]
theorem lexC_end {a b : List Int} {k : Nat} (ha : a.length ≤ k) (hb : b.length ≤ k) : lexC (a.drop k) (b.drop k) = 0 := by
  rw [List.drop_eq_nil_of_le ha, List.drop_eq_nil_of_le hb, lexC]

/-- What SameYard answers. -/
def okSm (Y Z : List (List Int)) : Bool := goodY Y && goodY Z
def sameR (Y Z : List (List Int)) : Bool := okSm Y Z && decide (Y.Perm Z)
end Go.Proofs.Ytdnbkfpcmjijlaa
