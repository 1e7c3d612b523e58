/-
  What slices.Equal and spec.l1Same return of two lists of numbers, and slices.EqualFunc of two lists of such. No statement of the seat by itself.
-/
import Derived.Test.YthokmklnldoinaaSameA
namespace Go.Proofs.Ythokmklnldoinaa
open Go.RowKit

theorem eq_take {a b : List Int} {n : Nat} (h1 : a.length = n) (h2 : b.length = n) (h : ∀ (j : Nat) (x y : Int), j < n → a[j]? = some x → b[j]? = some y → x = y) : a = b := by
  apply List.ext_getElem (by omega)
  intro i hi hj
  exact h i _ _ (by omega) (List.getElem?_eq_getElem hi) (List.getElem?_eq_getElem hj)
theorem ne_take {a b : List Int} {k : Nat} {x y : Int} (h1 : a[k]? = some x) (h2 : b[k]? = some y) (h : ¬ x = y) : decide (a = b) = false := by
  simp only [decide_eq_false_iff_not]
  intro e
  subst e
  rw [h1] at h2; cases h2; exact h rfl
theorem ne_len {α : Type} [DecidableEq α] {a b : List α} {n m : Nat} (h1 : a.length = n) (h2 : b.length = m) (h : ¬ n = m) : decide (a = b) = false := by
  simp only [decide_eq_false_iff_not]
  intro e
  subst e
  omega

theorem eqY_take {a b : List (List Int)} {n : Nat} (h1 : a.length = n) (h2 : b.length = n) (h : ∀ (j : Nat) (x y : List Int), j < n → a[j]? = some x → b[j]? = some y → x = y) : a = b := by
  apply List.ext_getElem (by omega)
  intro i hi hj
  exact h i _ _ (by omega) (List.getElem?_eq_getElem hi) (List.getElem?_eq_getElem hj)
theorem neY_take {a b : List (List Int)} {k : Nat} {x y : List Int} (h1 : a[k]? = some x) (h2 : b[k]? = some y) (h : decide (x = y) = false) : decide (a = b) = false := by
  simp only [decide_eq_false_iff_not] at *
  intro e
  subst e
  rw [h1] at h2; cases h2; exact h rfl

end Go.Proofs.Ythokmklnldoinaa
