/-
  Plain mathematics: findings counted by a key, the first greatest of a row of counts. No program stands in it.
-/
import Derived.Test.YtonploneihnekaaFinM
import Derived.Lib.Slices
namespace Go.Proofs.Ytonploneihnekaa
open Go.RowKit

/-- How many findings have this key. -/
def cntK (key : Fnd → Int) (r : Nat) (S : List Fnd) : Nat := S.countP fun x => decide (key x = (r : Int))
/-- The counts of the keys 0 to m - 1. -/
def hist (key : Fnd → Int) (m : Nat) (S : List Fnd) : List Int := (List.range m).map fun (j : Nat) => (cntK key j S : Int)
theorem hist_len (key : Fnd → Int) (m : Nat) (S : List Fnd) : (hist key m S).length = m := by simp [hist]
theorem hist_get (key : Fnd → Int) {m r : Nat} (S : List Fnd) (h : r < m) : (hist key m S)[r]? = some (cntK key r S : Int) := by simp [hist, h]
theorem hist_nil (key : Fnd → Int) (m : Nat) : hist key m [] = List.replicate m 0 := by
  refine List.ext_getElem? fun i => ?_
  by_cases h : i < m
  · rw [hist_get key [] h, List.getElem?_replicate, if_pos h]; rfl
  · rw [List.getElem?_eq_none (by rw [hist_len]; omega), List.getElem?_eq_none (by simp; omega)]
theorem cnt_len (key : Fnd → Int) (r : Nat) (S : List Fnd) : cntK key r S ≤ S.length := List.countP_le_length
theorem cnt_snoc (key : Fnd → Int) (r : Nat) (S : List Fnd) (x : Fnd) : cntK key r (S ++ [x]) = cntK key r S + (if key x = (r : Int) then 1 else 0) := by
  unfold cntK
  rw [List.countP_append, List.countP_singleton]
  by_cases h : key x = (r : Int) <;> simp [h]
theorem takeF_at {α : Type} {R : List α} {j : Nat} {x : α} (h : R[j]? = some x) : R.take (j + 1) = R.take j ++ [x] := by
  rw [List.take_add_one, h]; rfl
theorem hist_step {key : Fnd → Int} {m r j : Nat} {S : List Fnd} {x : Fnd} (h : S[j]? = some x) (hk : key x = (r : Int)) (hr : r < m) : (hist key m (S.take j)).set r ((cntK key r (S.take j) : Int) + 1) = hist key m (S.take (j + 1)) := by
  refine List.ext_getElem? fun i => ?_
  by_cases hi : i < m
  · rw [hist_get key _ hi, takeF_at h, cnt_snoc, hk]
    by_cases e : i = r
    · subst e
      rw [List.getElem?_set_self (by rw [hist_len]; exact hi)]
      simp
    · rw [List.getElem?_set_ne (by omega), hist_get key _ hi]
      have : ¬ (r : Int) = (i : Int) := by omega
      simp [this]
  · rw [List.getElem?_eq_none (by simp [hist_len]; omega), List.getElem?_eq_none (by rw [hist_len]; omega)]
/-- The key of a rule, and that of a stack. -/
def ruleK (x : Fnd) : Int := x.1 - 1
def stackK (x : Fnd) : Int := x.2.1
/-- What CountFindings answers. -/
def cntR (n : Nat) (f : Nat → C.Cont) (Y : List (List Int)) (p : Int) : List Int := if askF n f Y p = true then hist ruleK 4 (finY f p Y) else []
theorem cntR_yes {n : Nat} {f : Nat → C.Cont} {Y : List (List Int)} {p : Int} (h : askF n f Y p = true) : cntR n f Y p = hist ruleK 4 (finR n f Y p) := by rw [cntR, if_pos h, finR_yes h]
theorem cntR_no {n : Nat} {f : Nat → C.Cont} {Y : List (List Int)} {p : Int} (h : askF n f Y p = false) : cntR n f Y p = [] := by rw [cntR, if_neg (by simp [h])]
theorem cntR_len (n : Nat) (f : Nat → C.Cont) (Y : List (List Int)) (p : Int) : (cntR n f Y p).length ≤ 1048576 := by
  unfold cntR; split
  · rw [hist_len]; decide
  · simp
theorem finR_mem {n : Nat} {f : Nat → C.Cont} {Y : List (List Int)} {p : Int} (h : askF n f Y p = true) {j : Nat} {x : Fnd} (hx : (finR n f Y p)[j]? = some x) : ∃ r t : Nat, x.1 = (r : Int) + 1 ∧ r < 4 ∧ x.2.1 = (t : Int) ∧ t < 6 := by
  rw [finR_yes h] at hx
  have hm := finY_mem (stF_iff.1 (askF_iff.1 h).1).1 (List.mem_of_getElem? hx)
  exact ⟨(x.1 - 1).toNat, x.2.1.toNat, by omega, by omega, by omega, by omega⟩
/-- The first greatest of counts, as the reference looks for it. -/
def wst (c : Nat → Int) : Nat → Int × Int
  | 0 => (0, -1)
  | i + 1 => if (wst c i).2 < c i then ((i : Int), c i) else wst c i
theorem wst_is (c : Nat → Int) (h0 : ∀ i, 0 ≤ c i) : ∀ i, 0 < i → ∃ b : Nat, wst c i = ((b : Int), c b) ∧ b < i ∧ (∀ j, j < i → c j ≤ c b) ∧ ∀ j, j < b → c j < c b
  | 0, h => by omega
  | i + 1, _ => by
    by_cases hi : i = 0
    · subst hi
      have hc0 := h0 0
      refine ⟨0, ?_, Nat.zero_lt_one, fun j hj => ?_, fun j hj => absurd hj (Nat.not_lt_zero j)⟩
      · rw [wst, if_pos (by show (-1 : Int) < c 0; omega)]
      · have e : j = 0 := by omega
        subst e
        exact Int.le_refl _
    · obtain ⟨b, h1, h2, h3, h4⟩ := wst_is c h0 i (by omega)
      rw [wst, h1]
      by_cases hlt : c b < c i
      · rw [if_pos hlt]
        refine ⟨i, rfl, by omega, fun j hj => ?_, fun j hj => ?_⟩
        · by_cases e : j = i
          · subst e; exact Int.le_refl _
          · have := h3 j (by omega); omega
        · have := h3 j (by omega); omega
      · rw [if_neg hlt]
        refine ⟨b, rfl, by omega, fun j hj => ?_, h4⟩
        by_cases e : j = i
        · subst e; omega
        · exact h3 j (by omega)
theorem wst_bd (c : Nat → Int) (h0 : ∀ i, 0 ≤ c i) (hb : ∀ i, c i ≤ 1000) (i : Nat) : -1 ≤ (wst c i).2 ∧ (wst c i).2 ≤ 1000 ∧ 0 ≤ (wst c i).1 ∧ (wst c i).1 ≤ (i : Int) := by
  by_cases hi : i = 0
  · subst hi; simp [wst]
  · obtain ⟨b, h1, h2, -, -⟩ := wst_is c h0 i (by omega)
    have := h0 b; have := hb b
    rw [h1]; simp only; omega
/-- The greatest of a list is one of it, and none is greater. -/
theorem max_is (zs : List Int) (h : 0 < zs.length) : (∀ (j : Nat) (x : Int), zs[j]? = some x → x ≤ Lib.maxOf zs) ∧ ∃ j : Nat, zs[j]? = some (Lib.maxOf zs) := by
  suffices H : ∀ k, 0 < k → k ≤ zs.length → (∀ (j : Nat) (x : Int), j < k → zs[j]? = some x → x ≤ Lib.maxOf (zs.take k)) ∧ ∃ j : Nat, j < k ∧ zs[j]? = some (Lib.maxOf (zs.take k)) by
    obtain ⟨h1, j, hj, h2⟩ := H zs.length h (Nat.le_refl _)
    rw [List.take_length] at h1 h2
    exact ⟨fun j x hx => h1 j x (lt_of_get hx) hx, j, h2⟩
  intro k
  induction k with
  | zero => intro h; omega
  | succ k ih =>
    intro _ hk
    by_cases h0 : k = 0
    · subst h0
      rw [Lib.maxOf_one]
      obtain ⟨x, hx⟩ := get_at (Y := zs) (k := 0) rfl (by omega)
      have hd : zs.getD 0 0 = x := by rw [List.getD, hx]; rfl
      rw [hd]
      refine ⟨fun j y hj hy => ?_, 0, Nat.zero_lt_one, hx⟩
      have e : j = 0 := by omega
      subst e
      rw [hx] at hy
      cases hy
      exact Int.le_refl _
    · obtain ⟨h1, j, hj, h2⟩ := ih (by omega) (by omega)
      rw [Lib.maxOf_step zs k (by omega) (by omega)]
      obtain ⟨x, hx⟩ := get_at (Y := zs) (k := k) rfl (by omega)
      have hd : zs.getD k 0 = x := by rw [List.getD, hx]; rfl
      rw [hd]
      refine ⟨fun i y hi hy => ?_, ?_⟩
      · by_cases e : i = k
        · subst e; rw [hx] at hy; cases hy; omega
        · have := h1 i y (by omega) hy; omega
      · rcases Int.le_total x (Lib.maxOf (zs.take k)) with hle | hle
        · exact ⟨j, by omega, by rw [Int.max_eq_left hle]; exact h2⟩
        · exact ⟨k, by omega, by rw [Int.max_eq_right hle]; exact hx⟩
end Go.Proofs.Ytonploneihnekaa
