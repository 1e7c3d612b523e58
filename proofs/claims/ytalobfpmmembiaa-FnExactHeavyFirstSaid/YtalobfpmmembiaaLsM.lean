/-
  Plain mathematics: valid weights, sums, forces and lashings of a column. No statement of the seat by itself.
-/
import Derived.Test.YtalobfpmmembiaaZN
namespace Go.Proofs.Ytalobfpmmembiaa

/-- Whether a list of weights is valid, with at most m of them. -/
def okW (x : Int) : Bool := decide (1 ≤ x ∧ x ≤ 32000)
theorem okW_iff {x : Int} : okW x = true ↔ 1 ≤ x ∧ x ≤ 32000 := by simp [okW]
def goodW (l : List Int) (m : Nat) : Bool := decide (l.length ≤ m) && l.all okW
theorem goodW_iff {l : List Int} {m : Nat} : goodW l m = true ↔ l.length ≤ m ∧ ∀ x ∈ l, 1 ≤ x ∧ x ≤ 32000 := by simp [goodW, okW]
theorem goodW_not {l : List Int} {m : Nat} (h : ¬ (l.length ≤ m ∧ ∀ x ∈ l, 1 ≤ x ∧ x ≤ 32000)) : goodW l m = false := by
  cases e : goodW l m with
  | false => rfl
  | true => exact absurd (goodW_iff.1 e) h
theorem goodW_at {l : List Int} {m k : Nat} {x : Int} (h : l[k]? = some x) (hx : ¬ (1 ≤ x ∧ x ≤ 32000)) : goodW l m = false :=
  goodW_not fun g => hx (g.2 x (List.mem_of_getElem? h))
theorem goodW_long {l : List Int} {m : Nat} (h : m < l.length) : goodW l m = false := goodW_not fun g => by omega
theorem goodW_len {l : List Int} {m : Nat} (h : goodW l m = true) : l.length ≤ m := (goodW_iff.1 h).1
theorem goodW_get {l : List Int} {m k : Nat} {x : Int} (h : goodW l m = true) (hx : l[k]? = some x) : 1 ≤ x ∧ x ≤ 32000 := (goodW_iff.1 h).2 x (List.mem_of_getElem? hx)
/-- The choice of the valid places. -/
def wAt (l : List Int) (i : Nat) : Bool := okW (l.getD i 0)
theorem wAt_get {l : List Int} {k : Nat} {x : Int} (h : l[k]? = some x) : wAt l k = okW x := by simp [wAt, List.getD, h]
theorem goodW_nums {l : List Int} {m : Nat} (h : l.length ≤ m) : goodW l m = decide ((numsW (wAt l) l.length).length = l.length) := by
  cases e : goodW l m with
  | true =>
    symm
    rw [decide_eq_true_iff, numsW_all]
    intro i hi
    obtain ⟨x, hx⟩ : ∃ x, l[i]? = some x := ⟨_, List.getElem?_eq_getElem hi⟩
    rw [wAt_get hx, okW_iff]
    exact goodW_get e hx
  | false =>
    symm
    rw [decide_eq_false_iff_not, numsW_all]
    intro ha
    rw [goodW_iff.2 ⟨h, fun x hx => by
      obtain ⟨i, hi⟩ := List.getElem?_of_mem hx
      have hl : i < l.length := by rcases Nat.lt_or_ge i l.length with q | q; exact q; rw [List.getElem?_eq_none q] at hi; cases hi
      rw [← okW_iff, ← wAt_get hi]
      exact ha i hl⟩] at e
    cases e

/-- The rules. -/
def okX (a b c : Int) : Bool := decide ((1 ≤ a ∧ a ≤ 200000) ∧ (0 ≤ b ∧ b ≤ 100) ∧ 1 ≤ c ∧ c ≤ 100000)
theorem okX_iff {a b c : Int} : okX a b c = true ↔ (1 ≤ a ∧ a ≤ 200000) ∧ (0 ≤ b ∧ b ≤ 100) ∧ 1 ≤ c ∧ c ≤ 100000 := by simp [okX]
theorem okX_not {a b c : Int} (h : ¬ ((1 ≤ a ∧ a ≤ 200000) ∧ (0 ≤ b ∧ b ≤ 100) ∧ 1 ≤ c ∧ c ≤ 100000)) : okX a b c = false := by simp [okX]; omega
/-- A valid column under valid rules. -/
def goodC (l : List Int) (a b c : Int) : Bool := goodW l 4 && okX a b c

/-- Sums. -/
theorem sum_take {l : List Int} {k : Nat} {x : Int} (h : l[k]? = some x) : (l.take (k + 1)).sum = (l.take k).sum + x := by
  rw [List.take_add_one, h]
  simp
theorem sum_bound (M : Int) : ∀ (l : List Int), (∀ x ∈ l, 0 ≤ x ∧ x ≤ M) → 0 ≤ l.sum ∧ l.sum ≤ l.length * M
  | [], _ => by simp
  | x :: l, h => by
    obtain ⟨a, b⟩ := sum_bound M l fun y hy => h y (List.mem_cons_of_mem _ hy)
    obtain ⟨c, d⟩ := h x List.mem_cons_self
    rw [List.sum_cons, List.length_cons]
    have e2 : ((l.length + 1 : Nat) : Int) * M = (l.length : Int) * M + M := by push_cast; rw [Int.add_mul]; omega
    omega
theorem sum_small (M : Int) (N : Nat) (l : List Int) (hN : l.length ≤ N) (hM : 0 ≤ M) (h : ∀ x ∈ l, 0 ≤ x ∧ x ≤ M) : 0 ≤ l.sum ∧ l.sum ≤ N * M := by
  obtain ⟨a, b⟩ := sum_bound M l h
  have : (l.length : Int) * M ≤ N * M := Int.mul_le_mul_of_nonneg_right (by omega) hM
  omega
theorem drop_sum {l : List Int} {k : Nat} : (l.drop k).sum = l.sum - (l.take k).sum := by
  have := congrArg List.sum (List.take_append_drop k l)
  rw [List.sum_append] at this
  omega

/-- The force at a foot below a sum of weights. -/
def frc (t s : Int) : Int := (t * s + 99) / 100
theorem frc_zero (t : Int) : frc t 0 = 0 := by simp [frc]
theorem frc_bound {t s S : Int} (h0 : 0 ≤ t) (h1 : t ≤ 100) (h2 : 0 ≤ s) (h3 : s ≤ S) : 0 ≤ frc t s ∧ frc t s ≤ S ∧ 0 ≤ t * s ∧ t * s ≤ 100 * S := by
  have p : 0 ≤ t * s := Int.mul_nonneg h0 h2
  have q1 : t * s ≤ t * S := Int.mul_le_mul_of_nonneg_left h3 h0
  have q2 : t * S ≤ 100 * S := Int.mul_le_mul_of_nonneg_right h1 (by omega)
  unfold frc
  omega
/-- The forces at the feet of the first k. -/
def frcs (t : Int) (l : List Int) : Nat → List Int
  | 0 => []
  | k + 1 => frcs t l k ++ [frc t (l.drop k).sum]
theorem frcs_len (t : Int) (l : List Int) : ∀ k, (frcs t l k).length = k
  | 0 => rfl
  | k + 1 => by rw [frcs, List.length_append, frcs_len t l k]; rfl
theorem frcs_get (t : Int) (l : List Int) : ∀ (n k : Nat), k < n → (frcs t l n)[k]? = some (frc t (l.drop k).sum)
  | n + 1, k, h => by
    rw [frcs]
    by_cases e : k < n
    · rw [List.getElem?_append_left (by rw [frcs_len]; exact e)]
      exact frcs_get t l n k e
    · obtain rfl : k = n := by omega
      rw [List.getElem?_append_right (by rw [frcs_len]; omega), frcs_len, Nat.sub_self]
      rfl
/-- The lashings for a force. -/
def lsh (st f : Int) : Int := (f + st - 1) / st
theorem lsh_mono {st f g : Int} (h : 1 ≤ st) (hf : f ≤ g) : lsh st f ≤ lsh st g := Int.ediv_le_ediv (by omega) (by omega)
theorem lsh_bound {st f : Int} (h1 : 1 ≤ st) (h2 : 0 ≤ f) : 0 ≤ lsh st f ∧ lsh st f ≤ f := by
  unfold lsh
  refine ⟨Int.ediv_nonneg (by omega) (by omega), ?_⟩
  by_cases h0 : f = 0
  · subst h0
    rw [Int.ediv_eq_zero_of_lt (by omega) (by omega)]
    omega
  · have : (f + st - 1) / st < f + 1 := by
      rw [Int.ediv_lt_iff_lt_mul (by omega)]
      have e : (f + 1) * st = f * st + st := by rw [Int.add_mul]; omega
      have : f * 1 ≤ f * st := Int.mul_le_mul_of_nonneg_left h1 h2
      omega
    omega
/-- The lashings of the first k forces. -/
def lshs (st : Int) (F : List Int) (k : Nat) : List Int := (F.take k).map (lsh st)
theorem lshs_len (st : Int) {F : List Int} {k : Nat} (h : k ≤ F.length) : (lshs st F k).length = k := by simp [lshs]; omega
theorem lshs_next {st : Int} {F : List Int} {k : Nat} {f : Int} (h : F[k]? = some f) : lshs st F (k + 1) = lshs st F k ++ [lsh st f] := by
  unfold lshs
  rw [List.take_add_one, h]
  simp
/-- Whether no foot needs more than four. -/
def few (st : Int) (F : List Int) : Bool := F.all fun f => decide (lsh st f ≤ 4)
theorem few_at {st : Int} {F : List Int} {k : Nat} {f : Int} (h : F[k]? = some f) (hf : ¬ lsh st f ≤ 4) : few st F = false := by
  cases e : few st F with
  | false => rfl
  | true =>
    unfold few at e
    rw [List.all_eq_true] at e
    exact absurd (of_decide_eq_true (e f (List.mem_of_getElem? h))) hf
theorem few_all {st : Int} {F : List Int} (h : ∀ (k : Nat) (f : Int), F[k]? = some f → lsh st f ≤ 4) : few st F = true := by
  unfold few
  rw [List.all_eq_true]
  intro f hf
  obtain ⟨k, hk⟩ := List.getElem?_of_mem hf
  exact decide_eq_true (h k f hk)
/-- What LashForces answers. -/
def foL (l : List Int) (a b c : Int) : List Int := if goodC l a b c = true then frcs b l l.length else []
/-- What LashingsNeeded answers. -/
def neB (l : List Int) (a b c : Int) : Bool := goodC l a b c && few c (frcs b l l.length)
def neL (l : List Int) (a b c : Int) : List Int := if neB l a b c = true then lshs c (frcs b l l.length) l.length else []
theorem foL_len (l : List Int) (a b c : Int) : (foL l a b c).length ≤ 4 := by
  unfold foL
  split
  · rename_i h
    rw [frcs_len]
    exact goodW_len (by simp [goodC] at h; exact h.1)
  · simp
theorem neL_len (l : List Int) (a b c : Int) : (neL l a b c).length ≤ 4 := by
  unfold neL
  split
  · rename_i h
    simp [neB, goodC] at h
    rw [lshs_len _ (by rw [frcs_len]; omega)]
    exact goodW_len h.1.1
  · simp
/-- What ColumnWeight answers. -/
def cwS (l : List Int) (a b c : Int) : Int := if goodC l a b c = true then l.sum else 0
def cwB (l : List Int) (a b c : Int) : Bool := goodC l a b c && decide (l.sum ≤ a)
/-- What AddOnTop answers. -/
def adB (l : List Int) (x a b c : Int) : Bool := neB (l ++ [x]) a b c && decide ((l ++ [x]).sum ≤ a)
def adL (l : List Int) (x a b c : Int) : List Int := if adB l x a b c = true then l ++ [x] else []
theorem adB_good {l : List Int} {x a b c : Int} (h : adB l x a b c = true) : goodC l a b c = true ∧ goodC (l ++ [x]) a b c = true := by
  simp only [adB, neB, Bool.and_eq_true] at h
  refine ⟨?_, h.1.1⟩
  have g := h.1.1
  simp only [goodC, Bool.and_eq_true] at g ⊢
  refine ⟨goodW_iff.2 ?_, g.2⟩
  obtain ⟨g1, g2⟩ := goodW_iff.1 g.1
  rw [List.length_append, List.length_singleton] at g1
  exact ⟨by omega, fun y hy => g2 y (List.mem_append_left _ hy)⟩
theorem adL_len (l : List Int) (x a b c : Int) : (adL l x a b c).length ≤ 4 := by
  unfold adL
  split
  · rename_i h
    have := (adB_good h).2
    simp only [goodC, Bool.and_eq_true] at this
    exact goodW_len this.1
  · simp
end Go.Proofs.Ytalobfpmmembiaa
