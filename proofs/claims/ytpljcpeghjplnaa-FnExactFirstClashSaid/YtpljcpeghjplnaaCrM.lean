/-
  Plain mathematics: work at bays, divisions, their bounds, shares and loads. No statement of the seat by itself.
-/
import Derived.Test.YtpljcpeghjplnaaZN
namespace Go.Proofs.Ytpljcpeghjplnaa

/-- Whether minutes are the work at a bay, and a list the work at a ship. -/
def okWk (x : Int) : Bool := decide (0 ≤ x ∧ x ≤ 300)
theorem okWk_iff {x : Int} : okWk x = true ↔ 0 ≤ x ∧ x ≤ 300 := by simp [okWk]
def wkB (l : List Int) : Bool := decide (1 ≤ l.length ∧ l.length ≤ 10) && l.all okWk
theorem wkB_iff {l : List Int} : wkB l = true ↔ (1 ≤ l.length ∧ l.length ≤ 10) ∧ ∀ x ∈ l, 0 ≤ x ∧ x ≤ 300 := by simp [wkB, okWk]
theorem wkB_not {l : List Int} (h : ¬ ((1 ≤ l.length ∧ l.length ≤ 10) ∧ ∀ x ∈ l, 0 ≤ x ∧ x ≤ 300)) : wkB l = false := by
  cases e : wkB l with
  | false => rfl
  | true => exact absurd (wkB_iff.1 e) h
theorem wkB_at {l : List Int} {k : Nat} {x : Int} (h : l[k]? = some x) (hx : ¬ (0 ≤ x ∧ x ≤ 300)) : wkB l = false :=
  wkB_not fun g => hx (g.2 x (List.mem_of_getElem? h))
theorem wkB_get {l : List Int} {k : Nat} {x : Int} (h : wkB l = true) (hx : l[k]? = some x) : 0 ≤ x ∧ x ≤ 300 := (wkB_iff.1 h).2 x (List.mem_of_getElem? hx)
/-- The choice of the valid places. -/
def kAt (l : List Int) (i : Nat) : Bool := okWk (l.getD i 0)
theorem kAt_get {l : List Int} {k : Nat} {x : Int} (h : l[k]? = some x) : kAt l k = okWk x := by simp [kAt, List.getD, h]
theorem wkB_nums {l : List Int} (h : 1 ≤ l.length ∧ l.length ≤ 10) : wkB l = decide ((numsW (kAt l) l.length).length = l.length) := by
  cases e : wkB l with
  | true =>
    symm
    rw [decide_eq_true_iff, numsW_all]
    intro i hi
    obtain ⟨x, hx⟩ : ∃ x, l[i]? = some x := ⟨_, List.getElem?_eq_getElem hi⟩
    rw [kAt_get hx, okWk_iff]
    exact wkB_get e hx
  | false =>
    symm
    rw [decide_eq_false_iff_not, numsW_all]
    intro ha
    rw [wkB_iff.2 ⟨h, fun x hx => by
      obtain ⟨i, hi⟩ := List.getElem?_of_mem hx
      have hl : i < l.length := by rcases Nat.lt_or_ge i l.length with q | q; exact q; rw [List.getElem?_eq_none q] at hi; cases hi
      rw [← okWk_iff, ← kAt_get hi]
      exact ha i hl⟩] at e
    cases e
/-- A number of cranes. -/
def crB (c : Int) : Bool := decide (1 ≤ c ∧ c ≤ 3)
theorem crB_iff {c : Int} : crB c = true ↔ 1 ≤ c ∧ c ≤ 3 := by simp [crB]
theorem crB_not {c : Int} (h : ¬ (1 ≤ c ∧ c ≤ 3)) : crB c = false := by simp [crB]; omega
def askC (l : List Int) (c : Int) : Bool := wkB l && crB c
theorem askC_iff {l : List Int} {c : Int} : askC l c = true ↔ wkB l = true ∧ (1 ≤ c ∧ c ≤ 3) := by simp [askC, crB]

/-- Sums. -/
theorem sumC_take {l : List Int} {k : Nat} {x : Int} (h : l[k]? = some x) : (l.take (k + 1)).sum = (l.take k).sum + x := by
  rw [List.take_add_one, h]
  simp
theorem sumC_bound (M : Int) : ∀ (l : List Int), (∀ x ∈ l, 0 ≤ x ∧ x ≤ M) → 0 ≤ l.sum ∧ l.sum ≤ l.length * M
  | [], _ => by simp
  | x :: l, h => by
    obtain ⟨a, b⟩ := sumC_bound M l fun y hy => h y (List.mem_cons_of_mem _ hy)
    obtain ⟨c, d⟩ := h x List.mem_cons_self
    rw [List.sum_cons, List.length_cons]
    have e2 : ((l.length + 1 : Nat) : Int) * M = (l.length : Int) * M + M := by push_cast; rw [Int.add_mul]; omega
    omega
theorem sumC_small (M : Int) (N : Nat) (l : List Int) (hN : l.length ≤ N) (hM : 0 ≤ M) (h : ∀ x ∈ l, 0 ≤ x ∧ x ≤ M) : 0 ≤ l.sum ∧ l.sum ≤ N * M := by
  obtain ⟨a, b⟩ := sumC_bound M l h
  have : (l.length : Int) * M ≤ N * M := Int.mul_le_mul_of_nonneg_right (by omega) hM
  omega
theorem dropC_sum {l : List Int} {k : Nat} : (l.drop k).sum = l.sum - (l.take k).sum := by
  have := congrArg List.sum (List.take_append_drop k l)
  rw [List.sum_append] at this
  omega
/-- The greatest of a list, 0 at least. -/
def mxC : List Int → Int
  | [] => 0
  | x :: l => max x (mxC l)
theorem mxC_nonneg : ∀ l : List Int, 0 ≤ mxC l
  | [] => Int.le_refl _
  | x :: l => by have := mxC_nonneg l; simp only [mxC]; omega
theorem mxC_app (l : List Int) (x : Int) : mxC (l ++ [x]) = max (mxC l) x := by
  induction l with
  | nil => simp only [List.nil_append, mxC]; omega
  | cons y l ih => simp only [List.cons_append, mxC, ih]; omega
theorem mxC_take {l : List Int} {k : Nat} {x : Int} (h : l[k]? = some x) : mxC (l.take (k + 1)) = max (mxC (l.take k)) x := by
  rw [List.take_add_one, h]
  exact mxC_app _ _
theorem mxC_le {M : Int} (hM : 0 ≤ M) : ∀ {l : List Int}, (∀ x ∈ l, x ≤ M) → mxC l ≤ M
  | [], _ => hM
  | x :: l, h => by
    have h1 := h x List.mem_cons_self
    have h2 := mxC_le hM (l := l) fun y hy => h y (List.mem_cons_of_mem _ hy)
    simp only [mxC]
    omega
theorem le_mxC : ∀ {l : List Int} {x : Int}, x ∈ l → x ≤ mxC l
  | y :: l, x, h => by
    rcases List.mem_cons.1 h with e | e
    · subst e; simp only [mxC]; omega
    · have := le_mxC e; simp only [mxC]; omega
theorem mxC_mem : ∀ {l : List Int}, l ≠ [] → (∀ x ∈ l, 0 ≤ x) → mxC l ∈ l
  | [x], _, h => by
    have := h x List.mem_cons_self
    have e : mxC [x] = x := by simp only [mxC]; omega
    rw [e]
    exact List.mem_cons_self
  | x :: y :: l, _, h => by
    have ih := mxC_mem (l := y :: l) (by simp) fun z hz => h z (List.mem_cons_of_mem _ hz)
    by_cases e : mxC (y :: l) ≤ x
    · have e2 : mxC (x :: y :: l) = x := by rw [mxC]; omega
      rw [e2]
      exact List.mem_cons_self
    · have e2 : mxC (x :: y :: l) = mxC (y :: l) := by rw [mxC]; omega
      rw [e2]
      exact List.mem_cons_of_mem _ ih

/-- The bound of DivisionBound. -/
def dbR (l : List Int) (c : Int) : Int := if askC l c = true then max (mxC l) ((l.sum + c - 1) / c) else 0
theorem wkB_sum {l : List Int} (h : wkB l = true) (k : Nat) : 0 ≤ (l.take k).sum ∧ (l.take k).sum ≤ 3000 := by
  obtain ⟨h1, h2⟩ := wkB_iff.1 h
  have := sumC_small 300 10 (l.take k) (by simp; omega) (by decide) (fun x hx => h2 x (List.mem_of_mem_take hx))
  omega

/-- A list in ascending order. -/
def ascB (l : List Int) : Bool := (List.range (l.length - 1)).all fun i => decide (l.getD i 0 ≤ l.getD (i + 1) 0)
theorem ascB_iff {l : List Int} : ascB l = true ↔ ∀ i, i + 1 < l.length → l.getD i 0 ≤ l.getD (i + 1) 0 := by
  simp only [ascB, List.all_eq_true, List.mem_range, decide_eq_true_iff]
  exact ⟨fun h i hi => h i (by omega), fun h i hi => h i (by omega)⟩
theorem ascB_not {l : List Int} {i : Nat} (hi : i + 1 < l.length) (h : ¬ l.getD i 0 ≤ l.getD (i + 1) 0) : ascB l = false := by
  cases e : ascB l with
  | false => rfl
  | true => exact absurd (ascB_iff.1 e i hi) h
theorem ascB_le {l : List Int} (h : ascB l = true) : ∀ (k i : Nat), i + k < l.length → l.getD i 0 ≤ l.getD (i + k) 0
  | 0, i, _ => Int.le_refl _
  | k + 1, i, hk => by
    have h1 := ascB_le h k i (by omega)
    have h2 := ascB_iff.1 h (i + k) (by omega)
    rw [show i + (k + 1) = i + k + 1 by omega]
    omega
/-- The bounds of a division. -/
def bdsC (n : Nat) (d : List Int) : List Int := 0 :: d ++ [(n : Int)]
theorem bdsC_len (n : Nat) (d : List Int) : (bdsC n d).length = d.length + 2 := by simp [bdsC]
theorem bdsC_zero (n : Nat) (d : List Int) : (bdsC n d).getD 0 0 = 0 := by simp [bdsC]
theorem bdsC_mid {n : Nat} {d : List Int} {i : Nat} (h : i < d.length) : (bdsC n d).getD (i + 1) 0 = d.getD i 0 := by
  simp [bdsC, List.getD, List.getElem?_append_left h]
theorem bdsC_last (n : Nat) (d : List Int) : (bdsC n d).getD (d.length + 1) 0 = n := by
  simp [bdsC, List.getD]
/-- Whether a list is a division. -/
def dvB (n : Nat) (c : Int) (d : List Int) : Bool := decide ((d.length : Int) + 1 = c) && ascB (bdsC n d)
theorem dvB_iff {n : Nat} {c : Int} {d : List Int} : dvB n c d = true ↔ (d.length : Int) + 1 = c ∧ ascB (bdsC n d) = true := by simp [dvB]
theorem asc_dv {n : Nat} {d : List Int} : ascB (bdsC n d) = true ↔ ∀ i, i < d.length → (0 ≤ d.getD i 0 ∧ d.getD i 0 ≤ n) ∧ (0 < i → d.getD (i - 1) 0 ≤ d.getD i 0) := by
  constructor
  · intro h i hi
    have hl := bdsC_len n d
    have h1 := ascB_le h (i + 1) 0 (by omega)
    have h2 := ascB_le h (d.length - i) (i + 1) (by omega)
    rw [Nat.zero_add, bdsC_zero, bdsC_mid hi] at h1
    rw [show i + 1 + (d.length - i) = d.length + 1 by omega, bdsC_last, bdsC_mid hi] at h2
    refine ⟨⟨h1, h2⟩, fun h0 => ?_⟩
    have h3 := ascB_iff.1 h i (by omega)
    rw [bdsC_mid hi, show i = (i - 1) + 1 by omega, bdsC_mid (by omega)] at h3
    rw [show i - 1 + 1 = i by omega] at h3
    exact h3
  · intro h
    rw [ascB_iff]
    intro i hi
    rw [bdsC_len] at hi
    by_cases e0 : i = 0
    · subst e0
      rw [bdsC_zero]
      by_cases e1 : d.length = 0
      · have e2 := bdsC_last n d
        rw [e1] at e2
        rw [e2]
        omega
      · rw [bdsC_mid (by omega)]
        exact (h 0 (by omega)).1.1
    · obtain ⟨j, rfl⟩ : ∃ j, i = j + 1 := ⟨i - 1, by omega⟩
      rw [bdsC_mid (by omega)]
      by_cases e1 : j + 1 = d.length
      · rw [e1, bdsC_last]
        exact (h j (by omega)).1.2
      · rw [bdsC_mid (by omega)]
        have := (h (j + 1) (by omega)).2 (by omega)
        simpa using this
/-- The bay at which crane i begins, and the one behind the last bay of crane i - 1. -/
def bdN (n : Nat) (d : List Int) (i : Nat) : Nat := ((bdsC n d).getD i 0).toNat
theorem bdN_int {n : Nat} {d : List Int} (h : ascB (bdsC n d) = true) {i : Nat} (hi : i < d.length + 2) : ((bdN n d i : Nat) : Int) = (bdsC n d).getD i 0 := by
  have h1 := ascB_le h i 0 (by rw [bdsC_len]; omega)
  rw [Nat.zero_add, bdsC_zero] at h1
  unfold bdN
  omega
theorem bdN_le {n : Nat} {d : List Int} (h : ascB (bdsC n d) = true) {i : Nat} (hi : i < d.length + 1) : bdN n d i ≤ bdN n d (i + 1) ∧ bdN n d (i + 1) ≤ n := by
  have h1 := ascB_iff.1 h i (by rw [bdsC_len]; omega)
  have h2 := ascB_le h (d.length + 1 - (i + 1)) (i + 1) (by rw [bdsC_len]; omega)
  rw [show i + 1 + (d.length + 1 - (i + 1)) = d.length + 1 by omega, bdsC_last] at h2
  rw [← bdN_int h (by omega), ← bdN_int h (by omega)] at h1
  rw [← bdN_int h (by omega)] at h2
  omega
theorem bdN_zero (n : Nat) (d : List Int) : bdN n d 0 = 0 := by unfold bdN; rw [bdsC_zero]; rfl
/-- The work of a crane. -/
def shrC (l d : List Int) (c : Nat) : List Int := (l.take (bdN l.length d (c + 1))).drop (bdN l.length d c)
theorem shrC_len {l d : List Int} (h : ascB (bdsC l.length d) = true) {c : Nat} (hc : c < d.length + 1) : (shrC l d c).length = bdN l.length d (c + 1) - bdN l.length d c := by
  have := bdN_le h hc
  unfold shrC
  rw [List.length_drop, List.length_take]
  omega
theorem shrC_sum {l d : List Int} (h : ascB (bdsC l.length d) = true) {c : Nat} (hc : c < d.length + 1) : (shrC l d c).sum = (l.take (bdN l.length d (c + 1))).sum - (l.take (bdN l.length d c)).sum := by
  have := bdN_le h hc
  unfold shrC
  rw [dropC_sum, List.take_take, Nat.min_eq_left (by omega)]
theorem shrC_mem {l d : List Int} {c : Nat} {x : Int} (h : x ∈ shrC l d c) : x ∈ l := List.mem_of_mem_take (List.mem_of_mem_drop h)
/-- The shares of the first k cranes, and their loads. -/
def shsC (l d : List Int) (k : Nat) : List (List Int) := (List.range k).map (shrC l d)
def ldsC (l d : List Int) (k : Nat) : List Int := (List.range k).map fun c => (shrC l d c).sum
theorem shsC_len (l d : List Int) (k : Nat) : (shsC l d k).length = k := by simp [shsC]
theorem ldsC_len (l d : List Int) (k : Nat) : (ldsC l d k).length = k := by simp [ldsC]
theorem shsC_succ (l d : List Int) (k : Nat) : shsC l d (k + 1) = shsC l d k ++ [shrC l d k] := by simp [shsC, List.range_succ]
theorem ldsC_succ (l d : List Int) (k : Nat) : ldsC l d (k + 1) = ldsC l d k ++ [(shrC l d k).sum] := by simp [ldsC, List.range_succ]
theorem shsC_get {l d : List Int} {k i : Nat} (h : i < k) : (shsC l d k)[i]? = some (shrC l d i) := by simp [shsC, h]
/-- What LoadsOf answers. -/
def dvK (l : List Int) (c : Int) (d : List Int) : Bool := askC l c && dvB l.length c d
theorem dvK_iff {l : List Int} {c : Int} {d : List Int} : dvK l c d = true ↔ (wkB l = true ∧ (1 ≤ c ∧ c ≤ 3)) ∧ (d.length : Int) + 1 = c ∧ ascB (bdsC l.length d) = true := by simp [dvK, askC, crB, dvB]
def lofR (l : List Int) (c : Int) (d : List Int) : List Int := if dvK l c d = true then ldsC l d (d.length + 1) else []
theorem lofR_len (l : List Int) (c : Int) (d : List Int) : (lofR l c d).length ≤ 3 := by
  unfold lofR
  split
  · rename_i h
    have := dvK_iff.1 h
    rw [ldsC_len]
    omega
  · simp
end Go.Proofs.Ytpljcpeghjplnaa
