/-
  Plain mathematics: valid loads, sums over a list, the greatest common divisor, fractions. No statement of the seat by itself.
-/
import Derived.Test.YtndafdjllbhbfaaLdO
import Derived.Test.YtndafdjllbhbfaaZN
namespace Go.Proofs.Ytndafdjllbhbfaa

/-- Whether one load is valid. -/
def okLd (c : Int × Int × Int) : Bool := decide ((1 ≤ c.1 ∧ c.1 ≤ 32000) ∧ (-200 ≤ c.2.1 ∧ c.2.1 ≤ 200) ∧ (0 ≤ c.2.2 ∧ c.2.2 ≤ 400))
theorem okLd_iff {c : Int × Int × Int} : okLd c = true ↔ (1 ≤ c.1 ∧ c.1 ≤ 32000) ∧ (-200 ≤ c.2.1 ∧ c.2.1 ≤ 200) ∧ (0 ≤ c.2.2 ∧ c.2.2 ≤ 400) := by simp [okLd]
/-- Whether a list of loads is valid. -/
def goodLd (S : List (Int × Int × Int)) : Bool := decide (S.length ≤ 20) && S.all okLd
theorem goodLd_iff {S : List (Int × Int × Int)} : goodLd S = true ↔ S.length ≤ 20 ∧ ∀ c ∈ S, okLd c = true := by simp [goodLd]
theorem goodLd_not {S : List (Int × Int × Int)} (h : ¬ (S.length ≤ 20 ∧ ∀ c ∈ S, okLd c = true)) : goodLd S = false := by
  cases e : goodLd S with
  | false => rfl
  | true => exact absurd (goodLd_iff.1 e) h
theorem goodLd_at {S : List (Int × Int × Int)} {k : Nat} {c : Int × Int × Int} (h : S[k]? = some c) (hc : okLd c = false) : goodLd S = false :=
  goodLd_not fun g => by rw [g.2 c (List.mem_of_getElem? h)] at hc; cases hc
theorem goodLd_get {S : List (Int × Int × Int)} (h : goodLd S = true) {k : Nat} {c : Int × Int × Int} (hc : S[k]? = some c) : (1 ≤ c.1 ∧ c.1 ≤ 32000) ∧ (-200 ≤ c.2.1 ∧ c.2.1 ≤ 200) ∧ (0 ≤ c.2.2 ∧ c.2.2 ≤ 400) := okLd_iff.1 ((goodLd_iff.1 h).2 c (List.mem_of_getElem? hc))
theorem goodLd_len {S : List (Int × Int × Int)} (h : goodLd S = true) : S.length ≤ 20 := (goodLd_iff.1 h).1
/-- The choice of the valid places. -/
def okAt (S : List (Int × Int × Int)) (i : Nat) : Bool := okLd (S.getD i (0, 0, 0))
theorem okAt_get {S : List (Int × Int × Int)} {k : Nat} {c : Int × Int × Int} (h : S[k]? = some c) : okAt S k = okLd c := by simp [okAt, List.getD, h]
theorem goodLd_nums {S : List (Int × Int × Int)} (h : S.length ≤ 20) : goodLd S = decide ((numsW (okAt S) S.length).length = S.length) := by
  cases e : goodLd S with
  | true =>
    symm
    rw [decide_eq_true_iff, numsW_all]
    intro i hi
    obtain ⟨c, hc⟩ := get_at (Y := S) rfl hi
    rw [okAt_get hc]
    exact (goodLd_iff.1 e).2 c (List.mem_of_getElem? hc)
  | false =>
    symm
    rw [decide_eq_false_iff_not, numsW_all]
    intro ha
    rw [goodLd_iff.2 ⟨h, fun c hc => by
      obtain ⟨i, hi⟩ := List.getElem?_of_mem hc
      rw [← okAt_get hi]
      exact ha i (lt_of_get hi)⟩] at e
    cases e

/-- The sum of what each element counts. -/
def sumF {α : Type} (f : α → Int) (l : List α) : Int := (l.map f).sum
theorem sumF_nil {α : Type} (f : α → Int) : sumF f [] = 0 := rfl
theorem sumF_take {α : Type} (f : α → Int) {l : List α} {k : Nat} {x : α} (h : l[k]? = some x) : sumF f (l.take (k + 1)) = sumF f (l.take k) + f x := by
  unfold sumF
  rw [List.take_add_one, h]
  simp
theorem sumF_bound {α : Type} (f : α → Int) (M : Int) : ∀ (l : List α), (∀ x ∈ l, -M ≤ f x ∧ f x ≤ M) → -(l.length : Int) * M ≤ sumF f l ∧ sumF f l ≤ l.length * M
  | [], _ => by simp [sumF]
  | x :: l, h => by
    obtain ⟨a, b⟩ := sumF_bound f M l fun y hy => h y (List.mem_cons_of_mem _ hy)
    obtain ⟨c, d⟩ := h x List.mem_cons_self
    have e : sumF f (x :: l) = f x + sumF f l := by simp [sumF]
    rw [e, List.length_cons]
    have e1 : -((l.length + 1 : Nat) : Int) * M = -(l.length : Int) * M - M := by push_cast; rw [Int.neg_add, Int.add_mul]; omega
    have e2 : ((l.length + 1 : Nat) : Int) * M = (l.length : Int) * M + M := by push_cast; rw [Int.add_mul]; omega
    omega
theorem sumF_small {α : Type} (f : α → Int) (M : Int) (l : List α) (h : ∀ x ∈ l, -M ≤ f x ∧ f x ≤ M) (hM : 0 ≤ M) (hn : l.length ≤ 20) : -(20 * M) ≤ sumF f l ∧ sumF f l ≤ 20 * M := by
  obtain ⟨a, b⟩ := sumF_bound f M l h
  have h1 : (l.length : Int) * M ≤ 20 * M := Int.mul_le_mul_of_nonneg_right (by omega) hM
  have h2 : -(l.length : Int) * M = -((l.length : Int) * M) := Int.neg_mul _ _
  omega
theorem sumF_take_small {α : Type} (f : α → Int) (M : Int) (l : List α) (h : ∀ x ∈ l, -M ≤ f x ∧ f x ≤ M) (hM : 0 ≤ M) (hn : l.length ≤ 20) (k : Nat) : -(20 * M) ≤ sumF f (l.take k) ∧ sumF f (l.take k) ≤ 20 * M :=
  sumF_small f M _ (fun x hx => h x (List.mem_of_mem_take hx)) hM (by simp; omega)
theorem sumF_pos {α : Type} (f : α → Int) : ∀ (l : List α), (∀ x ∈ l, 0 ≤ f x) → 0 ≤ sumF f l
  | [], _ => by simp [sumF]
  | x :: l, h => by
    have e : sumF f (x :: l) = f x + sumF f l := by simp [sumF]
    have := sumF_pos f l fun y hy => h y (List.mem_cons_of_mem _ hy)
    have := h x List.mem_cons_self
    omega

/-- The three sums. -/
def wgt (c : Int × Int × Int) : Int := c.1
def mAc (c : Int × Int × Int) : Int := c.1 * c.2.1
def mUp (c : Int × Int × Int) : Int := c.1 * c.2.2
theorem mul_box {a b A B : Int} (ha : 0 ≤ a) (hA : a ≤ A) (hb : -B ≤ b) (hB : b ≤ B) : -(A * B) ≤ a * b ∧ a * b ≤ A * B := by
  have hB0 : 0 ≤ B := by omega
  have h1 : a * b ≤ a * B := Int.mul_le_mul_of_nonneg_left hB ha
  have h2 : a * B ≤ A * B := Int.mul_le_mul_of_nonneg_right hA hB0
  have h3 : a * (-B) ≤ a * b := Int.mul_le_mul_of_nonneg_left hb ha
  have h4 : a * (-B) = -(a * B) := Int.mul_neg _ _
  omega
theorem okLd_bounds {c : Int × Int × Int} (h : okLd c = true) : (-32000 ≤ wgt c ∧ wgt c ≤ 32000) ∧ (-6400000 ≤ mAc c ∧ mAc c ≤ 6400000) ∧ (-12800000 ≤ mUp c ∧ mUp c ≤ 12800000) ∧ 1 ≤ wgt c ∧ 0 ≤ mUp c := by
  obtain ⟨⟨a1, a2⟩, ⟨b1, b2⟩, c1, c2⟩ := okLd_iff.1 h
  have p := mul_box (by omega : 0 ≤ c.1) a2 (by omega : -200 ≤ c.2.1) b2
  have q := mul_box (by omega : 0 ≤ c.1) a2 (by omega : -400 ≤ c.2.2) c2
  have r := Int.mul_nonneg (by omega : 0 ≤ c.1) c1
  unfold wgt mAc mUp
  omega
def sW (S : List (Int × Int × Int)) : Int := sumF wgt S
def sA (S : List (Int × Int × Int)) : Int := sumF mAc S
def sU (S : List (Int × Int × Int)) : Int := sumF mUp S
theorem sums_small {S : List (Int × Int × Int)} (h : goodLd S = true) (k : Nat) : (-640000 ≤ sW (S.take k) ∧ sW (S.take k) ≤ 640000) ∧ (-128000000 ≤ sA (S.take k) ∧ sA (S.take k) ≤ 128000000) ∧ (-256000000 ≤ sU (S.take k) ∧ sU (S.take k) ≤ 256000000) := by
  have hl := goodLd_len h
  have ok : ∀ c ∈ S, _ := fun c hc => okLd_bounds ((goodLd_iff.1 h).2 c hc)
  have a := sumF_take_small wgt 32000 S (fun c hc => (ok c hc).1) (by decide) hl k
  have b := sumF_take_small mAc 6400000 S (fun c hc => (ok c hc).2.1) (by decide) hl k
  have c := sumF_take_small mUp 12800000 S (fun c hc => (ok c hc).2.2.1) (by decide) hl k
  unfold sW sA sU
  omega
theorem sums_all {S : List (Int × Int × Int)} (h : goodLd S = true) : (0 ≤ sW S ∧ sW S ≤ 640000) ∧ (-128000000 ≤ sA S ∧ sA S ≤ 128000000) ∧ (0 ≤ sU S ∧ sU S ≤ 256000000) ∧ (0 < S.length → 1 ≤ sW S) := by
  have k := sums_small h S.length
  rw [List.take_length] at k
  have ok : ∀ c ∈ S, _ := fun c hc => okLd_bounds ((goodLd_iff.1 h).2 c hc)
  have p : 0 ≤ sW S := sumF_pos wgt S fun c hc => by have := (ok c hc).2.2.2.1; omega
  have q : 0 ≤ sU S := sumF_pos mUp S fun c hc => (ok c hc).2.2.2.2
  refine ⟨⟨p, k.1.2⟩, k.2.1, ⟨q, k.2.2.2⟩, fun h0 => ?_⟩
  match S, h0, ok with
  | c :: l, _, ok =>
    have e : sW (c :: l) = wgt c + sW l := by simp [sW, sumF]
    have h1 := (ok c List.mem_cons_self).2.2.2.1
    have h2 : 0 ≤ sW l := sumF_pos wgt l fun d hd => by have := (ok d (List.mem_cons_of_mem _ hd)).2.2.2.1; omega
    omega
end Go.Proofs.Ytndafdjllbhbfaa
