/-
  Valid moves of cranes, sums over moves, clashes: plain mathematics. No statement of the seat by itself.
-/
import Derived.Test.YtpljcpeghjplnaaCmO
import Derived.Test.YtpljcpeghjplnaaCrM
namespace Go.Proofs.Ytpljcpeghjplnaa

abbrev Mv := Int × Int × Int × Int
/-- Whether one move is valid. -/
def okMv (c : Mv) : Bool := decide ((0 ≤ c.1 ∧ c.1 ≤ 2) ∧ (0 ≤ c.2.1 ∧ c.2.1 ≤ 9) ∧ 0 ≤ c.2.2.1 ∧ c.2.2.1 < c.2.2.2 ∧ c.2.2.2 ≤ 10000)
theorem okMv_iff {c : Mv} : okMv c = true ↔ (0 ≤ c.1 ∧ c.1 ≤ 2) ∧ (0 ≤ c.2.1 ∧ c.2.1 ≤ 9) ∧ 0 ≤ c.2.2.1 ∧ c.2.2.1 < c.2.2.2 ∧ c.2.2.2 ≤ 10000 := by simp [okMv]
theorem okMv_no {p q r s : Int} (h : ¬ ((0 ≤ p ∧ p ≤ 2) ∧ (0 ≤ q ∧ q ≤ 9) ∧ 0 ≤ r ∧ r < s ∧ s ≤ 10000)) : okMv (p, q, r, s) = false := by
  cases e : okMv (p, q, r, s) with
  | false => rfl
  | true => exact absurd (okMv_iff.1 e) h
/-- Whether a list of moves is valid. -/
def goodMv (S : List Mv) : Bool := decide (S.length ≤ 30) && S.all okMv
theorem goodMv_iff {S : List Mv} : goodMv S = true ↔ S.length ≤ 30 ∧ ∀ c ∈ S, okMv c = true := by simp [goodMv]
theorem goodMv_not {S : List Mv} (h : ¬ (S.length ≤ 30 ∧ ∀ c ∈ S, okMv c = true)) : goodMv S = false := by
  cases e : goodMv S with
  | false => rfl
  | true => exact absurd (goodMv_iff.1 e) h
theorem goodMv_at {S : List Mv} {k : Nat} {c : Mv} (h : S[k]? = some c) (hc : okMv c = false) : goodMv S = false :=
  goodMv_not fun g => by rw [g.2 c (List.mem_of_getElem? h)] at hc; cases hc
theorem goodMv_get {S : List Mv} (h : goodMv S = true) {k : Nat} {c : Mv} (hc : S[k]? = some c) : (0 ≤ c.1 ∧ c.1 ≤ 2) ∧ (0 ≤ c.2.1 ∧ c.2.1 ≤ 9) ∧ 0 ≤ c.2.2.1 ∧ c.2.2.1 < c.2.2.2 ∧ c.2.2.2 ≤ 10000 := okMv_iff.1 ((goodMv_iff.1 h).2 c (List.mem_of_getElem? hc))
theorem goodMv_len {S : List Mv} (h : goodMv S = true) : S.length ≤ 30 := (goodMv_iff.1 h).1
/-- The choice of the valid places. -/
def mvAt (S : List Mv) (i : Nat) : Bool := okMv (S.getD i (0, 0, 0, 0))
theorem mvAt_get {S : List Mv} {k : Nat} {c : Mv} (h : S[k]? = some c) : mvAt S k = okMv c := by simp [mvAt, List.getD, h]
theorem goodMv_nums {S : List Mv} (h : S.length ≤ 30) : goodMv S = decide ((numsW (mvAt S) S.length).length = S.length) := by
  cases e : goodMv S with
  | true =>
    symm
    rw [decide_eq_true_iff, numsW_all]
    intro i hi
    obtain ⟨c, hc⟩ := get_at (Y := S) rfl hi
    rw [mvAt_get hc]
    exact (goodMv_iff.1 e).2 c (List.mem_of_getElem? hc)
  | false =>
    symm
    rw [decide_eq_false_iff_not, numsW_all]
    intro ha
    rw [goodMv_iff.2 ⟨h, fun c hc => by
      obtain ⟨i, hi⟩ := List.getElem?_of_mem hc
      rw [← mvAt_get hi]
      exact ha i (lt_of_get hi)⟩] at e
    cases e
theorem goodMv_long {S : List Mv} (h : 30 < S.length) : goodMv S = false := goodMv_not fun g => by omega

/-- The minutes of the first k moves of a crane, and the last of their ends. -/
def minC (n : Int) (S : List Mv) : Int := (S.map fun c => if c.1 = n then c.2.2.2 - c.2.2.1 else 0).sum
def endC (n : Int) (S : List Mv) : Int := mxC (S.map fun c => if c.1 = n then c.2.2.2 else 0)
theorem minC_take {n : Int} {S : List Mv} {k : Nat} {c : Mv} (h : S[k]? = some c) : minC n (S.take (k + 1)) = minC n (S.take k) + (if c.1 = n then c.2.2.2 - c.2.2.1 else 0) := by
  unfold minC
  rw [List.take_add_one, h]
  simp
theorem endC_take {n : Int} {S : List Mv} {k : Nat} {c : Mv} (h : S[k]? = some c) : endC n (S.take (k + 1)) = max (endC n (S.take k)) (if c.1 = n then c.2.2.2 else 0) := by
  unfold endC
  rw [List.take_add_one, h, List.map_append]
  exact mxC_app _ _
theorem endC_nonneg (n : Int) (S : List Mv) : 0 ≤ endC n S := mxC_nonneg _
theorem minC_bound {n : Int} {S : List Mv} (h : goodMv S = true) (k : Nat) : 0 ≤ minC n (S.take k) ∧ minC n (S.take k) ≤ 300000 := by
  have := sumC_small 10000 30 ((S.take k).map fun c => if c.1 = n then c.2.2.2 - c.2.2.1 else 0) (by have := goodMv_len h; simp; omega) (by decide) (fun x hx => by
    obtain ⟨c, hc, rfl⟩ := List.mem_map.1 hx
    have := okMv_iff.1 ((goodMv_iff.1 h).2 c (List.mem_of_mem_take hc))
    split <;> omega)
  unfold minC
  omega
/-- What CraneTimes answers. -/
def ctB (S : List Mv) (n : Int) : Bool := goodMv S && decide (0 ≤ n ∧ n ≤ 2)
theorem ctB_iff {S : List Mv} {n : Int} : ctB S n = true ↔ goodMv S = true ∧ (0 ≤ n ∧ n ≤ 2) := by simp [ctB]
def ctS (S : List Mv) (n : Int) : Int := if ctB S n = true then minC n S else 0
def ctE (S : List Mv) (n : Int) : Int := if ctB S n = true then endC n S else 0

/-- Whether two moves cannot both be made. -/
def clB (a b : Mv) : Bool := if a.2.2.1 ≥ b.2.2.2 ∨ b.2.2.1 ≥ a.2.2.2 then false else decide (a.1 = b.1) || decide (a.2.1 = b.2.1) || (decide (a.1 < b.1) != decide (a.2.1 < b.2.1))
/-- The first later move that clashes with move i. -/
def rowC (S : List Mv) (i : Nat) : Option Nat := (List.range S.length).find? fun k => decide (i < k) && clB (S.getD i (0, 0, 0, 0)) (S.getD k (0, 0, 0, 0))
theorem rowC_some {S : List Mv} {i k : Nat} (hk : k < S.length) (h1 : i < k) (h2 : clB (S.getD i (0, 0, 0, 0)) (S.getD k (0, 0, 0, 0)) = true) (h3 : ∀ j, i < j → j < k → clB (S.getD i (0, 0, 0, 0)) (S.getD j (0, 0, 0, 0)) = false) : rowC S i = some k := by
  unfold rowC
  rw [List.find?_range_eq_some]
  refine ⟨by simp only [Bool.and_eq_true, decide_eq_true_iff]; exact ⟨h1, h2⟩, by simpa using hk, fun j hj => ?_⟩
  by_cases h : i < j
  · rw [h3 j h hj]; simp
  · simp; omega
theorem rowC_none {S : List Mv} {i : Nat} (h : ∀ j, i < j → j < S.length → clB (S.getD i (0, 0, 0, 0)) (S.getD j (0, 0, 0, 0)) = false) : rowC S i = none := by
  unfold rowC
  rw [List.find?_range_eq_none]
  intro j hj
  by_cases h0 : i < j
  · rw [h j h0 hj]; simp
  · simp; omega
def fcP (S : List Mv) : Int × Int := match (List.range S.length).find? fun i => (rowC S i).isSome with
  | none => (-1, -1)
  | some i => match rowC S i with
    | none => (-1, -1)
    | some k => ((i : Int), (k : Int))
theorem fcP_some {S : List Mv} {i k : Nat} (hi : i < S.length) (h : rowC S i = some k) (h2 : ∀ j, j < i → rowC S j = none) : fcP S = ((i : Int), (k : Int)) := by
  have e : ((List.range S.length).find? fun i => (rowC S i).isSome) = some i := by
    rw [List.find?_range_eq_some]
    exact ⟨by rw [h]; rfl, by simpa using hi, fun j hj => by rw [h2 j hj]; rfl⟩
  unfold fcP
  rw [e]
  simp only [h]
theorem fcP_none {S : List Mv} (h : ∀ j, j < S.length → rowC S j = none) : fcP S = (-1, -1) := by
  have e : ((List.range S.length).find? fun i => (rowC S i).isSome) = none := by
    rw [List.find?_range_eq_none]
    intro j hj
    rw [h j hj]
    simp
  unfold fcP
  rw [e]
def fcR (S : List Mv) : Int × Int := if goodMv S = true then fcP S else (0, 0)
end Go.Proofs.Ytpljcpeghjplnaa
