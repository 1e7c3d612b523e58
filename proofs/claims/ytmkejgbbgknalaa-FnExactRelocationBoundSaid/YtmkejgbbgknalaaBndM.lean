/-
  The bound of relocations: ranks, digits, and the numbers of blocking containers. No statement of the seat by itself.
-/
import Derived.Test.YtmkejgbbgknalaaOrdM
namespace Go.Proofs.Ytmkejgbbgknalaa
open Go.RowKit

/-- The place of a number in an order, or the order's length. -/
def rnk (O : List Int) (x : Int) : Nat := match atL O x with
  | none => O.length
  | some k => k
/-- The digit of a number in a layout. -/
def dig (O : List Int) (x : Int) : Nat := match atL O x with
  | none => 9
  | some k => k + 1
theorem atL_lt {l : List Int} {x : Int} {k : Nat} (h : atL l x = some k) : k < l.length := lt_of_get (atL_get h)
theorem dig_in {O : List Int} (h : O.length ≤ 8) (x : Int) : 1 ≤ dig O x ∧ dig O x ≤ 9 := by
  unfold dig
  cases ha : atL O x with
  | none => exact ⟨by decide, by decide⟩
  | some k =>
    have := atL_lt ha
    exact ⟨by show 1 ≤ k + 1; omega, by show k + 1 ≤ 9; omega⟩
theorem rnk_lt {O : List Int} (h : O.length ≤ 8) (x y : Int) : rnk O x < rnk O y ↔ dig O x < dig O y := by
  unfold rnk dig
  cases ha : atL O x with
  | none =>
    cases hb : atL O y with
    | none => simp
    | some k =>
      have := atL_lt hb
      simp
      omega
  | some j =>
    have := atL_lt ha
    cases hb : atL O y with
    | none =>
      simp
      omega
    | some k => simp
/-- Whether the number at tier k stands above an earlier one. -/
def badS (O l : List Int) (k : Nat) : Bool := (l.take k).any fun y => decide (rnk O y < rnk O (l.getD k 0))
/-- How many of the first k numbers of a stack stand above an earlier one. -/
def cntD (O l : List Int) : Nat → Nat
  | 0 => 0
  | k + 1 => cntD O l k + if badS O l k = true then 1 else 0
theorem cntD_le (O l : List Int) : ∀ k, cntD O l k ≤ k
  | 0 => Nat.le_refl _
  | k + 1 => by
    have := cntD_le O l k
    unfold cntD
    split <;> omega
theorem badS_zero (O l : List Int) : badS O l 0 = false := by simp [badS]
theorem cntD_one (O l : List Int) : cntD O l 1 = 0 := by simp [cntD, badS_zero]
def encL : List Nat → Nat
  | l => l.foldl (fun a d => a * 10 + d) 0
theorem encL_snoc (l : List Nat) (d : Nat) : encL (l ++ [d]) = encL l * 10 + d := by simp [encL]
theorem encL_nil : encL [] = 0 := rfl
/-- What blockingIn answers: the count and the smallest digit. -/
def blkC : List Nat → Nat × Nat
  | l => l.foldl (fun p d => (p.1 + (if p.2 < d then 1 else 0), min p.2 d)) (0, 9)
theorem blkC_snoc (l : List Nat) (d : Nat) : blkC (l ++ [d]) = ((blkC l).1 + (if (blkC l).2 < d then 1 else 0), min (blkC l).2 d) := by
  unfold blkC
  rw [List.foldl_append]
  rfl
theorem blkC_le : ∀ (n : Nat) (l : List Nat), l.length = n → (blkC l).1 ≤ n ∧ (blkC l).2 ≤ 9
  | 0, l, h => by
    rw [List.eq_nil_of_length_eq_zero h]
    exact ⟨Nat.le_refl _, Nat.le_refl _⟩
  | n + 1, l, h => by
    obtain ⟨m, d, rfl⟩ : ∃ m d, l = m ++ [d] := ⟨l.dropLast, l.getLast (by intro e; rw [e] at h; simp at h), (List.dropLast_concat_getLast _).symm⟩
    have hm : m.length = n := by simp at h; omega
    have := blkC_le n m hm
    rw [blkC_snoc]
    constructor
    · show (blkC m).1 + (if (blkC m).2 < d then 1 else 0) ≤ n + 1
      split <;> omega
    · show min (blkC m).2 d ≤ 9
      omega
def digs (O l : List Int) : List Nat := l.map (dig O)
theorem digs_len (O l : List Int) : (digs O l).length = l.length := by simp [digs]
theorem blk_min {O : List Int} (h : O.length ≤ 8) : ∀ (n : Nat) (l : List Int), l.length = n → ∀ d : Nat, d ≤ 9 → ((blkC (digs O l)).2 < d ↔ ∃ y ∈ l, dig O y < d)
  | 0, l, hl, d, hd => by
    rw [List.eq_nil_of_length_eq_zero hl]
    simp [digs, blkC]
    omega
  | n + 1, l, hl, d, hd => by
    obtain ⟨m, x, rfl⟩ : ∃ m x, l = m ++ [x] := ⟨l.dropLast, l.getLast (by intro e; rw [e] at hl; simp at hl), (List.dropLast_concat_getLast _).symm⟩
    have hm : m.length = n := by simp at hl; omega
    have ih := blk_min h n m hm d hd
    have e : digs O (m ++ [x]) = digs O m ++ [dig O x] := by simp [digs]
    rw [e, blkC_snoc]
    show min (blkC (digs O m)).2 (dig O x) < d ↔ _
    constructor
    · intro hlt
      by_cases h1 : (blkC (digs O m)).2 < d
      · obtain ⟨y, hy, hyd⟩ := ih.1 h1
        exact ⟨y, List.mem_append_left _ hy, hyd⟩
      · exact ⟨x, by simp, by omega⟩
    · rintro ⟨y, hy, hyd⟩
      rcases List.mem_append.1 hy with hy | hy
      · have := ih.2 ⟨y, hy, hyd⟩
        omega
      · simp at hy
        subst hy
        omega
theorem bad_iff {O : List Int} (h : O.length ≤ 8) {l : List Int} {k : Nat} {x : Int} (hx : l[k]? = some x) : badS O l k = true ↔ (blkC (digs O (l.take k))).2 < dig O x := by
  rw [blk_min h _ _ rfl _ (dig_in h x).2]
  unfold badS
  rw [List.any_eq_true]
  have e : l.getD k 0 = x := by simp [List.getD, hx]
  rw [e]
  constructor
  · rintro ⟨y, hy, hd⟩
    exact ⟨y, hy, (rnk_lt h y x).1 (of_decide_eq_true hd)⟩
  · rintro ⟨y, hy, hd⟩
    exact ⟨y, hy, decide_eq_true ((rnk_lt h y x).2 hd)⟩
theorem blk_cnt {O : List Int} (h : O.length ≤ 8) (l : List Int) : ∀ k, k ≤ l.length → (blkC (digs O (l.take k))).1 = cntD O l k
  | 0, _ => by simp [digs, blkC, cntD]
  | k + 1, hk => by
    obtain ⟨x, hx⟩ := get_at (Y := l) rfl (show k < l.length by omega)
    have e : digs O (l.take (k + 1)) = digs O (l.take k) ++ [dig O x] := by rw [take_next hx]; simp [digs]
    rw [e, blkC_snoc]
    show (blkC (digs O (l.take k))).1 + _ = cntD O l k + _
    rw [blk_cnt h l k (by omega)]
    have hb := bad_iff h hx
    by_cases hbt : badS O l k = true
    · rw [if_pos hbt, if_pos (hb.1 hbt)]
    · rw [if_neg hbt, if_neg (fun e => hbt (hb.2 e))]
/-- The bound: the numbers in the first i stacks that stand above earlier ones. -/
def bndS (Y : List (List Int)) (O : List Int) : Nat → Nat
  | 0 => 0
  | i + 1 => bndS Y O i + cntD O (Y.getD i []) (Y.getD i []).length
def bndR (Y : List (List Int)) (O : List Int) : Nat := bndS Y O Y.length
theorem bndS_le {Y : List (List Int)} {O : List Int} (hg : goodY Y = true) : ∀ i, bndS Y O i ≤ 4 * i
  | 0 => Nat.le_refl _
  | i + 1 => by
    have := bndS_le (O := O) hg i
    have h2 := cntD_le O (Y.getD i []) (Y.getD i []).length
    have h4 : (Y.getD i []).length ≤ 4 := by
      rcases Nat.lt_or_ge i Y.length with hs | hs
      · rw [getD_of (List.getElem?_eq_getElem hs)]; exact (goodY_iff.1 hg).2.2.1 _ (List.getElem_mem hs)
      · rw [List.getD, List.getElem?_eq_none hs]; simp
    unfold bndS
    omega
theorem bndS_more (Y : List (List Int)) (O : List Int) : ∀ j, bndS Y O (Y.length + j) = bndS Y O Y.length
  | 0 => rfl
  | j + 1 => by
    show bndS Y O (Y.length + j) + cntD O (Y.getD (Y.length + j) []) (Y.getD (Y.length + j) []).length = _
    rw [bndS_more Y O j, List.getD, List.getElem?_eq_none (by omega)]
    simp [cntD]
def encY (O : List Int) (Y : List (List Int)) (i : Nat) : Nat := encL (digs O (Y.getD i []))
theorem encL_le : ∀ (n : Nat) (l : List Nat), l.length = n → (∀ d ∈ l, d ≤ 9) → encL l + 1 ≤ 10 ^ n
  | 0, l, h, _ => by rw [List.eq_nil_of_length_eq_zero h]; decide
  | n + 1, l, h, hd => by
    obtain ⟨m, d, rfl⟩ : ∃ m d, l = m ++ [d] := ⟨l.dropLast, l.getLast (by intro e; rw [e] at h; simp at h), (List.dropLast_concat_getLast _).symm⟩
    have hm : m.length = n := by simp at h; omega
    have := encL_le n m hm fun d hd' => hd d (List.mem_append_left _ hd')
    have h9 := hd d (by simp)
    rw [encL_snoc, Nat.pow_succ]
    omega
end Go.Proofs.Ytmkejgbbgknalaa
