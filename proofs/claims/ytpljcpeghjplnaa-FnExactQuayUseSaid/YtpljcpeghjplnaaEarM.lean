/-
  Plain mathematics of the earliest number of a stack and of the numbers that are badly placed. No statement of the seat by itself.
-/
import Derived.Test.YtpljcpeghjplnaaPlace
namespace Go.Proofs.Ytpljcpeghjplnaa

theorem take_next8 {l : List Int} {k : Nat} {x : Int} (h : l[k]? = some x) : l.take (k + 1) = l.take k ++ [x] := by rw [List.take_add_one, h]; rfl
theorem getDI {l : List Int} {k : Nat} {x : Int} (h : l[k]? = some x) : l.getD k 0 = x := by simp [List.getD, h]
theorem snoc_of {l : List Int} {n : Nat} (h : l.length = n + 1) : ∃ m x, l = m ++ [x] := by
  have hg : l[n]? = some (l[n]'(by omega)) := List.getElem?_eq_getElem (by omega)
  exact ⟨l.take n, _, by rw [← take_next8 hg, ← h, List.take_length]⟩
/-- The smallest number of a list, or 100. -/
def earL : List Int → Int := List.foldl (fun a b => min a b) 100
theorem earL_nil : earL [] = 100 := rfl
theorem earL_snoc (l : List Int) (x : Int) : earL (l ++ [x]) = min (earL l) x := by simp [earL, List.foldl_append]
theorem earL_take {l : List Int} {k : Nat} {x : Int} (h : l[k]? = some x) : earL (l.take (k + 1)) = min (earL (l.take k)) x := by rw [take_next8 h, earL_snoc]
theorem earL_le (l : List Int) : earL l ≤ 100 := by
  obtain ⟨n, hn⟩ : ∃ n, l.length = n := ⟨_, rfl⟩
  induction n generalizing l with
  | zero => rw [List.length_eq_zero_iff.1 hn]; decide
  | succ n ih =>
    obtain ⟨m, x, rfl⟩ := snoc_of hn
    rw [earL_snoc]
    have := ih m (by simpa using hn)
    omega
theorem earL_lt (l : List Int) (x : Int) : earL l < x ↔ 100 < x ∨ ∃ a ∈ l, a < x := by
  obtain ⟨n, hn⟩ : ∃ n, l.length = n := ⟨_, rfl⟩
  induction n generalizing l with
  | zero => rw [List.length_eq_zero_iff.1 hn]; simp [earL_nil]
  | succ n ih =>
    obtain ⟨m, y, rfl⟩ := snoc_of hn
    rw [earL_snoc]
    have h := ih m (by simpa using hn)
    constructor
    · intro h0
      by_cases h1 : earL m < x
      · rcases h.1 h1 with h2 | ⟨a, h2, h3⟩
        · exact .inl h2
        · exact .inr ⟨a, by simp [h2], h3⟩
      · exact .inr ⟨y, by simp, by omega⟩
    · rintro (h0 | ⟨a, h0, h1⟩)
      · have := h.2 (.inl h0); omega
      · rcases List.mem_append.1 h0 with h2 | h2
        · have := h.2 (.inr ⟨a, h2, h1⟩); omega
        · rw [List.mem_singleton.1 h2] at h1; omega
/-- How many numbers of a list are smaller than a number. -/
def bel (l : List Int) (x : Int) : Nat := l.countP fun a => decide (a < x)
theorem bel_nil (x : Int) : bel [] x = 0 := rfl
theorem bel_yes {l : List Int} {k : Nat} {x y : Int} (h : l[k]? = some y) (hy : y < x) : bel (l.take (k + 1)) x = bel (l.take k) x + 1 := by
  rw [take_next8 h]; simp [bel, List.countP_append, hy]
theorem bel_no {l : List Int} {k : Nat} {x y : Int} (h : l[k]? = some y) (hy : ¬ y < x) : bel (l.take (k + 1)) x = bel (l.take k) x := by
  rw [take_next8 h]; simp [bel, List.countP_append, hy]
theorem bel_le (l : List Int) (x : Int) : bel l x ≤ l.length := List.countP_le_length
theorem bel_pos (l : List Int) (x : Int) (hx : x ≤ 100) : 0 < bel l x ↔ earL l < x := by
  rw [earL_lt]
  unfold bel
  rw [List.countP_pos_iff]
  constructor
  · rintro ⟨a, h1, h2⟩
    exact .inr ⟨a, h1, by simpa using h2⟩
  · rintro (h0 | ⟨a, h1, h2⟩)
    · omega
    · exact ⟨a, h1, by simpa using h2⟩
/-- The badly placed ones among the first k of a stack. -/
def badL (l : List Int) : Nat → List Int
  | 0 => []
  | k + 1 => badL l k ++ (if earL (l.take k) < l.getD k 0 then [l.getD k 0] else [])
theorem badL_yes {l : List Int} {k : Nat} {x : Int} (h : l[k]? = some x) (hx : earL (l.take k) < x) : badL l (k + 1) = badL l k ++ [x] := by
  rw [badL, getDI h, if_pos hx]
theorem badL_no {l : List Int} {k : Nat} {x : Int} (h : l[k]? = some x) (hx : ¬ earL (l.take k) < x) : badL l (k + 1) = badL l k := by
  rw [badL, getDI h, if_neg hx, List.append_nil]
theorem badL_len (l : List Int) : ∀ k, (badL l k).length ≤ k
  | 0 => by simp [badL]
  | k + 1 => by
    have := badL_len l k
    rw [badL, List.length_append]
    split <;> simp <;> omega
theorem badL_mem (l : List Int) : ∀ k x, k ≤ l.length → x ∈ badL l k → x ∈ l.take k
  | 0, x, _, h => by simp [badL] at h
  | k + 1, x, hk, h => by
    have hg : l[k]? = some l[k] := List.getElem?_eq_getElem (by omega)
    rw [take_next8 hg, List.mem_append]
    rw [badL, List.mem_append] at h
    rcases h with h | h
    · exact .inl (badL_mem l k x (by omega) h)
    · rw [getDI hg] at h
      split at h
      · exact .inr h
      · simp at h
/-- The badly placed ones of the first stacks. -/
def badYL (Y : List (List Int)) : Nat → List Int
  | 0 => []
  | i + 1 => badYL Y i ++ badL (Y.getD i []) (Y.getD i []).length
theorem badYL_succ {Y : List (List Int)} {i : Nat} {l : List Int} (h : Y[i]? = some l) : badYL Y (i + 1) = badYL Y i ++ badL l l.length := by
  rw [badYL, getD_of h]
end Go.Proofs.Ytpljcpeghjplnaa
