/-
  Plain mathematics: a yard with an arrival more; the stack that is chosen. No statement of the seat by itself.
-/
import Derived.Test.YtjplbcfpbggnnaaPutM
import Derived.Test.YtjplbcfpbggnnaaMoveM
import Derived.Test.YtjplbcfpbggnnaaEarM
import Derived.Test.YtjplbcfpbggnnaaArrM
namespace Go.Proofs.Ytjplbcfpbggnnaa

theorem flat_of_place {Y : List (List Int)} {x : Int} (h : placeY Y x = none) : ¬ x ∈ Y.flatten := fun hm => by
  obtain ⟨l, hl, hx⟩ := List.mem_flatten.1 hm
  obtain ⟨j, hj⟩ := List.getElem?_of_mem hl
  exact atL_not (place_not h j l hj) hx
theorem place_of_flat {Y : List (List Int)} {x : Int} (h : ¬ x ∈ Y.flatten) : placeY Y x = none :=
  place_none fun j r hr => atL_none fun k y hy e => h (by
    subst e
    exact List.mem_flatten.2 ⟨r, List.mem_of_getElem? hr, List.mem_of_getElem? hy⟩)
theorem putP_good {Y : List (List Int)} {s : Nat} {l : List Int} {x : Int} (hg : goodY Y = true) (hl : Y[s]? = some l) (h4 : l.length < 4) (hx : 1 ≤ x ∧ x ≤ 99) (hn : ¬ x ∈ Y.flatten) : goodY (putY Y s x) = true := by
  obtain ⟨h1, h2, h3, h5⟩ := goodY_iff.1 hg
  refine goodY_iff.2 ⟨by rw [putY_len]; exact h1, by rw [putY_len]; exact h2, ?_, ?_⟩
  · rw [putY_of hl]
    exact rows_set h3 (by rw [List.length_append, List.length_singleton]; omega)
  · rw [seen_count] at h5 ⊢
    intro a
    have hc := count_set (l ++ [x]) hl a
    rw [← putY_of (x := x) hl, List.count_append] at hc
    have ha := h5 a
    by_cases e : x = a
    · subst e
      have : Y.flatten.count x = 0 := List.count_eq_zero.2 hn
      simp at hc
      omega
    · have : [x].count a = 0 := List.count_eq_zero.2 (by simpa using fun h => e h.symm)
      omega
theorem putP_full {Y : List (List Int)} {s : Nat} {l : List Int} {x : Int} (hl : Y[s]? = some l) (h4 : ¬ l.length < 4) : goodY (putY Y s x) = false := by
  refine good_row (i := s) (l := l ++ [x]) ?_ (by rw [List.length_append, List.length_singleton]; omega)
  rw [putY_of hl, List.getElem?_set_self (lt_of_get hl)]
/-- What stands in a yard with a number more. -/
theorem putP_mem {Y : List (List Int)} {s : Nat} {l : List Int} {x y : Int} (hl : Y[s]? = some l) (h : ¬ y ∈ Y.flatten) (hy : y ≠ x) : ¬ y ∈ (putY Y s x).flatten := by
  have hc := count_set (l ++ [x]) hl y
  rw [← putY_of (x := x) hl, List.count_append] at hc
  have h0 : Y.flatten.count y = 0 := List.count_eq_zero.2 h
  have : [x].count y = 0 := List.count_eq_zero.2 (by simpa using hy)
  exact List.count_eq_zero.1 (by omega)
/-- A yard with a number more is valid only if the yard is. -/
theorem putP_back {Y : List (List Int)} {s : Nat} {l : List Int} {x : Int} (hl : Y[s]? = some l) (hg : goodY (putY Y s x) = true) : goodY Y = true := by
  obtain ⟨h1, h2, h3, h5⟩ := goodY_iff.1 hg
  rw [putY_len] at h1 h2
  refine goodY_iff.2 ⟨h1, h2, fun r hr => ?_, ?_⟩
  · obtain ⟨j, hj⟩ := List.getElem?_of_mem hr
    by_cases e : j = s
    · subst e
      rw [hl] at hj; cases hj
      have := h3 (l ++ [x]) (by rw [putY_of hl]; exact List.mem_of_getElem? (List.getElem?_set_self (lt_of_get hl)))
      rw [List.length_append] at this; omega
    · refine h3 r ?_
      rw [putY_of hl]
      exact List.mem_of_getElem? (i := j) (by rw [List.getElem?_set_ne (by omega)]; exact hj)
  · rw [seen_count] at h5 ⊢
    intro a
    have hc := count_set (l ++ [x]) hl a
    rw [← putY_of (x := x) hl, List.count_append] at hc
    have ha := h5 a
    omega
theorem arr_tail {Y : List (List Int)} {O : List Int} {x : Int} {s : Nat} {l : List Int} (h : askP Y (x :: O) = true) (hl : Y[s]? = some l) (h4 : l.length < 4) : askP (putY Y s x) O = true := by
  obtain ⟨hg, h1, h2, h3⟩ := askP_iff.1 h
  have hx := h3 x (by simp)
  have hxf := flat_of_place hx.1
  refine askP_iff.2 ⟨putP_good hg hl h4 hx.2 hxf, by simp at h1; omega, (List.nodup_cons.1 h2).2, fun y hy => ?_⟩
  have hy3 := h3 y (by simp [hy])
  exact ⟨place_of_flat (putP_mem hl (flat_of_place hy3.1) (fun e => (List.nodup_cons.1 h2).1 (by rw [← e]; exact hy))), hy3.2⟩
theorem arr_one {Y : List (List Int)} {O : List Int} {x : Int} (h : askP Y (x :: O) = true) : askP Y [x] = true := by
  obtain ⟨hg, h1, h2, h3⟩ := askP_iff.1 h
  exact askP_iff.2 ⟨hg, by simp, by simp, fun y hy => h3 y (by simp at hy; simp [hy])⟩

/-- Whether a number is put rather on a stack with the earliest number a than on one with b. -/
def suits (n a b : Int) : Bool := if n < a ∧ n < b then decide (a < b) else decide (b < a)
/-- The earliest number of the stack i. -/
def earY (Y : List (List Int)) (i : Nat) : Int := earL (Y.getD i [])
theorem earY_of {Y : List (List Int)} {i : Nat} {l : List Int} (h : Y[i]? = some l) : earY Y i = earL l := by rw [earY, getD_of h]
def lessO (e : Int) (Y : List (List Int)) : Option Nat → Bool
  | none => true
  | some g => decide (e < earY Y g)
def moreO (e : Int) (Y : List (List Int)) : Option Nat → Bool
  | none => true
  | some b => decide (earY Y b < e)
def suitO (n e : Int) (Y : List (List Int)) : Option Nat → Bool
  | none => true
  | some c => suits n e (earY Y c)
/-- The stacks that were chosen among the first ones: for one that waits longer, and for any. -/
def choS (n : Int) (Y : List (List Int)) : Nat → Option Nat × Option Nat
  | 0 => (none, none)
  | i + 1 => if (Y.getD i []).length = 4 then choS n Y i else
      (if (decide (n < earY Y i) && lessO (earY Y i) Y (choS n Y i).1) = true then some i else (choS n Y i).1, if moreO (earY Y i) Y (choS n Y i).2 = true then some i else (choS n Y i).2)
def choI (n : Int) (Y : List (List Int)) : Nat → Option Nat
  | 0 => none
  | i + 1 => if (Y.getD i []).length = 4 then choI n Y i else if suitO n (earY Y i) Y (choI n Y i) = true then some i else choI n Y i
def choE : Option Nat × Option Nat → Option Nat
  | (some g, _) => some g
  | (none, b) => b
theorem cho_inv (n : Int) (Y : List (List Int)) : ∀ i, choI n Y i = choE (choS n Y i) ∧ (∀ g, (choS n Y i).1 = some g → n < earY Y g) ∧ ((choS n Y i).1 = none → ∀ b, (choS n Y i).2 = some b → earY Y b ≤ n) ∧ ((choS n Y i).2 = none → (choS n Y i).1 = none)
  | 0 => ⟨rfl, fun g h => by simp [choS] at h, fun _ b h => by simp [choS] at h, fun _ => rfl⟩
  | i + 1 => by
    obtain ⟨h1, h2, h3, h4⟩ := cho_inv n Y i
    rw [choI, choS]
    by_cases h : (Y.getD i []).length = 4
    · rw [if_pos h, if_pos h]
      exact ⟨h1, h2, h3, h4⟩
    · rw [if_neg h, if_neg h, h1]
      obtain ⟨e, he⟩ : ∃ e, earY Y i = e := ⟨_, rfl⟩
      rw [he]
      clear h1 h
      generalize choS n Y i = s at *
      obtain ⟨g, b⟩ := s
      simp only at h2 h3 h4 ⊢
      cases g with
      | some g =>
        have hg := h2 g rfl
        have hb : b ≠ none := fun hb => by have := h4 hb; cases this
        obtain ⟨b, rfl⟩ : ∃ c, b = some c := by
          cases b with
          | none => exact absurd rfl hb
          | some c => exact ⟨c, rfl⟩
        simp only [choE, suitO, lessO, moreO, suits]
        by_cases hn : n < e
        · by_cases hl : e < earY Y g
          · by_cases hm : earY Y b < e <;> simp [hn, hl, hg, he, hm]
          · by_cases hm : earY Y b < e <;> simp [hn, hl, hg, hm]
        · have hl : ¬ earY Y g < e := by omega
          by_cases hm : earY Y b < e <;> simp [hn, hl, hg, hm]
      | none =>
        have h3' := h3 rfl
        cases b with
        | none =>
          by_cases hn : n < e
          · simp [choE, suitO, lessO, moreO, hn, he]
          · simp [choE, suitO, lessO, moreO, hn, he]; omega
        | some b =>
          have hb := h3' b rfl
          have hnb : ¬ n < earY Y b := by omega
          by_cases hn : n < e
          · have hl : earY Y b < e := by omega
            simp [choE, suitO, lessO, moreO, suits, hn, he, hnb, hl]
          · by_cases hm : earY Y b < e
            · simp [choE, suitO, lessO, moreO, suits, hn, he, hnb, hm]; omega
            · simp [choE, suitO, lessO, moreO, suits, hn, hnb, hm]; omega
/-- The stack on which a number is put. -/
def choY (n : Int) (Y : List (List Int)) : Option Nat := choI n Y Y.length
theorem choI_lt (n : Int) (Y : List (List Int)) : ∀ i k, choI n Y i = some k → k < i ∧ (Y.getD k []).length ≠ 4
  | 0, k, h => by simp [choI] at h
  | i + 1, k, h => by
    rw [choI] at h
    split at h
    · have := choI_lt n Y i k h
      exact ⟨by omega, this.2⟩
    · rename_i hne
      split at h
      · cases h; exact ⟨by omega, hne⟩
      · have := choI_lt n Y i k h
        exact ⟨by omega, this.2⟩
/-- A chosen stack, as the programs tell it. -/
def pkO : Option Nat → Int
  | none => -1
  | some k => (k : Int)
def choB (Y : List (List Int)) (n : Int) : Bool := askP Y [n] && (choY n Y).isSome
def choR (Y : List (List Int)) (n : Int) : Int := if choB Y n = true then pkO (choY n Y) else 0
end Go.Proofs.Ytjplbcfpbggnnaa
