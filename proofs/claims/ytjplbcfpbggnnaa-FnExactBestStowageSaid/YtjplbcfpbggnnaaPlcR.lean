/-
  Plain mathematics: all arrivals put one after the other. No statement of the seat by itself.
-/
import Derived.Test.YtjplbcfpbggnnaaPlcM
namespace Go.Proofs.Ytjplbcfpbggnnaa

/-- The yard and the stacks after the first k arrivals, put on the stacks that are chosen. -/
def allG (Y : List (List Int)) (O : List Int) : Nat → Option (List (List Int) × List Int)
  | 0 => some (Y, [])
  | k + 1 => match allG Y O k with
    | none => none
    | some (Z, P) => match choY (O.getD k 0) Z with
      | none => none
      | some i => some (putY Z i (O.getD k 0), P ++ [(i : Int)])
theorem allG_none {Y : List (List Int)} {O : List Int} {k : Nat} (h : allG Y O k = none) : ∀ j, k ≤ j → allG Y O j = none
  | 0, hj => by obtain rfl : k = 0 := by omega
                exact h
  | j + 1, hj => by
    by_cases e : k = j + 1
    · subst e; exact h
    · rw [allG, allG_none h j (by omega)]
theorem allG_stop {Y Z : List (List Int)} {O P : List Int} {k : Nat} {x : Int} (h : allG Y O k = some (Z, P)) (hx : O[k]? = some x) (hc : choY x Z = none) : allG Y O (k + 1) = none := by
  rw [allG, h]
  simp only [getDI hx, hc]
theorem allG_next {Y Z : List (List Int)} {O P : List Int} {k i : Nat} {x : Int} (h : allG Y O k = some (Z, P)) (hx : O[k]? = some x) (hc : choY x Z = some i) : allG Y O (k + 1) = some (putY Z i x, P ++ [(i : Int)]) := by
  rw [allG, h]
  simp only [getDI hx, hc]
/-- While the arrivals are put on: what is left are arrivals for the yard. -/
theorem cho_row {Z : List (List Int)} {x : Int} {i : Nat} (hc : choY x Z = some i) : ∃ l, Z[i]? = some l ∧ l.length ≠ 4 := by
  have h := choI_lt x Z Z.length i hc
  have hg : Z[i]? = some Z[i] := List.getElem?_eq_getElem h.1
  refine ⟨_, hg, ?_⟩
  have := h.2
  rwa [getD_of hg] at this
theorem row_four {Z : List (List Int)} {i : Nat} {l : List Int} (h : goodY Z = true) (hl : Z[i]? = some l) (h4 : l.length ≠ 4) : l.length < 4 := by
  have := (goodY_iff.1 h).2.2.1 l (List.mem_of_getElem? hl)
  omega
theorem arr_drop {Z : List (List Int)} {O : List Int} {k i : Nat} {x : Int} {l : List Int} (h : askP Z (O.drop k) = true) (hx : O[k]? = some x) (hl : Z[i]? = some l) (h4 : l.length ≠ 4) : askP (putY Z i x) (O.drop (k + 1)) = true := by
  have hk := lt_of_get hx
  have e : O.drop k = x :: O.drop (k + 1) := by
    rw [List.drop_eq_getElem_cons hk]
    rw [List.getElem?_eq_getElem hk] at hx
    cases hx
    rfl
  rw [e] at h
  exact arr_tail h hl (row_four (askP_iff.1 h).1 hl h4)
theorem arr_this {Z : List (List Int)} {O : List Int} {k : Nat} {x : Int} (h : askP Z (O.drop k) = true) (hx : O[k]? = some x) : askP Z [x] = true := by
  have hk := lt_of_get hx
  have e : O.drop k = x :: O.drop (k + 1) := by
    rw [List.drop_eq_getElem_cons hk]
    rw [List.getElem?_eq_getElem hk] at hx
    cases hx
    rfl
  rw [e] at h
  exact arr_one h
def allP (Y : List (List Int)) (O : List Int) : Option (List (List Int) × List Int) := if askP Y O = true then allG Y O O.length else none
def allY (Y : List (List Int)) (O : List Int) : List (List Int) := match allP Y O with | some (Z, _) => Z | none => []
def allD (Y : List (List Int)) (O : List Int) : List Int := match allP Y O with | some (_, P) => P | none => []
def allB (Y : List (List Int)) (O : List Int) : Bool := (allP Y O).isSome
theorem allG_len {Y : List (List Int)} {O : List Int} : ∀ k Z P, allG Y O k = some (Z, P) → P.length = k ∧ Z.length = Y.length
  | 0, Z, P, h => by cases h; exact ⟨rfl, rfl⟩
  | k + 1, Z, P, h => by
    rw [allG] at h
    split at h
    · cases h
    · rename_i Z' P' h'
      have := allG_len k Z' P' h'
      split at h
      · cases h
      · cases h
        rw [List.length_append, List.length_singleton, putY_len]
        omega
theorem allG_good {Y : List (List Int)} {O : List Int} (h0 : askP Y O = true) : ∀ k Z P, k ≤ O.length → allG Y O k = some (Z, P) → askP Z (O.drop k) = true
  | 0, Z, P, _, h => by cases h; simpa using h0
  | k + 1, Z, P, hk, h => by
    rw [allG] at h
    split at h
    · cases h
    · rename_i Z' P' h'
      have hg := allG_good h0 k Z' P' (by omega) h'
      split at h
      · cases h
      · rename_i i hc
        cases h
        have hx : O[k]? = some (O.getD k 0) := by rw [getDI (List.getElem?_eq_getElem (by omega : k < O.length))]; exact List.getElem?_eq_getElem _
        obtain ⟨l, hl, h4⟩ := cho_row hc
        exact arr_drop hg hx hl h4
theorem allP_some {Y : List (List Int)} {O : List Int} {ZP : List (List Int) × List Int} (h : allP Y O = some ZP) : askP Y O = true ∧ allG Y O O.length = some ZP := by
  unfold allP at h
  split at h
  · rename_i h0; exact ⟨h0, h⟩
  · cases h
theorem all_small (Y : List (List Int)) (O : List Int) : (allY Y O).length ≤ 1048576 ∧ tot (allY Y O) ≤ 1048576 ∧ (allD Y O).length ≤ 1048576 := by
  unfold allY allD
  cases h : allP Y O with
  | none => simp [tot]
  | some ZP =>
    obtain ⟨Z, P⟩ := ZP
    obtain ⟨h0, h⟩ := allP_some h
    have hl := allG_len _ _ _ h
    have hg := good_small (askP_iff.1 (allG_good h0 _ _ _ (Nat.le_refl _) h)).1
    have ho := (askP_iff.1 h0).2.1
    simp only
    omega

/-- The yard after the first k arrivals with a placement. -/
def appG (Y : List (List Int)) (O P : List Int) : Nat → Option (List (List Int))
  | 0 => some Y
  | k + 1 => match appG Y O P k with
    | none => none
    | some Z => if 0 ≤ P.getD k 0 ∧ P.getD k 0 < (Y.length : Int) then some (putY Z (P.getD k 0).toNat (O.getD k 0)) else none
theorem appG_none {Y : List (List Int)} {O P : List Int} {k : Nat} (h : appG Y O P k = none) : ∀ j, k ≤ j → appG Y O P j = none
  | 0, hj => by obtain rfl : k = 0 := by omega
                exact h
  | j + 1, hj => by
    by_cases e : k = j + 1
    · subst e; exact h
    · rw [appG, appG_none h j (by omega)]
theorem appG_stop {Y Z : List (List Int)} {O P : List Int} {k : Nat} {s : Int} (h : appG Y O P k = some Z) (hs : P[k]? = some s) (hr : ¬ (0 ≤ s ∧ s < (Y.length : Int))) : appG Y O P (k + 1) = none := by
  rw [appG, h]
  simp only [getDI hs, if_neg hr]
theorem appG_next {Y Z : List (List Int)} {O P : List Int} {k i : Nat} {x : Int} (h : appG Y O P k = some Z) (hx : O[k]? = some x) (hs : P[k]? = some (i : Int)) (hr : i < Y.length) : appG Y O P (k + 1) = some (putY Z i x) := by
  rw [appG, h]
  simp only [getDI hs, getDI hx]
  rw [if_pos (by omega), Int.toNat_natCast]
theorem appG_len {Y : List (List Int)} {O P : List Int} : ∀ k Z, appG Y O P k = some Z → Z.length = Y.length
  | 0, Z, h => by cases h; rfl
  | k + 1, Z, h => by
    rw [appG] at h
    split at h
    · cases h
    · rename_i Z' h'
      split at h
      · cases h; rw [putY_len]; exact appG_len k Z' h'
      · cases h
/-- A yard that is not valid is not valid later. -/
theorem appG_bad {Y Z : List (List Int)} {O P : List Int} {k : Nat} (h : appG Y O P k = some Z) (hb : goodY Z = false) : ∀ j Z', k ≤ j → appG Y O P j = some Z' → goodY Z' = false
  | 0, Z', hj, h' => by
    obtain rfl : k = 0 := by omega
    rw [h] at h'; cases h'; exact hb
  | j + 1, Z', hj, h' => by
    by_cases e : k = j + 1
    · subst e; rw [h] at h'; cases h'; exact hb
    · rw [appG] at h'
      split at h'
      · cases h'
      · rename_i Z'' h''
        have hb2 := appG_bad h hb j Z'' (by omega) h''
        have hl2 := appG_len _ _ h''
        split at h'
        · rename_i hr
          cases h'
          cases hg : goodY (putY Z'' (P.getD j 0).toNat (O.getD j 0)) with
          | false => rfl
          | true =>
            have hg2 := putP_back (List.getElem?_eq_getElem (by omega : (P.getD j 0).toNat < Z''.length)) hg
            rw [hb2] at hg2
            cases hg2
        · cases h'
def appP (Y : List (List Int)) (O P : List Int) : Option (List (List Int)) := if askP Y O = true ∧ P.length = O.length then (match appG Y O P O.length with | some Z => if goodY Z = true then some Z else none | none => none) else none
def appY (Y : List (List Int)) (O P : List Int) : List (List Int) := match appP Y O P with | some Z => Z | none => []
def appB (Y : List (List Int)) (O P : List Int) : Bool := (appP Y O P).isSome
theorem app_small (Y : List (List Int)) (O P : List Int) : (appY Y O P).length ≤ 1048576 ∧ tot (appY Y O P) ≤ 1048576 := by
  have : ∀ Z, appP Y O P = some Z → goodY Z = true := fun Z h => by
    unfold appP at h
    split at h
    · split at h
      · split at h
        · rename_i hg; cases h; exact hg
        · cases h
      · cases h
    · cases h
  unfold appY
  cases h : appP Y O P with
  | none => simp [tot]
  | some Z =>
    have := good_small (this Z h)
    simp only
    omega
end Go.Proofs.Ytjplbcfpbggnnaa
