/-
  Plain mathematics: the number that stands above the most smaller ones. No statement of the seat by itself.
-/
import Derived.Test.YthokmklnldoinaaBadS
import Derived.Test.YthokmklnldoinaaMoveM
namespace Go.Proofs.Ythokmklnldoinaa

/-- How many smaller numbers stand below a number of a yard. -/
def cnt8 (Y : List (List Int)) (x : Int) : Nat := match placeY Y x with
  | some (i, k) => bel ((Y.getD i []).take k) x
  | none => 0
theorem cnt8_at {Y : List (List Int)} {i k : Nat} {l : List Int} {x : Int} (hg : goodY Y = true) (hl : Y[i]? = some l) (hx : l[k]? = some x) : cnt8 Y x = bel (l.take k) x := by
  unfold cnt8
  rw [place_only hg hl hx]
  simp only [getD_of hl]
/-- The worst of the numbers of E, by their counts. -/
def IsW (E : List Int) (c : Int → Nat) (s : Int × Nat) : Prop :=
  (s = (0, 0) ∧ ∀ x ∈ E, c x = 0) ∨ (0 < s.2 ∧ s.1 ∈ E ∧ c s.1 = s.2 ∧ ∀ x ∈ E, c x < s.2 ∨ (c x = s.2 ∧ s.1 ≤ x))
theorem IsW.nil (c : Int → Nat) : IsW [] c (0, 0) := .inl ⟨rfl, fun x h => by simp at h⟩
theorem IsW.uniq {E E' : List Int} {c : Int → Nat} {s s' : Int × Nat} (h : IsW E c s) (h' : IsW E' c s') (he : ∀ x, 0 < c x → (x ∈ E ↔ x ∈ E')) : s = s' := by
  rcases h with ⟨h1, h2⟩ | ⟨h1, h2, h3, h4⟩
  · rcases h' with ⟨h1', h2'⟩ | ⟨h1', h2', h3', h4'⟩
    · rw [h1, h1']
    · have hc : 0 < c s'.1 := by omega
      have := h2 _ ((he _ hc).2 h2')
      omega
  · rcases h' with ⟨h1', h2'⟩ | ⟨h1', h2', h3', h4'⟩
    · have hc : 0 < c s.1 := by omega
      have := h2' _ ((he _ hc).1 h2)
      omega
    · have a1 := h4 _ ((he _ (by omega)).2 h2')
      have a2 := h4' _ ((he _ (by omega)).1 h2)
      have e1 : s.1 = s'.1 := by omega
      have e2 : s.2 = s'.2 := by omega
      exact Prod.ext e1 e2
/-- The reference's step. -/
def stepW (s : Int × Nat) (x : Int) (n : Nat) : Int × Nat := if s.2 < n ∨ (n = s.2 ∧ 0 < n ∧ x < s.1) then (x, n) else s
theorem IsW.step {E : List Int} {c : Int → Nat} {s : Int × Nat} {x : Int} {n : Nat} (h : IsW E c s) (hn : c x = n) : IsW (E ++ [x]) c (stepW s x n) := by
  have hmem : ∀ y, y ∈ E ++ [x] ↔ y ∈ E ∨ y = x := fun y => by simp
  unfold stepW
  rcases h with ⟨h1, h2⟩ | ⟨h1, h2, h3, h4⟩
  · subst h1
    simp only
    split
    · rename_i hc
      refine .inr ⟨by simp only; omega, by simp, hn, fun y hy => ?_⟩
      rcases (hmem y).1 hy with hy | rfl
      · have := h2 y hy
        simp only
        omega
      · simp only; omega
    · rename_i hc
      refine .inl ⟨rfl, fun y hy => ?_⟩
      rcases (hmem y).1 hy with hy | rfl
      · exact h2 y hy
      · omega
  · split
    · rename_i hc
      refine .inr ⟨by simp only; omega, by simp, hn, fun y hy => ?_⟩
      rcases (hmem y).1 hy with hy | rfl
      · have := h4 y hy
        simp only
        omega
      · simp only; omega
    · rename_i hc
      refine .inr ⟨h1, (hmem _).2 (.inl h2), h3, fun y hy => ?_⟩
      rcases (hmem y).1 hy with hy | rfl
      · exact h4 y hy
      · omega
/-- The program's step, over numbers in ascending order. -/
def stepV (c : Int → Nat) (s : Int × Nat) (x : Int) : Int × Nat := if s.2 < c x then (x, c x) else s
theorem IsW.next {E : List Int} {c : Int → Nat} {s : Int × Nat} {x : Int} (h : IsW E c s) (ha : ∀ y ∈ E, y ≤ x) : IsW (E ++ [x]) c (stepV c s x) := by
  have hs := h.step (x := x) rfl
  have e : stepW s x (c x) = stepV c s x := by
    unfold stepW stepV
    rcases h with ⟨rfl, h2⟩ | ⟨h1, h2, h3, h4⟩
    · by_cases h0 : 0 < c x
      · simp [h0]
      · simp [h0]
    · have := ha _ h2
      by_cases h0 : s.2 < c x
      · simp [h0]
      · rw [if_neg h0, if_neg (by omega)]
  rw [e] at hs
  exact hs
/-- What the reference has found before the stack i, and among k numbers of it. -/
def wstK (l : List Int) (s : Int × Nat) : Nat → Int × Nat
  | 0 => s
  | k + 1 => stepW (wstK l s k) (l.getD k 0) (bel (l.take k) (l.getD k 0))
theorem wstK_step {l : List Int} {s : Int × Nat} {k : Nat} {x : Int} (hx : l[k]? = some x) : wstK l s (k + 1) = stepW (wstK l s k) x (bel (l.take k) x) := by
  rw [wstK, getDI hx]
def wstY (Y : List (List Int)) : Nat → Int × Nat
  | 0 => (0, 0)
  | i + 1 => wstK (Y.getD i []) (wstY Y i) (Y.getD i []).length
theorem wstY_succ {Y : List (List Int)} {i : Nat} {l : List Int} (hl : Y[i]? = some l) : wstY Y (i + 1) = wstK l (wstY Y i) l.length := by
  rw [wstY, getD_of hl]
theorem wstK_is {Y : List (List Int)} {i : Nat} {l E : List Int} {s : Int × Nat} (hg : goodY Y = true) (hl : Y[i]? = some l) (h : IsW E (cnt8 Y) s) : ∀ k, k ≤ l.length → IsW (E ++ l.take k) (cnt8 Y) (wstK l s k)
  | 0, _ => by simpa [wstK] using h
  | k + 1, hk => by
    have hx : l[k]? = some l[k] := List.getElem?_eq_getElem (by omega)
    rw [wstK_step hx, take_next8 hx, ← List.append_assoc]
    exact (wstK_is hg hl h k (by omega)).step (cnt8_at hg hl hx)
theorem wstY_is {Y : List (List Int)} (hg : goodY Y = true) : ∀ i, i ≤ Y.length → IsW (Y.take i).flatten (cnt8 Y) (wstY Y i)
  | 0, _ => by simpa [wstY] using IsW.nil _
  | i + 1, hi => by
    have hl : Y[i]? = some Y[i] := List.getElem?_eq_getElem (by omega)
    rw [wstY_succ hl, flat_succ hl]
    have := wstK_is hg hl (wstY_is hg i (by omega)) Y[i].length (Nat.le_refl _)
    rwa [List.take_length] at this
/-- What WorstBox answers. -/
def wstR (Y : List (List Int)) : Int × Nat := if goodY Y = true then wstY Y Y.length else (0, 0)
/-- What the program has found among the first k of the badly placed ones. -/
def wstV (Y : List (List Int)) (k : Nat) : Int × Nat := ((badR Y).take k).foldl (stepV (cnt8 Y)) (0, 0)
theorem wstV_step {Y : List (List Int)} {k : Nat} {x : Int} (h : (badR Y)[k]? = some x) : wstV Y (k + 1) = stepV (cnt8 Y) (wstV Y k) x := by
  unfold wstV
  rw [take_next8 h, List.foldl_append]
  rfl
theorem badL_has {l : List Int} {x : Int} : ∀ k, x ∈ badL l k ↔ ∃ j, j < k ∧ l.getD j 0 = x ∧ earL (l.take j) < x
  | 0 => by simp [badL]
  | k + 1 => by
    rw [badL, List.mem_append, badL_has k]
    constructor
    · rintro (⟨j, h1, h2, h3⟩ | h)
      · exact ⟨j, by omega, h2, h3⟩
      · split at h
        · rename_i he
          rw [List.mem_singleton] at h
          exact ⟨k, by omega, h.symm, by rw [h]; exact he⟩
        · simp at h
    · rintro ⟨j, h1, h2, h3⟩
      by_cases e : j = k
      · subst e
        right
        rw [h2, if_pos h3]
        simp
      · exact .inl ⟨j, by omega, h2, h3⟩
theorem badYL_has {Y : List (List Int)} {x : Int} : ∀ i, x ∈ badYL Y i ↔ ∃ j, j < i ∧ x ∈ badL (Y.getD j []) (Y.getD j []).length
  | 0 => by simp [badYL]
  | i + 1 => by
    rw [badYL, List.mem_append, badYL_has i]
    constructor
    · rintro (⟨j, h1, h2⟩ | h)
      · exact ⟨j, by omega, h2⟩
      · exact ⟨i, by omega, h⟩
    · rintro ⟨j, h1, h2⟩
      by_cases e : j = i
      · subst e; exact .inr h2
      · exact .inl ⟨j, by omega, h2⟩
theorem badR_has {Y : List (List Int)} (hg : goodY Y = true) (x : Int) : x ∈ badR Y ↔ x ∈ Y.flatten ∧ 0 < cnt8 Y x := by
  unfold badR
  rw [if_pos hg, srtI_mem, badYL_has]
  constructor
  · rintro ⟨i, hi, hm⟩
    have hl : Y[i]? = some Y[i] := List.getElem?_eq_getElem hi
    rw [getD_of hl, badL_has] at hm
    obtain ⟨k, hk, h2, h3⟩ := hm
    have hx : Y[i][k]? = some x := by rw [← h2, getDI (List.getElem?_eq_getElem hk)]; exact List.getElem?_eq_getElem hk
    refine ⟨List.mem_flatten.2 ⟨_, List.mem_of_getElem? hl, List.mem_of_getElem? hx⟩, ?_⟩
    rw [cnt8_at hg hl hx]
    exact (bel_pos _ _ (by have := good_99 hg hl hx; omega)).2 h3
  · rintro ⟨hf, hc⟩
    obtain ⟨l, hl, hx⟩ := List.mem_flatten.1 hf
    obtain ⟨i, hi⟩ := List.getElem?_of_mem hl
    obtain ⟨k, hk⟩ := List.getElem?_of_mem hx
    rw [cnt8_at hg hi hk] at hc
    refine ⟨i, lt_of_get hi, ?_⟩
    rw [getD_of hi, badL_has]
    exact ⟨k, lt_of_get hk, getDI hk, (bel_pos _ _ (by have := good_99 hg hi hk; omega)).1 hc⟩
theorem badR_at {Y : List (List Int)} {x : Int} (h : x ∈ badR Y) : goodY Y = true ∧ ∃ (i k : Nat) (l : List Int), Y[i]? = some l ∧ l[k]? = some x ∧ bel (l.take k) x = cnt8 Y x := by
  cases hg : goodY Y with
  | false => simp [badR, hg] at h
  | true =>
    obtain ⟨hf, -⟩ := (badR_has hg x).1 h
    obtain ⟨l, hl, hx⟩ := List.mem_flatten.1 hf
    obtain ⟨i, hi⟩ := List.getElem?_of_mem hl
    obtain ⟨k, hk⟩ := List.getElem?_of_mem hx
    exact ⟨rfl, i, k, l, hi, hk, (cnt8_at hg hi hk).symm⟩
theorem wstV_is {Y : List (List Int)} : ∀ k, k ≤ (badR Y).length → IsW ((badR Y).take k) (cnt8 Y) (wstV Y k)
  | 0, _ => by simpa [wstV] using IsW.nil _
  | k + 1, hk => by
    have hx : (badR Y)[k]? = some (badR Y)[k] := List.getElem?_eq_getElem (by omega)
    rw [wstV_step hx, take_next8 hx]
    refine (wstV_is k (by omega)).next fun y hy => ?_
    have hs : (badR Y).Pairwise fun a b : Int => a ≤ b := by
      unfold badR
      split
      · exact srtI_asc _
      · exact List.Pairwise.nil
    obtain ⟨j, hj, rfl⟩ := List.getElem_of_mem hy
    rw [List.getElem_take]
    exact List.pairwise_iff_getElem.1 hs j k (by simp at hj; omega) (by omega) (by simp at hj; omega)
theorem wstV_all (Y : List (List Int)) : wstV Y (badR Y).length = wstR Y := by
  cases hg : goodY Y with
  | false =>
    have : badR Y = [] := by simp [badR, hg]
    simp [wstV, wstR, hg, this]
  | true =>
    have h1 := wstV_is (badR Y).length (Nat.le_refl _)
    have h2 := wstY_is hg Y.length (Nat.le_refl _)
    rw [List.take_length] at h1 h2
    rw [show wstR Y = wstY Y Y.length by simp [wstR, hg]]
    exact h1.uniq h2 fun x hx => by
      rw [badR_has hg]
      exact ⟨fun h => h.1, fun h => ⟨h, hx⟩⟩
theorem wstR_pos {Y : List (List Int)} (h : 0 < (wstR Y).2) : (wstR Y).1 ∈ badR Y := by
  have h1 := wstV_is (Y := Y) (badR Y).length (Nat.le_refl _)
  rw [wstV_all, List.take_length] at h1
  rcases h1 with ⟨h1, _⟩ | ⟨_, h2, _⟩
  · rw [h1] at h; simp at h
  · exact h2
end Go.Proofs.Ythokmklnldoinaa
