/-
  Clear orders, overstows and balances: the mathematics. No statement of the seat by itself.
-/
import Derived.Test.YtececghifehjeaaPlace
namespace Go.Proofs.Ytececghifehjeaa

/-- The topmost number of a row. -/
def tpO (l : List Int) : Option Int := l[l.length - 1]?
theorem tpO_nil : tpO [] = none := rfl
theorem tpO_of {l : List Int} {k : Nat} (h : l.length = k + 1) : tpO l = l[k]? := by unfold tpO; rw [h]; rfl
theorem tpO_none {l : List Int} (h : tpO l = none) : l = [] := by
  unfold tpO at h
  rw [List.getElem?_eq_none_iff] at h
  exact List.eq_nil_of_length_eq_zero (by omega)
/-- The row with the smallest top among the first k ones. -/
def bestI (R : List (List Int)) : Nat → Option Nat
  | 0 => none
  | k + 1 => match tpO (R.getD k []) with
    | none => bestI R k
    | some x => match bestI R k with
      | none => some k
      | some b => if x < (tpO (R.getD b [])).getD 0 then some k else some b
theorem bestI_none {R : List (List Int)} : ∀ {k : Nat}, bestI R k = none → ∀ j, j < k → tpO (R.getD j []) = none
  | 0, _, j, hj => by omega
  | k + 1, h, j, hj => by
    unfold bestI at h
    cases hx : tpO (R.getD k []) with
    | none =>
      rw [hx] at h
      by_cases e : j = k
      · subst e; exact hx
      · exact bestI_none h j (by omega)
    | some x =>
      rw [hx] at h
      cases hb : bestI R k with
      | none => rw [hb] at h; cases h
      | some b =>
        rw [hb] at h
        simp only at h
        split at h <;> cases h
theorem bestI_some {R : List (List Int)} : ∀ {k b : Nat}, bestI R k = some b → b < k ∧ ∃ x, tpO (R.getD b []) = some x ∧ ∀ j y, j < k → tpO (R.getD j []) = some y → x ≤ y
  | 0, b, h => by cases h
  | k + 1, b, h => by
    unfold bestI at h
    cases hx : tpO (R.getD k []) with
    | none =>
      rw [hx] at h
      obtain ⟨h1, x, h2, h3⟩ := bestI_some h
      refine ⟨by omega, x, h2, fun j y hj hy => ?_⟩
      by_cases e : j = k
      · subst e; rw [hx] at hy; cases hy
      · exact h3 j y (by omega) hy
    | some x =>
      rw [hx] at h
      cases hb : bestI R k with
      | none =>
        rw [hb] at h
        cases h
        refine ⟨by omega, x, hx, fun j y hj hy => ?_⟩
        by_cases e : j = k
        · subst e; rw [hx] at hy; cases hy; exact Int.le_refl _
        · rw [bestI_none hb j (by omega)] at hy; cases hy
      | some c =>
        rw [hb] at h
        obtain ⟨h1, z, h2, h3⟩ := bestI_some hb
        simp only [h2, Option.getD_some] at h
        split at h
        · rename_i hlt
          cases h
          refine ⟨by omega, x, hx, fun j y hj hy => ?_⟩
          by_cases e : j = k
          · subst e; rw [hx] at hy; cases hy; exact Int.le_refl _
          · have := h3 j y (by omega) hy; omega
        · rename_i hlt
          cases h
          refine ⟨by omega, z, h2, fun j y hj hy => ?_⟩
          by_cases e : j = k
          · subst e; rw [hx] at hy; cases hy; omega
          · exact h3 j y (by omega) hy
/-- One row more has been looked at. -/
theorem bestI_empty {R : List (List Int)} {k : Nat} {l : List Int} (h : R[k]? = some l) (h0 : l.length = 0) : bestI R (k + 1) = bestI R k := by
  have e : l = [] := List.eq_nil_of_length_eq_zero h0
  subst e
  simp only [bestI]
  rw [getD_of h]
  rfl
theorem bestI_first {R : List (List Int)} {k m : Nat} {l : List Int} {x : Int} (h : R[k]? = some l) (hm : l.length = m + 1) (hx : l[m]? = some x) (hb : bestI R k = none) : bestI R (k + 1) = some k := by
  simp only [bestI]
  rw [getD_of h, tpO_of hm, hx, hb]
theorem bestI_next {R : List (List Int)} {k m b mb : Nat} {l lb : List Int} {x y : Int} (h : R[k]? = some l) (hm : l.length = m + 1) (hx : l[m]? = some x) (hb : bestI R k = some b) (hlb : R[b]? = some lb) (hmb : lb.length = mb + 1) (hy : lb[mb]? = some y) :
    bestI R (k + 1) = if x < y then some k else some b := by
  simp only [bestI]
  rw [getD_of h, tpO_of hm, hx, hb]
  simp only
  rw [getD_of hlb, tpO_of hmb, hy]
  rfl

/-- What is taken out, always the smallest top. -/
def clr : Nat → List (List Int) → List Int
  | 0, _ => []
  | f + 1, R => match bestI R R.length with
    | none => []
    | some b => (tpO (R.getD b [])).getD 0 :: clr f (R.set b ((R.getD b []).take ((R.getD b []).length - 1)))
theorem clr_none {R : List (List Int)} (h : bestI R R.length = none) (f : Nat) : clr f R = [] := by
  cases f with
  | zero => rfl
  | succ f => simp [clr, h]
theorem tot_set {R : List (List Int)} {b : Nat} {l l' : List Int} (h : R[b]? = some l) : tot (R.set b l') + l.length = tot R + l'.length := by
  have hb := lt_of_get h
  have e : ∀ (A : List (List Int)) (c : List Int) (B : List (List Int)), tot (A ++ c :: B) = tot A + (c.length + tot B) := fun A c B => by simp [tot]
  have e1 : R = R.take b ++ l :: R.drop (b + 1) := by
    conv => lhs; rw [← List.take_append_drop b R]
    rw [List.drop_eq_getElem_cons hb]
    rw [List.getElem?_eq_getElem hb] at h
    cases h; rfl
  have e2 : R.set b l' = R.take b ++ l' :: R.drop (b + 1) := by
    rw [List.set_eq_take_append_cons_drop, if_pos hb]
  rw [e2, e, congrArg tot e1, e]
  omega
theorem clr_step {R : List (List Int)} {b k : Nat} {l : List Int} {x : Int} (h : bestI R R.length = some b) (hl : R[b]? = some l) (hk : l.length = k + 1) (hx : l[k]? = some x) :
    clr (tot R) R = x :: clr (tot (R.set b (l.take k))) (R.set b (l.take k)) := by
  have ht := tot_set (l' := l.take k) hl
  have hlt : (l.take k).length = k := by rw [List.length_take]; omega
  have e : tot R = tot (R.set b (l.take k)) + 1 := by omega
  rw [e]
  simp only [clr, h]
  rw [getD_of hl, tpO_of hk, hx, hk]
  rfl

/-- A number stands at one place alone. -/
theorem flat_uniq {Y : List (List Int)} (hn : Y.flatten.Nodup) {i j k m : Nat} {l r : List Int} {x : Int} (hl : Y[i]? = some l) (hx : l[k]? = some x) (hr : Y[j]? = some r) (hy : r[m]? = some x) : i = j ∧ k = m := by
  obtain ⟨h1, h2⟩ := List.pairwise_flatten.1 hn
  have hi := lt_of_get hl
  have hj := lt_of_get hr
  rw [List.getElem?_eq_getElem hi] at hl
  rw [List.getElem?_eq_getElem hj] at hr
  have el := Option.some.inj hl
  have er := Option.some.inj hr
  have e : i = j := by
    rcases Nat.lt_trichotomy i j with h | h | h
    · have := List.pairwise_iff_getElem.1 h2 i j hi hj h
      rw [el, er] at this
      exact absurd rfl (this x (List.mem_of_getElem? hx) x (List.mem_of_getElem? hy))
    · exact h
    · have := List.pairwise_iff_getElem.1 h2 j i hj hi h
      rw [el, er] at this
      exact absurd rfl (this x (List.mem_of_getElem? hy) x (List.mem_of_getElem? hx))
  subst e
  refine ⟨rfl, ?_⟩
  rw [el] at er
  subst er
  have hn2 := h1 l (el ▸ List.getElem_mem hi)
  have hk := lt_of_get hx
  have hm := lt_of_get hy
  rw [List.getElem?_eq_getElem hk] at hx
  rw [List.getElem?_eq_getElem hm] at hy
  rcases Nat.lt_trichotomy k m with h | h | h
  · exact absurd ((Option.some.inj hx).trans (Option.some.inj hy).symm) (List.pairwise_iff_getElem.1 hn2 k m hk hm h)
  · exact h
  · exact absurd ((Option.some.inj hy).trans (Option.some.inj hx).symm) (List.pairwise_iff_getElem.1 hn2 m k hm hk h)

/-- What is left of the rows when some numbers are taken. -/
def Rem (Y R : List (List Int)) (O : List Int) : Prop := R.length = Y.length ∧ ∀ (i : Nat) (l : List Int), Y[i]? = some l → ∃ r, r ≤ l.length ∧ R[i]? = some (l.take r) ∧ ∀ (k : Nat) (x : Int), l[k]? = some x → (x ∈ O ↔ r ≤ k)
theorem Rem.start (Y : List (List Int)) : Rem Y Y [] := ⟨rfl, fun i l hl => ⟨l.length, Nat.le_refl _, by rw [List.take_length]; exact hl, fun k x hx => by
  have := lt_of_get hx
  simp; omega⟩⟩
theorem Rem.at {Y R : List (List Int)} {O : List Int} (h : Rem Y R O) {b : Nat} {l : List Int} (hl : R[b]? = some l) : ∃ l0 r, Y[b]? = some l0 ∧ r ≤ l0.length ∧ l = l0.take r ∧ ∀ (k : Nat) (x : Int), l0[k]? = some x → (x ∈ O ↔ r ≤ k) := by
  have hb : b < Y.length := by have := lt_of_get hl; rw [h.1] at this; exact this
  obtain ⟨r, h1, h2, h3⟩ := h.2 b Y[b] (List.getElem?_eq_getElem hb)
  rw [hl] at h2
  exact ⟨Y[b], r, List.getElem?_eq_getElem hb, h1, Option.some.inj h2, h3⟩
theorem Rem.step {Y R : List (List Int)} {O : List Int} (h : Rem Y R O) (hn : Y.flatten.Nodup) {b k : Nat} {l : List Int} {x : Int} (hl : R[b]? = some l) (hk : l.length = k + 1) (hx : l[k]? = some x) : Rem Y (R.set b (l.take k)) (O ++ [x]) := by
  obtain ⟨l0, r, h1, h2, rfl, h4⟩ := h.at hl
  have hr : r = k + 1 := by rw [List.length_take] at hk; omega
  subst hr
  have hx0 : l0[k]? = some x := by rw [List.getElem?_take, if_pos (by omega)] at hx; exact hx
  have hbR := lt_of_get hl
  refine ⟨by rw [List.length_set]; exact h.1, fun i m hm => ?_⟩
  by_cases e : i = b
  · subst e
    rw [h1] at hm
    cases hm
    refine ⟨k, by omega, by rw [List.getElem?_set_self hbR, List.take_take, Nat.min_eq_left (by omega)], fun j y hy => ?_⟩
    rw [List.mem_append, List.mem_singleton, h4 j y hy]
    constructor
    · rintro (h | rfl)
      · omega
      · have := (flat_uniq hn h1 hy h1 hx0).2; omega
    · intro hj
      by_cases e : j = k
      · subst e
        rw [hx0] at hy
        cases hy
        exact .inr rfl
      · exact .inl (by omega)
  · obtain ⟨r', a1, a2, a3⟩ := h.2 i m hm
    refine ⟨r', a1, by rw [List.getElem?_set_ne (fun e2 => e e2.symm)]; exact a2, fun j y hy => ?_⟩
    rw [List.mem_append, List.mem_singleton, a3 j y hy]
    constructor
    · rintro (h | rfl)
      · exact h
      · exact absurd (flat_uniq hn hm hy h1 hx0).1 e
    · exact .inl

/-- How many numbers above tier t of a row are not among the taken ones. -/
def ovC (l : List Int) (t : Nat) (T : List Int) : Nat := ((l.drop (t + 1)).filter fun y => !decide (y ∈ T)).length
theorem ovC_zero {l : List Int} {t : Nat} {T : List Int} : ovC l t T = 0 ↔ ∀ (k : Nat) (y : Int), t < k → l[k]? = some y → y ∈ T := by
  unfold ovC
  rw [List.length_eq_zero_iff, List.filter_eq_nil_iff]
  constructor
  · intro h k y hk hy
    have hm : y ∈ l.drop (t + 1) := List.mem_of_getElem? (i := k - (t + 1)) (by rw [List.getElem?_drop, show t + 1 + (k - (t + 1)) = k by omega]; exact hy)
    simpa using h y hm
  · intro h y hy
    obtain ⟨j, hj⟩ := List.mem_iff_getElem?.1 hy
    rw [List.getElem?_drop] at hj
    simpa using h _ y (by omega) hj
theorem Rem.top {Y R : List (List Int)} {O : List Int} (h : Rem Y R O) (hn : Y.flatten.Nodup) {i t : Nat} {l : List Int} {x : Int} (hl : Y[i]? = some l) (hx : l[t]? = some x) : (ovC l t O = 0 ∧ ¬ x ∈ O) ↔ tpO (R.getD i []) = some x ∧ ¬ x ∈ O := by
  obtain ⟨r, h1, h2, h3⟩ := h.2 i l hl
  rw [getD_of h2]
  have ht := lt_of_get hx
  constructor
  · rintro ⟨a, b⟩
    refine ⟨?_, b⟩
    rw [h3 t x hx] at b
    have : r = t + 1 := by
      rcases Nat.lt_or_ge (t + 1) r with h | h
      · have hlt : t + 1 < l.length := by omega
        have := (h3 (t + 1) _ (List.getElem?_eq_getElem hlt)).1 (ovC_zero.1 a (t + 1) _ (by omega) (List.getElem?_eq_getElem hlt))
        omega
      · omega
    subst this
    rw [tpO_of (k := t) (by rw [List.length_take]; omega), List.getElem?_take, if_pos (by omega)]
    exact hx
  · rintro ⟨a, b⟩
    refine ⟨ovC_zero.2 fun k y hk hy => ?_, b⟩
    rw [h3 k y hy]
    rw [h3 t x hx] at b
    cases r with
    | zero => omega
    | succ r =>
      rw [tpO_of (k := r) (by rw [List.length_take]; omega), List.getElem?_take, if_pos (by omega)] at a
      have e := (flat_uniq hn hl a hl hx).2
      omega
/-- The smallest top is the first number, in ascending order, above which none is left. -/
theorem Rem.best {Y R : List (List Int)} {O : List Int} (h : Rem Y R O) (hn : Y.flatten.Nodup) {i t : Nat} {l : List Int} {x : Int} (hl : Y[i]? = some l) (hx : l[t]? = some x) (h0 : ovC l t O = 0) (hm : ¬ x ∈ O)
    (hle : ∀ (j k : Nat) (r : List Int) (y : Int), Y[j]? = some r → r[k]? = some y → ovC r k O = 0 → ¬ y ∈ O → x ≤ y) :
    ∃ b l' k, bestI R R.length = some b ∧ R[b]? = some l' ∧ l'.length = k + 1 ∧ l'[k]? = some x := by
  have ht := ((h.top hn hl hx).1 ⟨h0, hm⟩).1
  have hiR : i < R.length := by have := lt_of_get hl; rw [h.1]; exact this
  cases hb : bestI R R.length with
  | none => rw [bestI_none hb i hiR] at ht; cases ht
  | some b =>
    obtain ⟨h1, z, h2, h3⟩ := bestI_some hb
    obtain ⟨lb, hlb⟩ : ∃ lb, R[b]? = some lb := ⟨R[b], List.getElem?_eq_getElem h1⟩
    rw [getD_of hlb] at h2
    obtain ⟨l0, r, a1, a2, rfl, a4⟩ := h.at hlb
    cases r with
    | zero => simp [tpO] at h2
    | succ r =>
      have hlen : (l0.take (r + 1)).length = r + 1 := by rw [List.length_take]; omega
      rw [tpO_of hlen] at h2
      have hz : l0[r]? = some z := by rw [List.getElem?_take, if_pos (by omega)] at h2; exact h2
      have hzO : ¬ z ∈ O := by rw [a4 r z hz]; omega
      have hz0 : ovC l0 r O = 0 := ovC_zero.2 fun k y hk hy => (a4 k y hy).2 (by omega)
      have e1 := h3 i x hiR ht
      have e2 := hle b r l0 z a1 hz hz0 hzO
      have e : z = x := by omega
      subst e
      exact ⟨b, _, r, rfl, hlb, hlen, h2⟩
/-- No number is left where none has nothing above it. -/
theorem Rem.none {Y R : List (List Int)} {O : List Int} (h : Rem Y R O) (hle : ∀ (j k : Nat) (r : List Int) (y : Int), Y[j]? = some r → r[k]? = some y → ovC r k O = 0 → y ∈ O) : bestI R R.length = none := by
  cases hb : bestI R R.length with
  | none => rfl
  | some b =>
    exfalso
    obtain ⟨h1, z, h2, h3⟩ := bestI_some hb
    obtain ⟨lb, hlb⟩ : ∃ lb, R[b]? = some lb := ⟨R[b], List.getElem?_eq_getElem h1⟩
    rw [getD_of hlb] at h2
    obtain ⟨l0, r, a1, a2, rfl, a4⟩ := h.at hlb
    cases r with
    | zero => simp [tpO] at h2
    | succ r =>
      have hlen : (l0.take (r + 1)).length = r + 1 := by rw [List.length_take]; omega
      rw [tpO_of hlen] at h2
      have hz : l0[r]? = some z := by rw [List.getElem?_take, if_pos (by omega)] at h2; exact h2
      have := (a4 r z hz).1 (hle b r l0 z a1 hz (ovC_zero.2 fun k y hk hy => (a4 k y hy).2 (by omega)))
      omega

/-- The numbers of overstows of the first k numbers of an order. -/
def ovN (Y : List (List Int)) (x : Int) (T : List Int) : Int := match placeY Y x with
  | .none => 0
  | some p => (ovC (Y.getD p.1 []) p.2 T : Int)
def ovL (Y : List (List Int)) (O : List Int) (k : Nat) : List Int := (List.range k).map fun i => ovN Y (O.getD i 0) (O.take i)
theorem ovL_succ {Y : List (List Int)} {O : List Int} {k : Nat} {x : Int} (h : O[k]? = some x) : ovL Y O (k + 1) = ovL Y O k ++ [ovN Y x (O.take k)] := by
  unfold ovL
  rw [List.range_succ, List.map_append]
  simp [List.getD, h]
theorem ovL_len (Y : List (List Int)) (O : List Int) (k : Nat) : (ovL Y O k).length = k := by simp [ovL]
theorem ovN_of {Y : List (List Int)} {x : Int} {T l : List Int} {i t : Nat} (h : placeY Y x = some (i, t)) (hl : Y[i]? = some l) : ovN Y x T = (ovC l t T : Int) := by
  unfold ovN
  rw [h]
  simp only [getD_of hl]
/-- Whether a list is an unloading order. -/
def ordK (Y : List (List Int)) (O : List Int) (k : Nat) : Prop := ∀ (i : Nat) (x : Int), i < k → O[i]? = some x → (placeY Y x).isSome ∧ ¬ x ∈ O.take i
instance (Y : List (List Int)) (O : List Int) : Decidable (∀ i, i < O.length → (placeY Y (O.getD i 0)).isSome ∧ ¬ (O.getD i 0) ∈ O.take i) := inferInstance
def ordB (Y : List (List Int)) (O : List Int) : Bool := decide (∀ i, i < O.length → (placeY Y (O.getD i 0)).isSome ∧ ¬ (O.getD i 0) ∈ O.take i)
theorem ordB_yes {Y : List (List Int)} {O : List Int} (h : ordK Y O O.length) : ordB Y O = true := by
  unfold ordB
  rw [decide_eq_true_eq]
  intro i hi
  exact h i _ hi (by rw [List.getD, List.getElem?_eq_getElem hi]; rfl)
theorem ordB_no {Y : List (List Int)} {O : List Int} {i : Nat} {x : Int} (hx : O[i]? = some x) (h : placeY Y x = .none ∨ x ∈ O.take i) : ordB Y O = false := by
  unfold ordB
  rw [decide_eq_false_iff_not]
  intro hall
  have hi := lt_of_get hx
  have e : O.getD i 0 = x := by simp [List.getD, hx]
  have := hall i hi
  rw [e] at this
  rcases h with h | h
  · rw [h] at this; simp at this
  · exact this.2 h
theorem ordK_of {Y : List (List Int)} {O : List Int} (h : ordB Y O = true) : ordK Y O O.length := fun i x hi hx => by
  unfold ordB at h
  rw [decide_eq_true_eq] at h
  have := h i hi
  rw [show O.getD i 0 = x by simp [List.getD, hx]] at this
  exact this
theorem ordK_succ {Y : List (List Int)} {O : List Int} {k : Nat} {x : Int} (h : ordK Y O k) (hx : O[k]? = some x) (h1 : (placeY Y x).isSome) (h2 : ¬ x ∈ O.take k) : ordK Y O (k + 1) := fun i y hi hy => by
  by_cases e : i = k
  · subst e; rw [hx] at hy; cases hy; exact ⟨h1, h2⟩
  · exact h i y (by omega) hy
/-- Numbers above tier t that are not taken, among those below place k. -/
def ovK (l : List Int) (t : Nat) (T : List Int) (k : Nat) : Nat := (((l.take k).drop (t + 1)).filter fun y => !decide (y ∈ T)).length
theorem ovK_start (l : List Int) (t : Nat) (T : List Int) : ovK l t T (t + 1) = 0 := by
  unfold ovK
  rw [List.drop_eq_nil_of_le (by rw [List.length_take]; omega)]
  rfl
theorem ovK_all (l : List Int) (t : Nat) (T : List Int) : ovK l t T l.length = ovC l t T := by unfold ovK ovC; rw [List.take_length]
theorem ovK_succ {l : List Int} {t k : Nat} {T : List Int} {x : Int} (hk : t + 1 ≤ k) (hx : l[k]? = some x) : ovK l t T (k + 1) = ovK l t T k + (if x ∈ T then 0 else 1) := by
  have hkl := lt_of_get hx
  unfold ovK
  rw [take_next hx, List.drop_append_of_le_length (by rw [List.length_take]; omega), List.filter_append, List.length_append]
  by_cases h : x ∈ T <;> simp [h]
theorem ovK_le (l : List Int) (t : Nat) (T : List Int) (k : Nat) : ovK l t T k ≤ l.length := by
  unfold ovK
  refine Nat.le_trans (List.length_filter_le _ _) ?_
  rw [List.length_drop, List.length_take]
  omega

/-- The balance after k rows, as the reference adds it up. -/
def balS (Y : List (List Int)) : Nat → Int
  | 0 => 0
  | k + 1 => balS Y k + (if 2 * k + 1 < Y.length then - ((Y.getD k []).length : Int) else if Y.length < 2 * k + 1 then ((Y.getD k []).length : Int) else 0)
/-- The balance after k pairs of rows, as the program adds it up. -/
def balP (Y : List (List Int)) : Nat → Int
  | 0 => 0
  | k + 1 => balP Y k + (((Y.getD (Y.length - 1 - k) []).length : Int) - ((Y.getD k []).length : Int))
theorem bal_eq {Y : List (List Int)} (h : Y.length ≤ 5) : balP Y (Y.length / 2) = balS Y Y.length := by
  rcases Y with _ | ⟨a, _ | ⟨b, _ | ⟨c, _ | ⟨d, _ | ⟨e, _ | ⟨f, t⟩⟩⟩⟩⟩⟩
  · rfl
  · simp [balP, balS]
  · simp [balP, balS]; omega
  · simp [balP, balS]; omega
  · simp [balP, balS]; omega
  · simp [balP, balS]; omega
  · simp at h
end Go.Proofs.Ytececghifehjeaa
