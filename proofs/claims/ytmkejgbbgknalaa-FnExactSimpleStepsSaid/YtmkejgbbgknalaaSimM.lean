/-
  The simple plan: the lowest other stack, and what the plan is. No statement of the seat by itself.
-/
import Derived.Test.YtmkejgbbgknalaaPlanM
namespace Go.Proofs.Ytmkejgbbgknalaa
open Go.RowKit

/-- The better of a stack chosen so far and another one: stacks that are not full, the lowest, the first on ties. -/
def lowN (Y : List (List Int)) (f : Nat) : Nat → Option Nat
  | 0 => none
  | k + 1 => if k ≠ f ∧ (Y.getD k []).length < 4 ∧ (∀ j, lowN Y f k = some j → (Y.getD k []).length < (Y.getD j []).length) then some k else lowN Y f k
/-- The same, with full stacks too. -/
def lowF (Y : List (List Int)) (f : Nat) : Nat → Option Nat
  | 0 => none
  | k + 1 => if k ≠ f ∧ (∀ j, lowF Y f k = some j → (Y.getD k []).length < (Y.getD j []).length) then some k else lowF Y f k
theorem lowN_lt {Y : List (List Int)} {f : Nat} : ∀ {k j : Nat}, lowN Y f k = some j → j < k ∧ j ≠ f ∧ (Y.getD j []).length < 4
  | 0, j, h => by cases h
  | k + 1, j, h => by
    unfold lowN at h
    split at h
    · rename_i hc
      cases h
      exact ⟨by omega, hc.1, hc.2.1⟩
    · have := lowN_lt h
      exact ⟨by omega, this.2⟩
theorem lowF_lt {Y : List (List Int)} {f : Nat} : ∀ {k j : Nat}, lowF Y f k = some j → j < k ∧ j ≠ f
  | 0, j, h => by cases h
  | k + 1, j, h => by
    unfold lowF at h
    split at h
    · rename_i hc
      cases h
      exact ⟨by omega, hc.1⟩
    · have := lowF_lt h
      exact ⟨by omega, this.2⟩
theorem lowF_min {Y : List (List Int)} {f : Nat} : ∀ {k j : Nat}, lowF Y f k = some j → ∀ i, i < k → i ≠ f → (Y.getD j []).length ≤ (Y.getD i []).length
  | 0, j, h, i, hi, hf => by omega
  | k + 1, j, h, i, hi, hf => by
    unfold lowF at h
    split at h
    · rename_i hc
      cases h
      by_cases e : i = k
      · rw [e]; exact Nat.le_refl _
      · cases hl : lowF Y f k with
        | none =>
          exfalso
          have : ∀ k, lowF Y f k = none → ∀ i, i < k → i ≠ f → False := by
            intro k
            induction k with
            | zero => intro _ i hi _; omega
            | succ k ih =>
              intro h i hi hf
              unfold lowF at h
              split at h
              · cases h
              · rename_i hn
                by_cases e : i = k
                · subst e
                  exact hn ⟨hf, fun j hj => by rw [h] at hj; cases hj⟩
                · exact ih h i (by omega) hf
          exact this k hl i (by omega) hf
        | some q =>
          have h1 := hc.2 q hl
          have h2 := lowF_min hl i (by omega) hf
          omega
    · rename_i hn
      by_cases e : i = k
      · subst e
        refine Nat.le_of_not_lt fun hlt => hn ⟨hf, fun q hq => ?_⟩
        rw [h] at hq
        cases hq
        exact hlt
      · exact lowF_min h i (by omega) hf
/-- Where a lowest other stack is not full, it is the one that the reference finds; where it is full or there is none, none is found. -/
theorem low_eq {Y : List (List Int)} {f : Nat} : ∀ k, lowN Y f k = match lowF Y f k with
    | none => none
    | some j => if (Y.getD j []).length < 4 then some j else none
  | 0 => rfl
  | k + 1 => by
    have ih := low_eq (Y := Y) (f := f) k
    unfold lowN lowF
    by_cases hk : k ≠ f
    · cases hl : lowF Y f k with
      | none =>
        rw [hl] at ih
        simp only at ih
        rw [ih, if_pos (show k ≠ f ∧ ∀ j, (none : Option Nat) = some j → (Y.getD k []).length < (Y.getD j []).length from ⟨hk, fun j hj => by cases hj⟩)]
        by_cases h4 : (Y.getD k []).length < 4
        · rw [if_pos ⟨hk, h4, fun j hj => by cases hj⟩]
          simp only
          rw [if_pos h4]
        · rw [if_neg fun h => h4 h.2.1]
          simp only
          rw [if_neg h4]
      | some q =>
        rw [hl] at ih
        simp only at ih
        by_cases hq : (Y.getD k []).length < (Y.getD q []).length
        · rw [if_pos (show k ≠ f ∧ ∀ j, some q = some j → (Y.getD k []).length < (Y.getD j []).length from ⟨hk, fun j hj => by cases hj; exact hq⟩)]
          simp only
          by_cases h4 : (Y.getD k []).length < 4
          · have hx : ∀ j, lowN Y f k = some j → (Y.getD k []).length < (Y.getD j []).length := fun j hj => by
              rw [ih] at hj
              by_cases h5 : (Y.getD q []).length < 4
              · rw [if_pos h5] at hj
                cases hj
                exact hq
              · rw [if_neg h5] at hj
                cases hj
            rw [if_pos h4, if_pos ⟨hk, h4, hx⟩]
          · rw [if_neg h4, if_neg fun h => h4 h.2.1, ih, if_neg (by omega)]
        · rw [if_neg (show ¬ (k ≠ f ∧ ∀ j, some q = some j → (Y.getD k []).length < (Y.getD j []).length) from fun h => hq (h.2 q rfl))]
          simp only
          by_cases h4 : (Y.getD q []).length < 4
          · rw [if_pos h4] at ih ⊢
            rw [ih, if_neg fun h => hq (h.2.2 q rfl)]
          · rw [if_neg h4] at ih ⊢
            rw [ih, if_neg fun h => by have := h.2.1; omega]
    · rw [if_neg fun h => hk h.1, if_neg fun h => hk h.1]
      exact ih
/-- What the simple plan is. -/
inductive Sim : List (List Int) → List Int → Option (List (Int × Int)) → Prop
  | done (Y : List (List Int)) : Sim Y [] (some [])
  | take {Y : List (List Int)} {n : Int} {L : List Int} {i k : Nat} {l : List Int} {r : Option (List (Int × Int))} : placeY Y n = some (i, k) → Y[i]? = some l → k + 1 = l.length → Sim (Y.set i (l.take k)) L r → Sim Y (n :: L) (r.map fun s => (n, -1) :: s)
  | move {Y : List (List Int)} {n b : Int} {L : List Int} {i k m t : Nat} {l : List Int} {r : Option (List (Int × Int))} : placeY Y n = some (i, k) → Y[i]? = some l → l.length = m + 1 → k < m → l[m]? = some b → lowN Y i Y.length = some t → Sim (putY (Y.set i (l.take m)) t b) (n :: L) r → Sim Y (n :: L) (r.map fun s => (b, (t : Int)) :: s)
  | stuck {Y : List (List Int)} {n : Int} {L : List Int} {i k : Nat} {l : List Int} : placeY Y n = some (i, k) → Y[i]? = some l → k + 1 < l.length → lowN Y i Y.length = none → Sim Y (n :: L) none
theorem Sim.det {Y : List (List Int)} {L : List Int} {r r' : Option (List (Int × Int))} (h : Sim Y L r) : Sim Y L r' → r = r' := by
  induction h generalizing r' with
  | done Y => intro h; cases h; rfl
  | take hp hl hk _ ih =>
    intro h
    cases h with
    | take hp' hl' hk' hs =>
      rw [hp] at hp'
      cases hp'
      rw [hl] at hl'
      cases hl'
      rw [ih hs]
    | move hp' hl' hm hk' =>
      rw [hp] at hp'
      cases hp'
      rw [hl] at hl'
      cases hl'
      omega
    | stuck hp' hl' hk' =>
      rw [hp] at hp'
      cases hp'
      rw [hl] at hl'
      cases hl'
      omega
  | move hp hl hm hk hb ht _ ih =>
    intro h
    cases h with
    | take hp' hl' hk' hs =>
      rw [hp] at hp'
      cases hp'
      rw [hl] at hl'
      cases hl'
      omega
    | move hp' hl' hm' hk' hb' ht' hs =>
      rw [hp] at hp'
      cases hp'
      rw [hl] at hl'
      cases hl'
      rw [hm] at hm'
      cases hm'
      rw [hb] at hb'
      cases hb'
      rw [ht] at ht'
      cases ht'
      rw [ih hs]
    | stuck hp' hl' hk' hn =>
      rw [hp] at hp'
      cases hp'
      rw [ht] at hn
      cases hn
  | stuck hp hl hk hn =>
    intro h
    cases h with
    | take hp' hl' hk' hs =>
      rw [hp] at hp'
      cases hp'
      rw [hl] at hl'
      cases hl'
      omega
    | move hp' hl' hm' hk' hb' ht' hs =>
      rw [hp] at hp'
      cases hp'
      rw [hn] at ht'
      cases ht'
    | stuck => rfl
/-- How much is left to do. -/
def meas (Y : List (List Int)) : List Int → Nat
  | [] => 0
  | n :: L => match placeY Y n with
    | none => 0
    | some p => 4 * L.length + ((Y.getD p.1 []).length - p.2)
theorem meas_cons {Y : List (List Int)} {n : Int} {L : List Int} {i k : Nat} {l : List Int} (hp : placeY Y n = some (i, k)) (hl : Y[i]? = some l) : meas Y (n :: L) = 4 * L.length + (l.length - k) := by
  show (match placeY Y n with
    | none => 0
    | some p => 4 * L.length + ((Y.getD p.1 []).length - p.2)) = _
  rw [hp]
  show 4 * L.length + ((Y.getD i []).length - k) = _
  rw [getD_of hl]
theorem meas_le {Y : List (List Int)} {L : List Int} (h : PlanInv Y L) : meas Y L ≤ 4 * L.length := by
  cases L with
  | nil => exact Nat.zero_le _
  | cons n L =>
    have hn := h.2.2 n (by simp)
    cases hp : placeY Y n with
    | none => rw [hp] at hn; cases hn
    | some p =>
      obtain ⟨l, hl, _⟩ := place_inv (i := p.1) (k := p.2) hp
      have := (goodY_iff.1 h.1).2.2.1 l (List.mem_of_getElem? hl)
      rw [meas_cons (i := p.1) (k := p.2) hp hl, List.length_cons]
      omega
theorem step_of_move {Y : List (List Int)} {b : Int} {i m t : Nat} {l : List Int} (hg : goodY Y = true) (hl : Y[i]? = some l) (hm : l.length = m + 1) (hb : l[m]? = some b) (ht : t < Y.length) (hti : t ≠ i) (h4 : (Y.getD t []).length < 4) :
    stepOk Y b (t : Int) = true ∧ stepR Y b (t : Int) = putY (Y.set i (l.take m)) t b := by
  have hp := place_only hg hl hb
  have ho : stepOk Y b (t : Int) = true := (step_move hg hp hl (by omega) (by omega)).2 ⟨by omega, by omega, by omega, by simp only [Int.toNat_natCast]; omega⟩
  exact ⟨ho, step_moved hg hp hl (by omega) ho⟩
theorem moved_place {Y : List (List Int)} {n b : Int} {i k m t : Nat} {l : List Int} (hg2 : goodY (putY (Y.set i (l.take m)) t b) = true) (hl : Y[i]? = some l) (hk : k < m) (hn : l[k]? = some n) (hti : t ≠ i) :
    (putY (Y.set i (l.take m)) t b)[i]? = some (l.take m) ∧ placeY (putY (Y.set i (l.take m)) t b) n = some (i, k) := by
  have h1 : (putY (Y.set i (l.take m)) t b)[i]? = some (l.take m) := by
    unfold putY
    rw [List.getElem?_set_ne hti, List.getElem?_set_self (lt_of_get hl)]
  refine ⟨h1, place_only hg2 h1 ?_⟩
  rw [List.getElem?_take, if_pos hk]
  exact hn
theorem sim_total : ∀ (N : Nat) (Y : List (List Int)) (L : List Int), PlanInv Y L → meas Y L ≤ N → ∃ r, Sim Y L r ∧ ∀ S, r = some S → S.length ≤ N
  | N, Y, [], _, _ => ⟨_, .done Y, fun S h => by cases h; exact Nat.zero_le _⟩
  | N, Y, n :: L, hi, hN => by
    have hn := hi.2.2 n (by simp)
    cases hp : placeY Y n with
    | none => rw [hp] at hn; cases hn
    | some p =>
      obtain ⟨i, k⟩ := p
      obtain ⟨l, hl, hat⟩ := place_inv hp
      have hkl := lt_of_get (atL_get hat)
      have hms := meas_cons (L := L) hp hl
      obtain ⟨N', rfl⟩ : ∃ N', N = N' + 1 := ⟨N - 1, by omega⟩
      by_cases hk : k + 1 = l.length
      · have hs := step_take hi.1 hp hl hk
        have hi2 := hi.step (b := n) (t := -1) hs.1 (fun _ => rfl)
        rw [if_pos rfl, hs.2] at hi2
        obtain ⟨r, h1, h2⟩ := sim_total N' _ L hi2 (by have := meas_le hi2; omega)
        refine ⟨_, .take hp hl hk h1, fun S hS => ?_⟩
        cases r with
        | none => cases hS
        | some s => cases hS; have := h2 s rfl; simp; omega
      · cases ht : lowN Y i Y.length with
        | none => exact ⟨_, .stuck hp hl (by omega) ht, fun S hS => by cases hS⟩
        | some t =>
          obtain ⟨m, hm⟩ : ∃ m, l.length = m + 1 := ⟨l.length - 1, by omega⟩
          obtain ⟨b, hb⟩ := get_at hm (Nat.lt_succ_self m)
          have hlt := lowN_lt ht
          have hs := step_of_move hi.1 hl hm hb hlt.1 hlt.2.1 hlt.2.2
          have hi2 := hi.step (b := b) (t := (t : Int)) hs.1 (fun h => by omega)
          rw [if_neg (by omega), hs.2] at hi2
          have hpl := moved_place hi2.1 hl (show k < m by omega) (atL_get hat) hlt.2.1
          obtain ⟨r, h1, h2⟩ := sim_total N' _ (n :: L) hi2 (by
            rw [meas_cons hpl.2 hpl.1, List.length_take]
            omega)
          refine ⟨_, .move hp hl hm (by omega) hb ht h1, fun S hS => ?_⟩
          cases r with
          | none => cases hS
          | some s => cases hS; have := h2 s rfl; simp; omega
/-- What is done so far, and what the rest must be. -/
def Cont (Y : List (List Int)) (O : List Int) (out : List (Int × Int)) (Yc : List (List Int)) (Lc : List Int) : Prop := ∀ r, Sim Yc Lc r → Sim Y O (r.map fun s => out ++ s)
theorem Cont.start (Y : List (List Int)) (O : List Int) : Cont Y O [] Y O := fun r h => by
  have e : (r.map fun s => ([] : List (Int × Int)) ++ s) = r := by cases r <;> rfl
  rw [e]; exact h
theorem map_app (r : Option (List (Int × Int))) (out : List (Int × Int)) (p : Int × Int) : (r.map fun s => (out ++ [p]) ++ s) = (r.map fun s => p :: s).map fun s => out ++ s := by
  cases r <;> simp
theorem Cont.take {Y Yc : List (List Int)} {O : List Int} {out : List (Int × Int)} {n : Int} {L : List Int} {i k : Nat} {l : List Int} (h : Cont Y O out Yc (n :: L)) (hp : placeY Yc n = some (i, k)) (hl : Yc[i]? = some l) (hk : k + 1 = l.length) : Cont Y O (out ++ [(n, -1)]) (Yc.set i (l.take k)) L := fun r hr => by
  rw [map_app]
  exact h _ (.take hp hl hk hr)
theorem Cont.move {Y Yc : List (List Int)} {O : List Int} {out : List (Int × Int)} {n b : Int} {L : List Int} {i k m t : Nat} {l : List Int} (h : Cont Y O out Yc (n :: L)) (hp : placeY Yc n = some (i, k)) (hl : Yc[i]? = some l) (hm : l.length = m + 1) (hk : k < m) (hb : l[m]? = some b) (ht : lowN Yc i Yc.length = some t) : Cont Y O (out ++ [(b, (t : Int))]) (putY (Yc.set i (l.take m)) t b) (n :: L) := fun r hr => by
  rw [map_app]
  exact h _ (.move hp hl hm hk hb ht hr)
theorem Cont.stuck {Y Yc : List (List Int)} {O : List Int} {out : List (Int × Int)} {n : Int} {L : List Int} {i k : Nat} {l : List Int} (h : Cont Y O out Yc (n :: L)) (hp : placeY Yc n = some (i, k)) (hl : Yc[i]? = some l) (hk : k + 1 < l.length) (ht : lowN Yc i Yc.length = none) : Sim Y O none := h _ (.stuck hp hl hk ht)
theorem Cont.done {Y Yc : List (List Int)} {O : List Int} {out : List (Int × Int)} (h : Cont Y O out Yc []) : Sim Y O (some out) := by
  have := h _ (.done Yc)
  simpa using this
/-- The simple plan, and whether there is one. -/
noncomputable def simO (Y : List (List Int)) (O : List Int) : Option (List (Int × Int)) := by
  classical exact if h : ∃ r, Sim Y O r then (if askB Y O = true then Classical.choose h else none) else none
theorem simO_is {Y : List (List Int)} {O : List Int} {r : Option (List (Int × Int))} (ha : askB Y O = true) (h : Sim Y O r) : simO Y O = r := by
  unfold simO
  rw [dif_pos ⟨r, h⟩, if_pos ha]
  exact (Classical.choose_spec (⟨r, h⟩ : ∃ r, Sim Y O r)).det h
theorem simO_no {Y : List (List Int)} {O : List Int} (ha : askB Y O = false) : simO Y O = none := by
  unfold simO
  split
  · rw [if_neg (by simp [ha])]
  · rfl
noncomputable def simR (Y : List (List Int)) (O : List Int) : List (Int × Int) := (simO Y O).getD []
noncomputable def simB (Y : List (List Int)) (O : List Int) : Bool := (simO Y O).isSome
theorem simR_small (Y : List (List Int)) (O : List Int) : (simR Y O).length ≤ 1048576 := by
  unfold simR
  cases ha : askB Y O with
  | false => rw [simO_no ha]; exact Nat.zero_le _
  | true =>
    have hi := ask_inv ha
    obtain ⟨r, h1, h2⟩ := sim_total _ Y O hi.1 (Nat.le_refl _)
    rw [simO_is ha h1]
    cases r with
    | none => exact Nat.zero_le _
    | some s =>
      have := h2 s rfl
      have := meas_le hi.1
      show s.length ≤ 1048576
      omega
end Go.Proofs.Ytmkejgbbgknalaa
