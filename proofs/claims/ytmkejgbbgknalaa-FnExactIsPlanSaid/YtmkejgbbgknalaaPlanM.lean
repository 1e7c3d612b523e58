/-
  Whether steps are a plan for an order. No statement of the seat by itself.
-/
import Derived.Test.YtmkejgbbgknalaaOrdM
namespace Go.Proofs.Ytmkejgbbgknalaa
open Go.RowKit

/-- The stack of a number, or -1. -/
def stkY (Y : List (List Int)) (x : Int) : Int := match placeY Y x with
  | none => -1
  | some p => (p.1 : Int)
def planS : List (List Int) → List Int → List (Int × Int) → Bool
  | _, L, [] => decide (L.length = 0)
  | _, [], _ :: _ => false
  | Y, n :: L, s :: S => stepOk Y s.1 s.2 && decide (stkY Y s.1 = stkY Y n) && (decide (s.2 ≠ -1) || decide (s.1 = n)) && planS (stepR Y s.1 s.2) (if s.2 = -1 then L else n :: L) S
def PlanInv (Y : List (List Int)) (L : List Int) : Prop := goodY Y = true ∧ L.Nodup ∧ ∀ x ∈ L, (placeY Y x).isSome = true
theorem place_mem {Y : List (List Int)} {x : Int} (hg : goodY Y = true) : (placeY Y x).isSome = true ↔ x ∈ Y.flatten := by
  constructor
  · intro h
    cases hp : placeY Y x with
    | none => rw [hp] at h; cases h
    | some p =>
      obtain ⟨l, hl, hat⟩ := place_inv hp
      exact flat_mem hl (atL_get hat)
  · intro h
    obtain ⟨l, hl, hx⟩ := List.mem_flatten.1 h
    obtain ⟨i, hi, rfl⟩ := List.mem_iff_getElem.1 hl
    obtain ⟨k, hk, rfl⟩ := List.mem_iff_getElem.1 hx
    rw [place_only hg (List.getElem?_eq_getElem hi) (List.getElem?_eq_getElem hk)]
    rfl
/-- What a step that can be made says. -/
theorem step_top {Y : List (List Int)} {b t : Int} (h : stepOk Y b t = true) : goodY Y = true ∧ ∃ i k l, placeY Y b = some (i, k) ∧ Y[i]? = some l ∧ k + 1 = l.length ∧ l[k]? = some b := by
  have hg : goodY Y = true := by
    cases hg : goodY Y with
    | true => rfl
    | false =>
      have hp := plO_bad (x := b) hg
      by_cases ht : t = -1
      · subst ht
        rw [stepOk_take, (take_no (tkO_none hp)).2] at h
        cases h
      · rw [stepOk_move ht] at h
        simp [plB, hp] at h
  refine ⟨hg, ?_⟩
  cases hp : placeY Y b with
  | none => rw [step_none hg hp] at h; cases h
  | some p =>
    obtain ⟨i, k⟩ := p
    obtain ⟨l, hl, hat⟩ := place_inv hp
    by_cases hk : k + 1 = l.length
    · exact ⟨i, k, l, rfl, hl, hk, atL_get hat⟩
    · rw [step_low hg hp hl hk] at h; cases h
theorem step_count {Y : List (List Int)} {b t : Int} (h : stepOk Y b t = true) (a : Int) : (stepR Y b t).flatten.count a + (if t = -1 then [b].count a else 0) = Y.flatten.count a := by
  obtain ⟨hg, i, k, l, hp, hl, hk, hx⟩ := step_top h
  have hsp : l = l.take k ++ [b] := by
    have := take_next hx
    rw [hk, List.take_length] at this
    exact this
  by_cases ht : t = -1
  · subst ht
    rw [(step_take hg hp hl hk).2, if_pos rfl]
    exact took_count hl hsp a
  · have hm := (step_move hg hp hl hk ht).1 h
    obtain ⟨j, rfl⟩ : ∃ j : Nat, t = (j : Int) := ⟨t.toNat, by omega⟩
    obtain ⟨lt, hlt⟩ := get_at (Y := Y) rfl (show j < Y.length by omega)
    rw [step_moved hg hp hl hk h, if_neg ht, Nat.add_zero]
    exact moved_count hl hsp (by rw [List.getElem?_set_ne (by omega)]; exact hlt) a
theorem PlanInv.step {Y : List (List Int)} {n b t : Int} {L : List Int} (h : PlanInv Y (n :: L)) (ho : stepOk Y b t = true) (hb : t = -1 → b = n) : PlanInv (stepR Y b t) (if t = -1 then L else n :: L) := by
  obtain ⟨hg, hn, hp⟩ := h
  have hg2 := step_good ho
  refine ⟨hg2, ?_, fun x hx => ?_⟩
  · split
    · exact (List.nodup_cons.1 hn).2
    · exact hn
  · rw [place_mem hg2]
    have hc := step_count ho x
    have hxm : x ∈ n :: L := by
      split at hx
      · exact List.mem_cons_of_mem _ hx
      · exact hx
    have h0 := List.count_pos_iff.2 ((place_mem hg).1 (hp x hxm))
    refine List.count_pos_iff.1 ?_
    split at hc
    · rename_i ht
      rw [if_pos ht] at hx
      have : ¬ b = x := fun e => by
        rw [hb ht] at e
        subst e
        exact (List.nodup_cons.1 hn).1 hx
      have : [b].count x = 0 := by
        rw [List.count_eq_zero]
        simp
        exact fun e => this e.symm
      omega
    · omega
/-- Whether a plan may have a step, as impl asks it. -/
def fitsB (Y : List (List Int)) (n b t : Int) : Bool := if t = -1 then decide (b = n) else decide (b = topR Y (plI Y n))
theorem fits_eq {Y : List (List Int)} {n b t : Int} {L : List Int} (h : PlanInv Y (n :: L)) : (fitsB Y n b t && stepOk Y b t) = (stepOk Y b t && decide (stkY Y b = stkY Y n) && (decide (t ≠ -1) || decide (b = n))) := by
  cases ho : stepOk Y b t with
  | false => simp
  | true =>
    obtain ⟨hg, i, k, l, hp, hl, hk, hx⟩ := step_top ho
    have hn := h.2.2 n (by simp)
    cases hpn : placeY Y n with
    | none => rw [hpn] at hn; cases hn
    | some q =>
      obtain ⟨j, m⟩ := q
      obtain ⟨r, hr, hat⟩ := place_inv hpn
      have hb : stkY Y b = (i : Int) := by simp [stkY, hp]
      have hs : stkY Y n = (j : Int) := by simp [stkY, hpn]
      rw [hb, hs, Bool.and_true, Bool.true_and]
      unfold fitsB
      by_cases ht : t = -1
      · rw [if_pos ht]
        by_cases e : b = n
        · have : i = j := by rw [e, hpn] at hp; injection hp with hp; injection hp with h1 h2; exact h1.symm
          simp [e, this]
        · simp [e, ht]
      · rw [if_neg ht]
        have hpl : plI Y n = (j : Int) := by simp [plI, plO_good hg, hpn]
        rw [hpl]
        have hj := lt_of_get hr
        have hok : okS Y (j : Int) = true := okS_iff.2 ⟨hg, by omega, by omega⟩
        rw [topR_yes hok hr]
        by_cases e : i = j
        · subst e
          rw [hl] at hr
          cases hr
          rw [top_is hk hx]
          simp [ht]
        · have : ¬ b = topL r := fun e2 => by
            have hm := lt_of_get (atL_get hat)
            obtain ⟨y, hy⟩ := get_at (Y := r) rfl (show r.length - 1 < r.length by omega)
            have e3 := top_is (k := r.length - 1) (by omega) hy
            rw [← e2] at e3
            subst e3
            have := place_only hg hr hy
            rw [hp] at this
            injection this with this
            injection this with h5 _
            exact e h5
          have e2 : ¬ (i : Int) = (j : Int) := by omega
          simp [this, e2]
theorem planS_step {Y : List (List Int)} {n b t : Int} {L : List Int} {S : List (Int × Int)} {k : Nat} (hs : S[k]? = some (b, t)) : planS Y (n :: L) (S.drop k) = (stepOk Y b t && decide (stkY Y b = stkY Y n) && (decide (t ≠ -1) || decide (b = n)) && planS (stepR Y b t) (if t = -1 then L else n :: L) (S.drop (k + 1))) := by
  have hk := lt_of_get hs
  rw [List.drop_eq_getElem_cons hk]
  have e : S[k] = (b, t) := by
    rw [List.getElem?_eq_getElem hk] at hs
    exact Option.some.inj hs
  rw [e]
  rfl
theorem planS_none {Y : List (List Int)} {S : List (Int × Int)} {k : Nat} (hk : k < S.length) : planS Y [] (S.drop k) = false := by
  rw [List.drop_eq_getElem_cons hk]
  rfl
theorem planS_end (Y : List (List Int)) (L : List Int) {S : List (Int × Int)} {k : Nat} (hk : S.length = k) : planS Y L (S.drop k) = decide (L.length = 0) := by
  rw [← hk, List.drop_length]
  rfl
theorem ask_inv {Y : List (List Int)} {O : List Int} (h : askB Y O = true) : PlanInv Y O ∧ O.length ≤ 8 := by
  obtain ⟨h1, h2, h3, h4⟩ := askB_iff.1 h
  exact ⟨⟨h1, h3, h4⟩, h2⟩
def planB (Y : List (List Int)) (O : List Int) (S : List (Int × Int)) : Bool := askB Y O && planS Y O S
end Go.Proofs.Ytmkejgbbgknalaa
