/-
  What running steps makes of a yard. No statement of the seat by itself.
-/
import Derived.Test.YtmkejgbbgknalaaStepS
namespace Go.Proofs.Ytmkejgbbgknalaa
open Go.RowKit

theorem place_lt {Y : List (List Int)} {b : Int} {i k : Nat} (h : plO Y b = some (i, k)) : goodY Y = true ∧ ∃ l, Y[i]? = some l ∧ l[k]? = some b := by
  unfold plO at h
  split at h
  · rename_i hg
    obtain ⟨l, hl, hat⟩ := place_inv h
    exact ⟨hg, l, hl, atL_get hat⟩
  · cases h
/-- A step keeps a yard valid. -/
theorem step_good {Y : List (List Int)} {b t : Int} (h : stepOk Y b t = true) : goodY (stepR Y b t) = true := by
  by_cases ht : t = -1
  · subst ht
    rw [stepR_take]
    rw [stepOk_take] at h
    unfold okT at h
    cases hk : tkO Y b with
    | none => rw [hk] at h; cases h
    | some p =>
      obtain ⟨i, k⟩ := p
      have hp : plO Y b = some (i, k) ∧ k + 1 = (Y.getD i []).length := by
        unfold tkO at hk
        rw [Option.filter_eq_some_iff] at hk
        exact ⟨hk.1, by simpa using hk.2⟩
      obtain ⟨hg, l, hl, hx⟩ := place_lt hp.1
      rw [getD_of hl] at hp
      rw [(take_yes hk hl).1]
      obtain ⟨x, hx2, hsp⟩ := last_split (m := k) hp.2.symm
      exact took_good hg hl hsp
  · rw [stepR_move ht h]
    rw [stepOk_move ht, Bool.and_eq_true, Bool.and_eq_true] at h
    obtain ⟨⟨h1, h2⟩, h3⟩ := h
    generalize plI Y b = f at *
    obtain ⟨h4, h5, h6, h7, h8⟩ := okM_iff.1 h2
    obtain ⟨hg, f0, f1⟩ := okS_iff.1 h4
    obtain ⟨_, t0, t1⟩ := okS_iff.1 h5
    obtain ⟨i, rfl⟩ : ∃ i : Nat, f = (i : Int) := ⟨f.toNat, by omega⟩
    obtain ⟨j, rfl⟩ : ∃ j : Nat, t = (j : Int) := ⟨t.toNat, by omega⟩
    obtain ⟨l, hl⟩ := get_at (Y := Y) rfl (show i < Y.length by omega)
    obtain ⟨lt, hlt⟩ := get_at (Y := Y) rfl (show j < Y.length by omega)
    simp only [Int.toNat_natCast, getD_of hl, getD_of hlt] at h7 h8
    rw [(move_yes h2).1]
    simp only [Int.toNat_natCast, moveZ, getD_of hl]
    obtain ⟨x, hx2, hsp⟩ := last_split (l := l) (m := l.length - 1) (by omega)
    rw [top_is (by omega) hx2]
    have h4 := (goodY_iff.1 hg).2.2.1 lt (List.mem_of_getElem? hlt)
    exact moved_good hg hl hsp (by rw [List.getElem?_set_ne (by omega)]; exact hlt) (by omega)
/-- The yard and the numbers that were removed, after steps. -/
def runO : List (List Int) → List (Int × Int) → List Int → Option (List (List Int) × List Int)
  | Y, [], D => some (Y, D)
  | Y, s :: S, D => if stepOk Y s.1 s.2 = true then runO (stepR Y s.1 s.2) S (if s.2 = -1 then D ++ [s.1] else D) else none
theorem runO_drop {Y : List (List Int)} {S : List (Int × Int)} {D : List Int} {k : Nat} {b t : Int} (h : S[k]? = some (b, t)) : runO Y (S.drop k) D = if stepOk Y b t = true then runO (stepR Y b t) (S.drop (k + 1)) (if t = -1 then D ++ [b] else D) else none := by
  have hk := lt_of_get h
  rw [List.drop_eq_getElem_cons hk]
  have e : S[k] = (b, t) := by
    rw [List.getElem?_eq_getElem hk] at h
    exact Option.some.inj h
  rw [e]
  rfl
def runA (Y : List (List Int)) (S : List (Int × Int)) : Option (List (List Int) × List Int) := if goodY Y = true ∧ S.length ≤ 60 then runO Y S [] else none
def runY (Y : List (List Int)) (S : List (Int × Int)) : List (List Int) := match runA Y S with
  | none => []
  | some p => p.1
def runD (Y : List (List Int)) (S : List (Int × Int)) : List Int := match runA Y S with
  | none => []
  | some p => p.2
def runB (Y : List (List Int)) (S : List (Int × Int)) : Bool := (runA Y S).isSome
theorem run_no {Y : List (List Int)} {S : List (Int × Int)} (h : runA Y S = none) : runY Y S = [] ∧ runD Y S = [] ∧ runB Y S = false := by simp [runY, runD, runB, h]
theorem run_yes {Y : List (List Int)} {S : List (Int × Int)} {p : List (List Int) × List Int} (h : runA Y S = some p) : runY Y S = p.1 ∧ runD Y S = p.2 ∧ runB Y S = true := by simp [runY, runD, runB, h]
theorem runO_good : ∀ (S : List (Int × Int)) (Y : List (List Int)) (D : List Int) (p : List (List Int) × List Int), goodY Y = true → runO Y S D = some p → goodY p.1 = true ∧ p.2.length ≤ D.length + S.length
  | [], Y, D, p, hg, h => by
    simp [runO] at h
    subst h
    exact ⟨hg, by simp⟩
  | s :: S, Y, D, p, hg, h => by
    unfold runO at h
    split at h
    · rename_i ho
      have := runO_good S _ _ p (step_good ho) h
      refine ⟨this.1, ?_⟩
      have h2 := this.2
      rw [List.length_cons]
      split at h2
      · rw [List.length_append] at h2; simp at h2; omega
      · omega
    · cases h
theorem run_small (Y : List (List Int)) (S : List (Int × Int)) : (runY Y S).length ≤ 1048576 ∧ tot (runY Y S) ≤ 1048576 ∧ (runD Y S).length ≤ 1048576 := by
  cases h : runA Y S with
  | none => rw [(run_no h).1, (run_no h).2.1]; exact ⟨by simp, by simp [tot], by simp⟩
  | some p =>
    rw [(run_yes h).1, (run_yes h).2.1]
    unfold runA at h
    split at h
    · rename_i hc
      obtain ⟨h1, h2⟩ := runO_good _ _ _ _ hc.1 h
      have := good_small h1
      simp at h2
      omega
    · cases h
theorem owny_apart {w w' : World} {B1 h1 : Nat} {u v : Value} {Y : List (List Int)} (h : OwnY w B1 h1 v Y) (hg : w.grownBy w' u.ownBlock) (hx : ∀ b, u.ownBlock = some b → b < B1 ∨ h1 ≤ b) : OwnY w' B1 h1 v Y := by
  cases hu : u.ownBlock with
  | none =>
    rw [hu] at hg
    exact h.span (Span.of_grown (lo := 0) (hi := 0) hg fun k hk => by cases hk) (.inr (Nat.zero_le _))
  | some b =>
    rw [hu] at hg
    exact h.span (Span.of_grown (lo := b) (hi := b + 1) hg fun k hk => by cases hk; omega) (by have := hx b hu; omega)
/-- A yard that the call has made, apart from a list that it appends to. -/
def YO (wr : World) (lo : Nat) (v : Value) (Y : List (List Int)) (u : Value) : Prop := ∃ B hi, lo ≤ B ∧ OwnY wr B hi v Y ∧ ∀ b, u.ownBlock = some b → b < B ∨ hi ≤ b
theorem YO.below {wr w' : World} {lo : Nat} {v u : Value} {Y : List (List Int)} (h : YO wr lo v Y u) (hb : Below wr.heap.size wr w') : YO w' lo v Y u := by
  obtain ⟨B, hi, h1, h2, h3⟩ := h
  exact ⟨B, hi, h1, h2.below hb, h3⟩
theorem YO.set {wr : World} {lo k i : Nat} {v x u : Value} {Y : List (List Int)} (h : YO wr lo v Y u) (hk : k < lo) : YO (wr.setCell ⟨k, i, none⟩ x) lo v Y u := by
  obtain ⟨B, hi, h1, h2, h3⟩ := h
  exact ⟨B, hi, h1, h2.span (span_set (Nat.le_refl k) (Nat.lt_succ_self k) x) (.inr (by omega)), h3⟩
theorem YO.append {wr w4 : World} {lo : Nat} {v u v' : Value} {Y : List (List Int)} (h : YO wr lo v Y u) (hg : wr.grownBy w4 u.ownBlock) (hat : v'.ownBlock = u.ownBlock ∨ v'.ownBlock = some wr.heap.size) : YO w4 lo v Y v' := by
  obtain ⟨B, hi, h1, h2, h3⟩ := h
  refine ⟨B, hi, h1, owny_apart h2 hg h3, fun b hb => ?_⟩
  rcases hat with e | e
  · exact h3 b (by rw [← e]; exact hb)
  · rw [e] at hb
    cases hb
    exact .inr h2.1
/-- The yard that a call was given, or one that it has made. -/
def YSt (v0 : Value) (Y0 : List (List Int)) (wr : World) (lo : Nat) (v : Value) (Y : List (List Int)) (u : Value) : Prop := (v = v0 ∧ Y = Y0) ∨ YO wr lo v Y u
theorem YSt.below {v0 : Value} {Y0 : List (List Int)} {wr w' : World} {lo : Nat} {v u : Value} {Y : List (List Int)} (h : YSt v0 Y0 wr lo v Y u) (hb : Below wr.heap.size wr w') : YSt v0 Y0 w' lo v Y u := h.imp id fun h => h.below hb
theorem YSt.append {v0 : Value} {Y0 : List (List Int)} {wr w4 : World} {lo : Nat} {v u v' : Value} {Y : List (List Int)} (h : YSt v0 Y0 wr lo v Y u) (hg : wr.grownBy w4 u.ownBlock) (hat : v'.ownBlock = u.ownBlock ∨ v'.ownBlock = some wr.heap.size) : YSt v0 Y0 w4 lo v Y v' := h.imp id fun h => h.append hg hat
theorem YSt.read {v0 : Value} {Y0 : List (List Int)} {w wr : World} {lo : Nat} {v u : Value} {Y : List (List Int)} (h : YSt v0 Y0 wr lo v Y u) (h0 : YL w v0 Y0) (hb : Below w.heap.size w wr) : YL wr v Y := by
  rcases h with ⟨rfl, rfl⟩ | ⟨B, hi, h1, h2, _⟩
  · exact h0.below hb
  · exact h2.yl
/-- Steps were run: the yard that was given or an own one, the numbers that were removed, and whether it worked. -/
def SeenRun (v0 : Value) (Y0 : List (List Int)) (w : World) (R : List (List Int)) (D : List Int) (ok : Bool) (e : Ending) (w' : World) : Prop :=
  ∃ a c ua uc, e = .returned (.tuple #[.agg #[.slice a R.length c], .slice ua D.length uc, .bool ok]) ∧ ((.slice a R.length c = v0 ∧ R = Y0) ∨ ∃ B hi, w.heap.size ≤ B ∧ OwnY w' B hi (.slice a R.length c) R) ∧ w'.ownsRow w.heap.size 3 1 (.slice ua D.length uc) D.length (intV D) ∧ Below w.heap.size w w'
end Go.Proofs.Ytmkejgbbgknalaa
