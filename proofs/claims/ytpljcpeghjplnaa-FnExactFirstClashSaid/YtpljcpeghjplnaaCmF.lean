/-
  What FirstClash answers, in the program and in the reference. No statement of the seat by itself.
-/
import Derived.Test.YtpljcpeghjplnaaCmC
import Derived.StillTailTactics
namespace Go.Proofs.Ytpljcpeghjplnaa
open Go.RowKit

/-- A list of moves of some call's own. -/
def CmW (w : World) (v : Value) (S : List Mv) : Prop := ∃ B, w.ownsRow B 131 4 v S.length (flatCm S)
theorem CmW.read {w : World} {v : Value} {S : List Mv} (h : CmW w v S) : CmL w v S := by obtain ⟨B, h⟩ := h; exact CmL.of_owns h
theorem CmW.cap {w : World} {v : Value} {S : List Mv} (h : CmW w v S) : ∀ a c, v = .slice a S.length c → S.length ≤ c := fun a c e => by
  obtain ⟨B, h⟩ := h
  rcases h.2 with ⟨rfl, hz⟩ | ⟨g, cap, cur, rfl, hg, hb, hnc, _⟩
  · injection e with _ _ e3; omega
  · injection e with _ _ e3; omega
theorem NewCm.own {w w' : World} {S : List Mv} {e : Ending} (h : NewCm w S e w') : ∃ v, e = .returned v ∧ CmW w' v S ∧ Below w.heap.size w w' := by
  obtain ⟨a, c, rfl, ho, hb⟩ := h
  exact ⟨_, rfl, ⟨_, ho⟩, hb⟩
/-- The first number below n with a property, or -1. -/
def fstN (f : Nat → Bool) (n : Nat) : Int := match (List.range n).find? f with
  | some k => (k : Int)
  | none => -1
theorem fstN_some {f : Nat → Bool} {n k : Nat} (hk : k < n) (h1 : f k = true) (h2 : ∀ j, j < k → f j = false) : fstN f n = (k : Int) := by
  unfold fstN
  rw [List.find?_range_eq_some.2 ⟨h1, by simpa using hk, fun j hj => by rw [h2 j hj]; rfl⟩]
theorem fstN_none {f : Nat → Bool} {n : Nat} (h : ∀ j, j < n → f j = false) : fstN f n = -1 := by
  unfold fstN
  rw [List.find?_range_eq_none.2 fun j hj => by rw [h j hj]; rfl]
theorem row_fst (S : List Mv) (i : Nat) : fstN (fun j => clB (S.getD i (0, 0, 0, 0)) (S.getD (i + 1 + j) (0, 0, 0, 0))) (S.length - (i + 1)) = match rowC S i with
    | some k => (k : Int) - ((i : Int) + 1)
    | none => -1 := by
  cases h : rowC S i with
  | none =>
    unfold rowC at h
    rw [List.find?_range_eq_none] at h
    refine fstN_none fun j hj => ?_
    have := h (i + 1 + j) (by omega)
    simp at this
    rcases this with q | q
    · omega
    · exact q
  | some k =>
    unfold rowC at h
    rw [List.find?_range_eq_some] at h
    obtain ⟨h1, h2, h3⟩ := h
    simp at h1 h2
    have e : ((k : Int) - ((i : Int) + 1)) = ((k - (i + 1) : Nat) : Int) := by omega
    show fstN _ _ = (k : Int) - ((i : Int) + 1)
    rw [e]
    refine fstN_some (by omega) (by rw [show i + 1 + (k - (i + 1)) = k by omega]; exact h1.2) fun j hj => ?_
    have := h3 (i + 1 + j) (by omega)
    simp at this
    rcases this with q | q
    · omega
    · exact q
theorem rowC_lt {S : List Mv} {i k : Nat} (h : rowC S i = some k) : i < k ∧ k < S.length := by
  unfold rowC at h
  rw [List.find?_range_eq_some] at h
  obtain ⟨h1, h2, -⟩ := h
  simp at h1 h2
  exact ⟨h1.1, h2⟩
theorem cml_drop {w : World} {g off n k c' : Nat} {A : Option Addr} {S : List Mv} (h : ∀ (j : Nat) (s : Mv), S[j]? = some s → CmC w g (off + j * 4) s) (hg : g < w.heap.size) (hn : S.length = n) (hA : k < n → A = some ⟨g, off + k * 4, none⟩) :
    CmL w (.slice A (n - k) c') (S.drop k) := by
  have hl : (S.drop k).length = n - k := by rw [List.length_drop, hn]
  refine ⟨_, _, by rw [hl], fun h0 => ⟨g, off + k * 4, hA (by omega), hg, fun j s hs => ?_⟩⟩
  rw [List.getElem?_drop] at hs
  have := h _ _ hs
  rwa [show off + k * 4 + j * 4 = off + (k + j) * 4 by omega]

set_option maxRecDepth 100000 in
set_option maxHeartbeats 4000000 in
theorem idxC_any (v : Value) (l : List Mv) (p q r s : Int) (hl : l.length ≤ 1048576) (w : World) (h : CmL w v l) :
    Calls Try.prog 99 #[v, .func (.func 100) #[.agg #[.int .i64 p, .int .i64 q, .int .i64 r, .int .i64 s]] #[]] w fun e w' => e = .returned (.int .i64 (fstN (fun j => clB (p, q, r, s) (l.getD j (0, 0, 0, 0))) l.length)) ∧ Below w.heap.size w w' := by
  obtain ⟨n, hn⟩ : ∃ n, l.length = n := ⟨_, rfl⟩
  have HN := Lib.hid hn
  obtain ⟨a, c, rfl, hc⟩ := h
  have HC := Lib.hid hc
  rw [hn] at hl ⊢
  have HX := Lib.hid (fun (p' q' r' s' : Int) (W : World) => clashes_any p q r s p' q' r' s' W)
  have B0 := Lib.hid (Below.refl w.heap.size w)
  clear hc hn
  go_enter Try.func99, Try.ntmps99
  go_wp2_with fail
  go_loopw [8] (fun i wr => ∃ k : Nat, k ≤ n ∧ i = .int .i64 k ∧ Hid (∀ j, j < k → clB (p, q, r, s) (l.getD j (0, 0, 0, 0)) = false) ∧ Hid (Below w.heap.size w wr)) (fun i _ => n - (intOf i).toNat)
  case atStart => exact ⟨0, Nat.zero_le _, rfl, Lib.hid fun j hj => by omega, B0⟩
  case round =>
    obtain ⟨k, hk, rfl, HK, HB⟩ := hrel
    by_cases hlt : k < n
    · obtain ⟨g, off, rfl, hg, hcc⟩ := HC.out (by have := HN.out; omega)
      obtain ⟨y, hy⟩ := get_at HN.out hlt
      obtain ⟨p', q', r', s'⟩ := y
      have a0 := (HB.out.cell (p := ⟨g, off + k * 4, none⟩) hg).trans (hcc k _ hy).1
      have a1 := (HB.out.cell (p := ⟨g, off + k * 4 + 1, none⟩) hg).trans (hcc k _ hy).2.1
      have a2 := (HB.out.cell (p := ⟨g, off + k * 4 + 2, none⟩) hg).trans (hcc k _ hy).2.2.1
      have a3 := (HB.out.cell (p := ⟨g, off + k * 4 + 3, none⟩) hg).trans (hcc k _ hy).2.2.2
      have HE := Lib.hid (HX.out p' q' r' s' wr)
      have HG : Hid (l.getD k (0, 0, 0, 0) = (p', q', r', s')) := Lib.hid (by simp [List.getD, hy])
      have hki : (k : Int) < (n : Int) := by omega
      clear hcc hy hg
      simp only at a0 a1 a2 a3
      cases hcl : clB (p, q, r, s) (p', q', r', s') with
      | true =>
        rw [hcl] at HE
        have HF : Hid (fstN (fun j => clB (p, q, r, s) (l.getD j (0, 0, 0, 0))) n = (k : Int)) := Lib.hid (fstN_some hlt (by rw [HG.out]; exact hcl) HK.out)
        clear hcl
        go_wp2_with fail
        refine HE.out.mono ?_
        rintro e w1 ⟨rfl, hb⟩
        have HB2 := Lib.hid (below3 hb HB.out)
        clear hb a0 a1 a2 a3
        go_wp2_with fail
        go_ret
        exact ⟨by rw [HF.out]; rfl, HB2.out⟩
      | false =>
        rw [hcl] at HE
        have HK2 : Hid (∀ j, j < k + 1 → clB (p, q, r, s) (l.getD j (0, 0, 0, 0)) = false) := Lib.hid fun j hj => by
          by_cases e : j = k
          · subst e; rw [HG.out]; exact hcl
          · exact HK.out j (by omega)
        clear hcl
        go_wp2_with fail
        refine HE.out.mono ?_
        rintro e w1 ⟨rfl, hb⟩
        have HB2 := Lib.hid (below3 hb HB.out)
        clear hb a0 a1 a2 a3
        go_wp2_with fail
        exact ⟨⟨k + 1, by omega, by go_num, HK2, HB2⟩, by simp [intOf]; omega⟩
    · obtain rfl : k = n := by omega
      have HF : Hid (fstN (fun j => clB (p, q, r, s) (l.getD j (0, 0, 0, 0))) k = -1) := Lib.hid (fstN_none HK.out)
      go_wp2_with fail
      go_ret
      exact ⟨by rw [HF.out]; rfl, HB.out⟩

theorem fcR_no {S : List Mv} (h : goodMv S = false) : fcR S = (0, 0) := by simp [fcR, h]
theorem fcR_yes {S : List Mv} (h : goodMv S = true) : fcR S = fcP S := by simp [fcR, h]
theorem getD_mv {S : List Mv} {k : Nat} {c : Mv} (h : S[k]? = some c) : S.getD k (0, 0, 0, 0) = c := by simp [List.getD, h]

set_option maxRecDepth 100000 in
set_option maxHeartbeats 4000000 in
theorem implFc_any (v : Value) (S : List Mv) (hn : S.length ≤ 1048576) (w : World) (h : CmL w v S) (hcap : ∀ a c, v = .slice a S.length c → S.length ≤ c) :
    Calls Try.prog 55 #[v] w (RetP w (.tuple #[.int .i64 (fcR S).1, .int .i64 (fcR S).2, .bool (goodMv S)])) := by
  have HG := Lib.hid (areMoves_any v S hn w h)
  cases hg : goodMv S with
  | false =>
    rw [fcR_no hg]
    rw [hg] at HG
    clear h hg hcap
    go_enter Try.func55, Try.ntmps55
    go_wp2_with fail
    refine HG.out.mono ?_
    rintro e w1 ⟨rfl, hb⟩
    have HB := Lib.hid hb
    clear hb
    go_wp2_with fail
    go_ret3
    exact ⟨rfl, HB.out⟩
  | true =>
    rw [fcR_yes hg]
    rw [hg] at HG
    have h30 := goodMv_len hg
    have HI := Lib.hid (fun (u : Value) (k : Nat) (p q r s : Int) (W : World) (hu : CmL W u (S.drop k)) => idxC_any u (S.drop k) p q r s (by rw [List.length_drop]; omega) W hu)
    have HRow := Lib.hid (row_fst S)
    have HP := Lib.hid (fun (i k : Nat) (hi : i < S.length) (e : rowC S i = some k) (h2 : ∀ j, j < i → rowC S j = none) => fcP_some hi e h2)
    have HQ := Lib.hid (fcP_none (S := S))
    obtain ⟨a, cap, rfl, hc⟩ := h
    have hcp := hcap _ _ rfl
    obtain ⟨n, hl⟩ : ∃ n, S.length = n := ⟨_, rfl⟩
    have HN := Lib.hid hl
    have HC := Lib.hid hc
    rw [hl] at h30 HG hcp HRow HP HQ ⊢
    clear hg hc hl hcap hn
    go_enter Try.func55, Try.ntmps55
    go_wp2_with fail
    refine HG.out.mono ?_
    rintro e w1 ⟨rfl, hb⟩
    have HB := Lib.hid hb
    clear hb
    go_wp2_with fail
    go_loopw [13] (fun i wr => ∃ k : Nat, k ≤ n ∧ i = .int .i64 k ∧ Hid (∀ j, j < k → rowC S j = none) ∧ Hid (Below w.heap.size w wr)) (fun i _ => n - (intOf i).toNat)
    case atStart => exact ⟨0, Nat.zero_le _, rfl, Lib.hid fun j hj => by omega, HB⟩
    case round =>
      obtain ⟨k, hk, rfl, HK, HBw⟩ := hrel
      by_cases hlt : k < n
      · obtain ⟨g, off, rfl, hg, hcc⟩ := HC.out (by have := HN.out; omega)
        obtain ⟨y, hy⟩ := get_at HN.out hlt
        obtain ⟨p, q, r, s⟩ := y
        have a0 := (HBw.out.cell (p := ⟨g, off + k * 4, none⟩) hg).trans (hcc k _ hy).1
        have a1 := (HBw.out.cell (p := ⟨g, off + k * 4 + 1, none⟩) hg).trans (hcc k _ hy).2.1
        have a2 := (HBw.out.cell (p := ⟨g, off + k * 4 + 2, none⟩) hg).trans (hcc k _ hy).2.2.1
        have a3 := (HBw.out.cell (p := ⟨g, off + k * 4 + 3, none⟩) hg).trans (hcc k _ hy).2.2.2
        have B1 := Lib.hid (HBw.out.alloc HBw.out.size (.cells #[.int .i64 p, .int .i64 q, .int .i64 r, .int .i64 s] 131)).drew
        have HCD := Lib.hid (fun (A : Option Addr) (c' : Nat) (W : World) (hW : Below w.heap.size w W) (hA : k + 1 < n → A = some ⟨g, off + (k + 1) * 4, none⟩) => show CmL W (.slice A (n - (k + 1)) c') (S.drop (k + 1)) from (cml_drop hcc hg HN.out hA).below hW)
        have hR := HRow.out k
        rw [getD_mv hy] at hR
        have hR2 : fstN (fun j => clB (p, q, r, s) ((S.drop (k + 1)).getD j (0, 0, 0, 0))) (S.drop (k + 1)).length = match rowC S k with
            | some k' => (k' : Int) - ((k : Int) + 1)
            | none => -1 := by
          rw [List.length_drop, HN.out, ← hR]
          simp [List.getD]
        have HR2 := Lib.hid hR2
        have HIk := Lib.hid (fun (u : Value) (W : World) (hu : CmL W u (S.drop (k + 1))) => HI.out u (k + 1) p q r s W hu)
        rw [HR2.out] at HIk
        have hkw : IntKind.i64.wrap ((k : Int) + 1) = (k : Int) + 1 := by rw [IntKind.wrap_i64]; omega
        have hkn1 : (k : Int) + 1 ≤ (n : Int) := by omega
        have hkn4 : k + 1 ≤ n := by omega
        have hkn5 : (n : Int) ≤ (cap : Int) := by omega
        have hkn2 : (k : Int) + 1 ≤ (cap : Int) := by omega
        have hkn3 : (0 : Int) ≤ (k : Int) + 1 := by omega
        clear hcc hy hR hR2 hg
        simp only at a0 a1 a2 a3
        cases hrow : rowC S k with
        | none =>
          rw [hrow] at HIk
          have HK2 : Hid (∀ j, j < k + 1 → rowC S j = none) := Lib.hid fun j hj => by
            by_cases e : j = k
            · subst e; exact hrow
            · exact HK.out j (by omega)
          clear hrow
          go_wp2_with fail
          go_region_law (go_simp; go_at_call 99; refine (HIk.out _ _ (HCD.out _ _ _ B1.out (by intro hlh; simp <;> omega))).mono ?_; rintro e w5 ⟨rfl, hb⟩; have HB5 := Lib.hid (below3 hb B1.out); clear hb)
          all_goals
            go_wp2_with fail
            exact ⟨⟨k + 1, by omega, by go_num, HK2, HB5⟩, by simp [intOf]; omega⟩
        | some j =>
          obtain ⟨hj1, hj2⟩ := rowC_lt hrow
          rw [HN.out] at hj2
          rw [hrow] at HIk
          have HF := Lib.hid (HP.out k j hlt hrow HK.out)
          have hj0 : (0 : Int) ≤ (j : Int) - ((k : Int) + 1) := by omega
          have hj3 : (k : Int) + 1 + ((j : Int) - ((k : Int) + 1)) = (j : Int) := by omega
          simp only at HIk
          obtain ⟨z, hz⟩ : ∃ z : Int, z = (j : Int) - ((k : Int) + 1) := ⟨_, rfl⟩
          rw [← hz] at HIk hj0 hj3
          have hz2 : z ≤ 30 := by omega
          clear hrow hz
          go_wp2_with fail
          go_region_law (go_simp; go_at_call 99; refine (HIk.out _ _ (HCD.out _ _ _ B1.out (by intro hlh; simp <;> omega))).mono ?_; rintro e w5 ⟨rfl, hb⟩; have HB5 := Lib.hid (below3 hb B1.out); clear hb)
          all_goals
            go_wp2_with fail
            go_ret3
            exact ⟨by rw [HF.out]; simp, HB5.out⟩
      · obtain rfl : k = n := by omega
        have HF := Lib.hid (HQ.out HK.out)
        go_wp2_with fail
        go_ret3
        exact ⟨by rw [HF.out]; rfl, HBw.out⟩

set_option maxRecDepth 100000 in
set_option maxHeartbeats 4000000 in
theorem specFc_any (v : Value) (S : List Mv) (hn : S.length ≤ 1048576) (w : World) (h : CmL w v S) :
    Calls Try.prog 53 #[v] w (RetP w (.tuple #[.int .i64 (fcR S).1, .int .i64 (fcR S).2, .bool (goodMv S)])) := by
  have HG := Lib.hid (l13Moves_any v S hn w h)
  cases hg : goodMv S with
  | false =>
    rw [fcR_no hg]
    rw [hg] at HG
    clear h hg
    go_enter Try.func53, Try.ntmps53
    go_wp2_with fail
    refine HG.out.mono ?_
    rintro e w1 ⟨rfl, hb⟩
    have HB := Lib.hid hb
    clear hb
    go_wp2_with fail
    go_ret3
    exact ⟨rfl, HB.out⟩
  | true =>
    rw [fcR_yes hg]
    rw [hg] at HG
    have h30 := goodMv_len hg
    have HP := Lib.hid (fun (i k : Nat) (hi : i < S.length) (e : rowC S i = some k) (h2 : ∀ j, j < i → rowC S j = none) => fcP_some hi e h2)
    have HQ := Lib.hid (fcP_none (S := S))
    have HRs := Lib.hid (fun (i k : Nat) (hk : k < S.length) (h1 : i < k) (h2 : clB (S.getD i (0, 0, 0, 0)) (S.getD k (0, 0, 0, 0)) = true) (h3 : ∀ j, i < j → j < k → clB (S.getD i (0, 0, 0, 0)) (S.getD j (0, 0, 0, 0)) = false) => rowC_some hk h1 h2 h3)
    have HRn := Lib.hid (fun (i : Nat) (h : ∀ j, i < j → j < S.length → clB (S.getD i (0, 0, 0, 0)) (S.getD j (0, 0, 0, 0)) = false) => rowC_none h)
    obtain ⟨a, cap, rfl, hc⟩ := h
    obtain ⟨n, hl⟩ : ∃ n, S.length = n := ⟨_, rfl⟩
    have HN := Lib.hid hl
    have HC := Lib.hid hc
    rw [hl] at h30 HG HP HQ HRs HRn ⊢
    clear hg hc hl hn
    go_enter Try.func53, Try.ntmps53
    go_wp2_with fail
    refine HG.out.mono ?_
    rintro e w1 ⟨rfl, hb⟩
    have HB := Lib.hid hb
    clear hb
    go_wp2_with fail
    go_loopw [5] (fun i wr => ∃ k : Nat, k ≤ n ∧ i = .int .i64 k ∧ Hid (∀ j, j < k → rowC S j = none) ∧ Hid (Below w.heap.size w wr)) (fun i _ => n - (intOf i).toNat)
    case atStart => exact ⟨0, Nat.zero_le _, rfl, Lib.hid fun j hj => by omega, HB⟩
    case round =>
      obtain ⟨k, hk, rfl, HK, HBw⟩ := hrel
      by_cases hlt : k < n
      · have HI0 : Hid (∀ j, k < j → j < k + 1 → clB (S.getD k (0, 0, 0, 0)) (S.getD j (0, 0, 0, 0)) = false) := Lib.hid fun j h1 h2 => by omega
        go_wp2_with fail
        go_loopw [6] (fun i wr => ∃ j : Nat, k < j ∧ j ≤ n ∧ i = .int .i64 j ∧ Hid (∀ i, k < i → i < j → clB (S.getD k (0, 0, 0, 0)) (S.getD i (0, 0, 0, 0)) = false) ∧ Hid (Below w.heap.size w wr)) (fun i _ => n - (intOf i).toNat)
        case atStart => exact ⟨k + 1, by omega, by omega, by go_num, HI0, HBw⟩
        case round =>
          obtain ⟨j, hj1, hj2, rfl, HI, HBi⟩ := hrel
          by_cases hjn : j < n
          · obtain ⟨g, off, rfl, hg, hcc⟩ := HC.out (by have := HN.out; omega)
            obtain ⟨x, hx⟩ := get_at HN.out hlt
            obtain ⟨p, q, r, s⟩ := x
            obtain ⟨y, hy⟩ := get_at HN.out hjn
            obtain ⟨p', q', r', s'⟩ := y
            have a0 := (HBi.out.cell (p := ⟨g, off + k * 4, none⟩) hg).trans (hcc k _ hx).1
            have a1 := (HBi.out.cell (p := ⟨g, off + k * 4 + 1, none⟩) hg).trans (hcc k _ hx).2.1
            have a2 := (HBi.out.cell (p := ⟨g, off + k * 4 + 2, none⟩) hg).trans (hcc k _ hx).2.2.1
            have a3 := (HBi.out.cell (p := ⟨g, off + k * 4 + 3, none⟩) hg).trans (hcc k _ hx).2.2.2
            have b0 := (HBi.out.cell (p := ⟨g, off + j * 4, none⟩) hg).trans (hcc j _ hy).1
            have b1 := (HBi.out.cell (p := ⟨g, off + j * 4 + 1, none⟩) hg).trans (hcc j _ hy).2.1
            have b2 := (HBi.out.cell (p := ⟨g, off + j * 4 + 2, none⟩) hg).trans (hcc j _ hy).2.2.1
            have b3 := (HBi.out.cell (p := ⟨g, off + j * 4 + 3, none⟩) hg).trans (hcc j _ hy).2.2.2
            have HE := Lib.hid (fun W => l13Clash_any p q r s p' q' r' s' W)
            have gx := getD_mv hx
            have gy := getD_mv hy
            have hki : (k : Int) < (n : Int) := by omega
            have hji : (j : Int) < (n : Int) := by omega
            have HBd := Lib.hid HBi.out.drew
            clear hcc hx hy hg
            simp only at a0 a1 a2 a3 b0 b1 b2 b3
            cases hcl : clB (p, q, r, s) (p', q', r', s') with
            | true =>
              rw [hcl] at HE
              have HF := Lib.hid (HP.out k j hlt (HRs.out k j hjn hj1 (by rw [gx, gy]; exact hcl) HI.out) HK.out)
              clear hcl gx gy
              go_wp2_with fail
              go_region_law (go_simp; go_at_call 96; refine (HE.out _).mono ?_; rintro e w5 ⟨rfl, hb⟩; have HB5 := Lib.hid (below3 hb HBd.out); clear hb)
              all_goals
                go_wp2_with fail
                go_ret3
                exact ⟨by rw [HF.out]; first | done | rfl, HB5.out⟩
            | false =>
              rw [hcl] at HE
              have HI2 : Hid (∀ i, k < i → i < j + 1 → clB (S.getD k (0, 0, 0, 0)) (S.getD i (0, 0, 0, 0)) = false) := Lib.hid fun i h1 h2 => by
                by_cases e : i = j
                · subst e; rw [gx, gy]; exact hcl
                · exact HI.out i h1 (by omega)
              clear hcl gx gy
              go_wp2_with fail
              go_region_law (go_simp; go_at_call 96; refine (HE.out _).mono ?_; rintro e w5 ⟨rfl, hb⟩; have HB5 := Lib.hid (below3 hb HBd.out); clear hb)
              all_goals
                go_wp2_with fail
                exact ⟨⟨j + 1, by omega, by omega, by go_num, HI2, HB5⟩, by simp [intOf]; omega⟩
          · obtain rfl : j = n := by omega
            have HK2 : Hid (∀ i, i < k + 1 → rowC S i = none) := Lib.hid fun i hi => by
              by_cases e : i = k
              · subst e; exact HRn.out i HI.out
              · exact HK.out i (by omega)
            go_wp2_with fail
            exact ⟨⟨k + 1, by omega, by go_num, HK2, HBi⟩, by simp [intOf]; omega⟩
      · obtain rfl : k = n := by omega
        have HF := Lib.hid (HQ.out HK.out)
        go_wp2_with fail
        go_ret3
        exact ⟨by rw [HF.out]; rfl, HBw.out⟩
end Go.Proofs.Ytpljcpeghjplnaa
