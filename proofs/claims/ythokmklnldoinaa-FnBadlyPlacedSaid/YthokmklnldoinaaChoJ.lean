/-
  What impl.ChooseStack returns. No statement of the seat by itself.
-/
import Derived.Test.YthokmklnldoinaaChoI
namespace Go.Proofs.Ythokmklnldoinaa
open Go.RowKit

set_option maxRecDepth 100000 in
set_option maxHeartbeats 16000000 in
theorem implCho_any (v : Value) (Y : List (List Int)) (x : Int) (h1 : Y.length ≤ 1048576) (h2 : tot Y ≤ 1048576) (w : World) (h : YdR w v Y) :
    Calls Try.prog 22 #[v, .int .i64 x] w (RetP w (.tuple #[.int .i64 (choR Y x), .bool (choB Y x)])) := by
  obtain ⟨v0, rfl, hv⟩ := h
  have BA := Lib.hid (Box1.new w v0 26)
  have B0 := Lib.hid (below_one w (.cells #[v0] 26))
  have HA : Hid (∀ a c W, Below w.heap.size w W → W.ownsRow w.heap.size 3 1 (.slice a 1 c) 1 (intV [x]) → Calls Try.prog 51 #[.agg #[v0], .slice a 1 c] W (BoolP W (askP Y [x]))) := Lib.hid fun a c W hb ho =>
    areArrivals_any _ _ Y [x] h1 h2 (by simp) W ⟨v0, rfl, hv.below hb⟩ ⟨_, ho⟩
  have c0 := BA.out.2
  have O1 := Lib.hid (own_one (w.alloc (.cells #[v0] 26)) x)
  have B1 := Lib.hid (B0.out.alloc B0.out.size (.cells #[.int .i64 x] 3))
  have A1 := Lib.hid (BA.out.below (below_one _ (.cells #[.int .i64 x] 3)))
  have hz : (w.alloc (.cells #[v0] 26)).heap.size = w.heap.size + 1 := by simp
  rw [hz] at O1
  have HA1 := Lib.hid (HA.out _ _ _ B1.out (O1.out.mono (Nat.le_succ _)))
  clear hz
  cases ha : askP Y [x] with
  | false =>
    have HX1 := Lib.hid (choB_ask ha)
    have HX2 := Lib.hid (choR_no HX1.out)
    rw [ha] at HA1
    clear ha hv
    go_enter Try.func22, Try.ntmps22
    go_wp2_with fail
    refine HA1.out.mono ?_
    rintro e w1 ⟨rfl, hb⟩
    have B2 := Lib.hid (B1.out.trans (hb.mono B1.out.size))
    clear hb c0
    go_wp2_with fail
    go_ret2
    exact ⟨by rw [HX1.out, HX2.out]; rfl, B2.out⟩
  | true =>
    have HAs := Lib.hid ha
    have hgd := (askP_iff.1 ha).1
    rw [ha] at HA1
    obtain ⟨a, cap, rfl, hc⟩ := hv
    obtain ⟨n, hn⟩ : ∃ n, Y.length = n := ⟨_, rfl⟩
    have HN := Lib.hid hn
    have h6 := (goodY_iff.1 hgd).2.1
    have H4 := Lib.hid (goodY_iff.1 hgd).2.2.1
    have HX : Hid (choY x Y = choI x Y n) := Lib.hid (by rw [choY, hn])
    rw [hn] at h6 c0 hc A1 B0 B1 HA1
    have HRow : Hid (∃ g off, a = some ⟨g, off, none⟩ ∧ g < w.heap.size ∧ ∀ (j : Nat) (l : List Int), Y[j]? = some l → ∃ u, w.cell? ⟨g, off + j, none⟩ = some u ∧ (∃ a2 c2, u = .slice a2 l.length c2) ∧ ∀ W, Below w.heap.size w W → Calls Try.prog 53 #[u] W fun e w' => e = .returned (.int .i64 (earL l)) ∧ W = w') := Lib.hid (by
      have hn1 := (goodY_iff.1 hgd).1
      obtain ⟨g, off, e, hg, hcc⟩ := hc (by omega)
      refine ⟨g, off, e, hg, fun j l hl => ?_⟩
      obtain ⟨u, hu, hil⟩ := hcc j l hl
      have h4 := H4.out l (List.mem_of_getElem? hl)
      exact ⟨u, hu, hil.form, fun W hb => earliestIn_any u l (by omega) W (hil.below hb)⟩)
    obtain ⟨g, off, rfl, hg, -⟩ := HRow.out
    rw [hn]
    clear ha hgd hc hn HA BA
    go_enter Try.func22, Try.ntmps22
    go_wp2_with fail
    refine HA1.out.mono ?_
    rintro e w1 ⟨rfl, hb⟩
    have B2 := Lib.hid (B1.out.trans (hb.mono B1.out.size))
    have A2 := Lib.hid (A1.out.below hb)
    have c1 := A2.out.2
    clear hb c0
    go_wp2_with fail
    clear c1
    have H0 : Hid (choI x Y 0 = none) := Lib.hid rfl
    go_loopw [6, 17] (fun c i wr => ∃ (k : Nat) (s : Option Nat), k ≤ n ∧ i = .int .i64 k ∧ c = .int .i64 (pkO s) ∧ Hid (choI x Y k = s) ∧ Hid (Box1 wr w.heap.size (.slice (some ⟨g, off, none⟩) n cap)) ∧ Hid (Below w.heap.size w wr)) (fun _ i _ => n - (intOf i).toNat)
    case atStart => exact ⟨0, none, Nat.zero_le _, rfl, rfl, H0, A2, B2⟩
    case round =>
      obtain ⟨k, s, hk, rfl, rfl, HS, HA, HB⟩ := hrel
      rename World => wr
      have c0 := HA.out.2
      by_cases hlt : k < n
      · obtain ⟨l, hl⟩ := get_at HN.out hlt
        obtain ⟨g', off', e, -, hrows⟩ := HRow.out
        injection e with e
        injection e with e1 e2 e3
        subst e1
        subst e2
        obtain ⟨u, hu', ⟨a2, c2, rfl⟩, hE⟩ := hrows k l hl
        have hu := (HB.out.cell (p := ⟨g, off + k, none⟩) hg).trans hu'
        have HU := Lib.hid hu'
        have HE := Lib.hid hE
        have h4 := H4.out l (List.mem_of_getElem? hl)
        clear hE hu'
        by_cases hm : l.length = 4
        · have HS2 : Hid (choI x Y (k + 1) = s) := Lib.hid (by rw [choI_full hl hm]; exact HS.out)
          rw [hm] at hu
          clear hrows hl hm
          go_wp2_with fail
          exact ⟨⟨k + 1, s, by omega, by go_num, rfl, HS2, HA, HB⟩, by simp [intOf]; omega⟩
        · have HS1 := Lib.hid (choI_open (n := x) hl hm)
          have hmI : (((l.length : Nat) : Int) == 4) = false := beq_eq_false_iff_ne.2 (by omega)
          generalize l.length = m at *
          generalize earL l = z at *
          rw [HS.out] at HS1
          cases s with
          | none =>
            have HS2 : Hid (choI x Y (k + 1) = some k) := Lib.hid (by rw [HS1.out]; rfl)
            have hb0 : decide ((-1 : Int) < 0) = true := by decide
            rw [show pkO none = -1 from rfl]
            clear hrows hl hm
            go_wp2_with fail
            go_quiet (fail)
            go_wp2_with fail
            exact ⟨⟨k + 1, some k, by omega, by go_num, rfl, HS2, Lib.hid (HA.out.below (below_drewN (Below.refl _ _) _)), Lib.hid (below_drewN HB.out _)⟩, by simp [intOf]; omega⟩
          | some b =>
            have hbn : b < n := by have := (choI_lt x Y k b HS.out).1; omega
            obtain ⟨lb, hlb⟩ := get_at HN.out hbn
            obtain ⟨ub, hub', -, hEb⟩ := hrows b lb hlb
            have hub := (HB.out.cell (p := ⟨g, off + b, none⟩) hg).trans hub'
            have HEb := Lib.hid hEb
            have HYb := Lib.hid (earY_of hlb)
            have hb1 : decide ((b : Int) < 0) = false := by rw [decide_eq_false_iff_not]; omega
            have hb2 : (b : Int) < (n : Int) := by omega
            generalize earL lb = zb at *
            have HSu := Lib.hid (suits_any x z zb)
            rw [show pkO (some b) = (b : Int) from rfl]
            cases hs : suits x z zb with
            | true =>
              have HS2 : Hid (choI x Y (k + 1) = some k) := Lib.hid (by rw [HS1.out, suitO, HYb.out, if_pos hs])
              rw [hs] at HSu
              clear hrows hl hm hlb hub' hEb hs
              go_wp2_with fail
              go_quiet (first | (go_at_call_of 53 (Value.slice a2 m c2); exact Calls.quiet_of_same (flip8 (HE.out _ (below_drewN HB.out _)))) | (go_at_call_of 53 (ub); exact Calls.quiet_of_same (flip8 (HEb.out _ (below_drewN HB.out _)))) | (go_at_call 52; exact Calls.quiet_of_same (flip8 (HSu.out _))))
              go_wp2_with fail
              exact ⟨⟨k + 1, some k, by omega, by go_num, rfl, HS2, Lib.hid (HA.out.below (below_drewN (Below.refl _ _) _)), Lib.hid (below_drewN HB.out _)⟩, by simp [intOf]; omega⟩
            | false =>
              have HS2 : Hid (choI x Y (k + 1) = some b) := Lib.hid (by rw [HS1.out, suitO, HYb.out, if_neg (by simp [hs])])
              rw [hs] at HSu
              clear hrows hl hm hlb hub' hEb hs
              go_wp2_with fail
              go_quiet (first | (go_at_call_of 53 (Value.slice a2 m c2); exact Calls.quiet_of_same (flip8 (HE.out _ (below_drewN HB.out _)))) | (go_at_call_of 53 (ub); exact Calls.quiet_of_same (flip8 (HEb.out _ (below_drewN HB.out _)))) | (go_at_call 52; exact Calls.quiet_of_same (flip8 (HSu.out _))))
              go_wp2_with fail
              exact ⟨⟨k + 1, some b, by omega, by go_num, rfl, HS2, Lib.hid (HA.out.below (below_drewN (Below.refl _ _) _)), Lib.hid (below_drewN HB.out _)⟩, by simp [intOf]; omega⟩
      · obtain rfl : k = n := by omega
        cases s with
        | none =>
          have HX1 : Hid (choB Y x = false) := Lib.hid (choB_none (by rw [HX.out, HS.out]))
          have HX2 := Lib.hid (choR_no HX1.out)
          have hb0 : ((-1 : Int) < 0) := by decide
          rw [show pkO none = -1 from rfl]
          go_wp2_with fail
          go_ret2
          exact ⟨by rw [HX1.out, HX2.out]; rfl, HB.out⟩
        | some b =>
          have HX1 := Lib.hid (choB_some HAs.out (show choY x Y = some b by rw [HX.out, HS.out]))
          have hb1 : ¬ (b : Int) < 0 := by omega
          rw [show pkO (some b) = (b : Int) from rfl]
          go_wp2_with fail
          go_ret2
          exact ⟨by rw [HX1.out.1, HX1.out.2]; rfl, HB.out⟩
end Go.Proofs.Ythokmklnldoinaa
