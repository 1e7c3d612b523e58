/-
  What spec.SameYard returns. No statement of the seat by itself.
-/
import Derived.Test.YtdnbkfpcmjijlaaSameS
namespace Go.Proofs.Ytdnbkfpcmjijlaa
open Go.RowKit
theorem two_alloc2 (w : World) (o1 o2 : Obj) : Below w.heap.size w ((w.alloc o1).alloc o2) := (below_one w o1).trans ((below_one (w.alloc o1) o2).mono (below_one w o1).size)
theorem emp_le (Y : List (List Int)) : emp Y ≤ Y.length := List.countP_le_length

set_option maxRecDepth 100000 in
set_option maxHeartbeats 8000000 in
theorem specSame_any (v1 v2 : Value) (Y Z : List (List Int)) (h1 : Y.length ≤ 1048576) (h2 : tot Y ≤ 1048576) (h3 : Z.length ≤ 1048576) (h4 : tot Z ≤ 1048576) (w : World) (hy : YdR w v1 Y) (hz : YdR w v2 Z) (R : Bool) (okR : Bool) (hR : decide (Y.Perm Z) = R) (hok : (goodY Y && goodY Z) = okR) :
    Calls Try.prog 43 #[v1, v2] w (RetP w (.tuple #[.bool (okR && R), .bool okR])) := by
  obtain ⟨y0, rfl, hy⟩ := hy
  obtain ⟨z0, rfl, hz⟩ := hz
  have B0 := Lib.hid (two_alloc2 w (.cells #[y0] 26) (.cells #[z0] 26))
  have BY := Lib.hid ((Box1.new w y0 26).below (below_one (w.alloc (.cells #[y0] 26)) (.cells #[z0] 26)))
  have BZ := Lib.hid (Box1.new (w.alloc (.cells #[y0] 26)) z0 26)
  rw [show (w.alloc (.cells #[y0] 26)).heap.size = w.heap.size + 1 by simp] at BZ
  have VY : Hid (∀ W, Below w.heap.size w W → YdR W (.agg #[y0]) Y) := Lib.hid fun W hb => ⟨_, rfl, hy.below hb⟩
  have VZ : Hid (∀ W, Below w.heap.size w W → YdR W (.agg #[z0]) Z) := Lib.hid fun W hb => ⟨_, rfl, hz.below hb⟩
  have GY := Lib.hid (fun W hb => good_spec (.agg #[y0]) Y h1 h2 W (VY.out W hb))
  have GZ := Lib.hid (fun W hb => good_spec (.agg #[z0]) Z h3 h4 W (VZ.out W hb))
  have HFi := Lib.hid (fun x W hb => l5Find_any (.agg #[z0]) Z x h3 h4 W (VZ.out W hb))
  have HLY := Lib.hid (fun (j : Nat) (l : List Int) (h : Y[j]? = some l) => (show l.length ≤ 1048576 by have := row_len h; omega))
  have HLZ := Lib.hid (fun (j : Nat) (l : List Int) (h : Z[j]? = some l) => (show l.length ≤ 1048576 by have := row_len h; omega))
  obtain ⟨n, hn⟩ : ∃ n, Y.length = n := ⟨_, rfl⟩
  obtain ⟨m, hm⟩ : ∃ m, Z.length = m := ⟨_, rfl⟩
  obtain ⟨a1, cap1, ey, hc1⟩ := hy
  obtain ⟨a2, cap2, ez, hc2⟩ := hz
  rw [hn] at ey h1
  rw [hm] at ez h3
  subst ey
  subst ez
  have HN := Lib.hid hn
  have HM := Lib.hid hm
  have C1 := Lib.hid hc1
  have C2 := Lib.hid hc2
  have c1 := BY.out.2
  have c2 := BZ.out.2
  clear hc1 hc2 hn hm h2 h4
  cases e1 : goodY Y with
  | false =>
    rw [e1] at GY hok
    subst hok
    clear e1
    go_enter Try.func43, Try.ntmps43
    go_wp2_with fail
    refine (GY.out _ B0.out).mono ?_
    rintro e w1 ⟨rfl, hb⟩
    have B1 := Lib.hid (B0.out.trans (hb.mono B0.out.size))
    clear hb
    go_wp2_with fail
    go_ret2
    exact ⟨rfl, B1.out⟩
  | true =>
    rw [e1] at GY
    cases e2 : goodY Z with
    | false =>
      rw [e2] at GZ
      rw [e1, e2] at hok
      subst hok
      clear e1 e2
      go_enter Try.func43, Try.ntmps43
      go_wp2_with fail
      refine (GY.out _ B0.out).mono ?_
      rintro e w1 ⟨rfl, hb⟩
      have c1 := (BY.out.below hb).2
      have c2 := (BZ.out.below hb).2
      have B1 := Lib.hid (B0.out.trans (hb.mono B0.out.size))
      clear hb
      go_wp2_with fail
      refine (GZ.out _ B1.out).mono ?_
      rintro e w2 ⟨rfl, hb⟩
      have B2 := Lib.hid (B1.out.trans (hb.mono B1.out.size))
      clear hb
      go_wp2_with fail
      go_ret2
      exact ⟨rfl, B2.out⟩
    | true =>
      rw [e2] at GZ
      rw [e1, e2] at hok
      subst hok
      have AY := Lib.hid (apart_good e1)
      have AZ := Lib.hid (apart_good e2)
      have HR := Lib.hid hR
      have hn6 : n ≤ 6 := by have := (goodY_iff.1 e1).2.1; have := HN.out; omega
      have hm6 : m ≤ 6 := by have := (goodY_iff.1 e2).2.1; have := HM.out; omega
      have EY : emp Y ≤ 6 := by have := emp_le Y; have := HN.out; omega
      have EZ : emp Z ≤ 6 := by have := emp_le Z; have := HM.out; omega
      clear e1 e2 hR
      go_enter Try.func43, Try.ntmps43
      go_wp2_with fail
      refine (GY.out _ B0.out).mono ?_
      rintro e w1 ⟨rfl, hb⟩
      have c1 := (BY.out.below hb).2
      have c2 := (BZ.out.below hb).2
      have Z1 := Lib.hid (BY.out.below hb)
      have Z2 := Lib.hid (BZ.out.below hb)
      have B1 := Lib.hid (B0.out.trans (hb.mono B0.out.size))
      clear hb
      go_wp2_with fail
      refine (GZ.out _ B1.out).mono ?_
      rintro e w2 ⟨rfl, hb⟩
      have Z3 := Lib.hid (Z1.out.below hb)
      have Z4 := Lib.hid (Z2.out.below hb)
      have B2 := Lib.hid (B1.out.trans (hb.mono B1.out.size))
      clear hb c1 c2
      go_wp2_with fail
      go_loopw [6, 7, 8, 9] (fun e i _ _ wr => ∃ k q : Nat, k ≤ n ∧ q ≤ 6 ∧ i = .int .i64 k ∧ e = .int .i64 q ∧ Hid (q = emp (Y.take k)) ∧ Hid (Below w2.heap.size w2 wr) ∧ Hid (Found Y Z k)) (fun _ i _ _ _ => n - (intOf i).toNat)
      case atStart => exact ⟨0, 0, Nat.zero_le _, by omega, rfl, rfl, Lib.hid (by simp [emp]), Lib.hid (Below.refl _ _), Lib.hid fun t l ht => by omega⟩
      case round =>
        obtain ⟨k, q, hk, hq, rfl, rfl, HQ, HB, HK⟩ := hrel
        have K1 := Lib.hid (Z3.out.below HB.out).2
        have K2 := Lib.hid (Z4.out.below HB.out).2
        have c1 := K1.out
        have c2 := K2.out
        have BW := Lib.hid (B2.out.trans (HB.out.mono B2.out.size))
        by_cases hlt : k < n
        · obtain ⟨l, hl⟩ := get_at HN.out hlt
          obtain ⟨g1, o1, rfl, hg1, hcc⟩ := C1.out (by have := HN.out; omega)
          obtain ⟨u, hu, hil⟩ := hcc k l hl
          have d1 := (BW.out.cell (p := ⟨g1, o1 + k, none⟩) hg1).trans hu
          have hl0 := HLY.out k l hl
          have HIL := Lib.hid hil
          have HIL2 := Lib.hid hil
          obtain ⟨a3, c3, rfl, hrow⟩ := hil
          obtain ⟨M, hM⟩ : ∃ M, l.length = M := ⟨_, rfl⟩
          have HMM := Lib.hid hM
          rw [hM] at d1 hl0 hrow HIL HIL2
          have HE := Lib.hid (emp_take hl)
          have HLl := Lib.hid hl
          clear hcc hu hl hM
          by_cases h0 : M = 0
          · subst h0
            have hq7 : q + 1 ≤ 6 := by
              have h1 := HE.out
              have h2 : emp (Y.take (k + 1)) ≤ 6 := by have hh := emp_le (Y.take (k + 1)); have := HN.out; rw [List.length_take] at hh; omega
              rw [HMM.out, ← HQ.out] at h1
              simp only [beq_self_eq_true, if_true] at h1
              omega
            have HQ2 : Hid (q + 1 = emp (Y.take (k + 1))) := Lib.hid (by rw [HE.out, HMM.out, ← HQ.out]; simp)
            have HK2 := Lib.hid (found_step HK.out HLl.out (fun h => by have := HMM.out; omega))
            go_wp2_with fail
            exact ⟨⟨k + 1, q + 1, by omega, hq7, by go_num, by go_num, HQ2, HB, HK2⟩, by simp [intOf]; omega⟩
          · have HQ2 : Hid (q = emp (Y.take (k + 1))) := Lib.hid (by rw [HE.out, HMM.out, ← HQ.out]; simp [h0])
            have hne : ((M : Int) == 0) = false := by simp; omega
            have hMp : (0 : Int) < (M : Int) := by omega
            obtain ⟨g2, o2, rfl, hg2, hcc2⟩ := hrow (by omega)
            obtain ⟨x, hx⟩ := get_at HMM.out (k := 0) (by omega)
            have HX := Lib.hid hx
            have d2 := (BW.out.cell (p := ⟨g2, o2, none⟩) hg2).trans (hcc2 0 x hx)
            have HW1 := Lib.hid (show w.heap.size < wr.heap.size from (Z3.out.below HB.out).1)
            have HW2 := Lib.hid (show w.heap.size + 1 < wr.heap.size from (Z4.out.below HB.out).1)
            have HG1 := Lib.hid (Nat.lt_of_lt_of_le hg1 BW.out.size)
            have HG2 := Lib.hid (Nat.lt_of_lt_of_le hg2 BW.out.size)
            have HFx := Lib.hid (HFi.out x wr.drew BW.out.drew)
            have D1 := Lib.hid d1
            have D2 := Lib.hid d2
            have hkn : (k : Int) < (n : Int) := by omega
            have hkp : (0 : Int) ≤ (k : Int) := by omega
            have hMn : 0 < M := by omega
            clear hx hcc2 hg1 hg2
            go_wp2_with fail
            cases hp : placeY Z x with
            | none =>
              rw [findV_none hp] at HFx
              have HNo : Hid (R = false) := Lib.hid (HR.out.symm.trans (same_not HLl.out (not_place HX.out hp)))
              clear hp
              go_region_held3 (fun W => W.cell? ⟨w.heap.size, 0, none⟩ = some (.slice (some ⟨g1, o1, none⟩) n cap1) ∧ W.cell? ⟨w.heap.size + 1, 0, none⟩ = some (.slice a2 m cap2) ∧ W.cell? ⟨g1, o1 + k, none⟩ = some (.slice (some ⟨g2, o2, none⟩) M c3) ∧ W.cell? ⟨g2, o2, none⟩ = some (.int .i64 x)) (go_keep) (first | (go_at_call 62; refine HFx.out.mono ?_; rintro e w' ⟨rfl, hb⟩; have x0 := (hb.cell (p := ⟨w.heap.size, 0, none⟩) HW1.out).trans K1.out; have x1 := (hb.cell (p := ⟨w.heap.size + 1, 0, none⟩) HW2.out).trans K2.out; have x2 := (hb.cell (p := ⟨g1, o1 + k, none⟩) HG1.out).trans D1.out; have x3 := (hb.cell (p := ⟨g2, o2, none⟩) HG2.out).trans D2.out; have B9 := Lib.hid (BW.out.drew.trans (hb.mono BW.out.drew.size)); clear hb))
              clear x0 x1 x2 x3 c1 c2 d1 d2
              go_wp2_with fail
              go_quiet (fail)
              go_wp2_with fail
              go_ret2
              exact ⟨by rw [HNo.out]; rfl, below_drewN B9.out nq⟩
            | some ip =>
              obtain ⟨i, p⟩ := ip
              rw [findV_some hp] at HFx
              obtain ⟨r, hr, hat⟩ := place_inv hp
              have him : i < m := by have := lt_of_get hr; have := HM.out; omega
              have him2 : (i : Int) < (m : Int) := by omega
              have hi0 : ¬ ((i : Int) < 0) := by omega
              have hi1 : (0 : Int) ≤ (i : Int) := by omega
              obtain ⟨g3, o3, rfl, hg3, hcc3⟩ := C2.out (by have := HM.out; omega)
              obtain ⟨ur, hur, hilr⟩ := hcc3 i r hr
              have D3 := Lib.hid ((BW.out.cell (p := ⟨g3, o3 + i, none⟩) hg3).trans hur)
              have HG3 := Lib.hid (Nat.lt_of_lt_of_le hg3 BW.out.size)
              have d3 := D3.out
              have ILr := Lib.hid hilr
              have HSa := Lib.hid (fun W (hb : Below w.heap.size w W) => l1Same_any _ ur l r (HLY.out k l HLl.out) (HLZ.out i r hr) W (HIL2.out.below hb) (ILr.out.below hb))
              obtain ⟨sq, hsq⟩ : ∃ sq, decide (l = r) = sq := ⟨_, rfl⟩
              rw [hsq] at HSa
              have HSQ := Lib.hid hsq
              have HRr := Lib.hid hr
              have HAt := Lib.hid hat
              clear hcc3 hur hilr hp hsq hr hat hg3
              go_region_held3 (fun W => W.cell? ⟨w.heap.size, 0, none⟩ = some (.slice (some ⟨g1, o1, none⟩) n cap1) ∧ W.cell? ⟨w.heap.size + 1, 0, none⟩ = some (.slice (some ⟨g3, o3, none⟩) m cap2) ∧ W.cell? ⟨g1, o1 + k, none⟩ = some (.slice (some ⟨g2, o2, none⟩) M c3) ∧ W.cell? ⟨g2, o2, none⟩ = some (.int .i64 x) ∧ W.cell? ⟨g3, o3 + i, none⟩ = some ur) (go_keep) (first | (go_at_call 62; refine HFx.out.mono ?_; rintro e w' ⟨rfl, hb⟩; have x0 := (hb.cell (p := ⟨w.heap.size, 0, none⟩) HW1.out).trans K1.out; have x1 := (hb.cell (p := ⟨w.heap.size + 1, 0, none⟩) HW2.out).trans K2.out; have x2 := (hb.cell (p := ⟨g1, o1 + k, none⟩) HG1.out).trans D1.out; have x3 := (hb.cell (p := ⟨g2, o2, none⟩) HG2.out).trans D2.out; have x4 := (hb.cell (p := ⟨g3, o3 + i, none⟩) HG3.out).trans D3.out; have B9 := Lib.hid (BW.out.drew.trans (hb.mono BW.out.drew.size)); have BB := Lib.hid hb; clear hb))
              have y0 := Lib.hid x0
              have y1 := Lib.hid x1
              have y2 := Lib.hid x2
              have y4 := Lib.hid x4
              have HV1 := Lib.hid (Nat.lt_of_lt_of_le HW1.out BB.out.size)
              have HV2 := Lib.hid (Nat.lt_of_lt_of_le HW2.out BB.out.size)
              have HV3 := Lib.hid (Nat.lt_of_lt_of_le HG1.out BB.out.size)
              have HV4 := Lib.hid (Nat.lt_of_lt_of_le HG3.out BB.out.size)
              clear x3 c1 c2 d1 d2 d3
              cases sq with
              | false =>
                have HNo : Hid (R = false) := Lib.hid (HR.out.symm.trans (same_not HLl.out (not_row AZ.out HX.out HRr.out HAt.out HSQ.out)))
                go_wp2_with fail
                go_region_held3 (fun W => W.cell? ⟨w.heap.size, 0, none⟩ = some (.slice (some ⟨g1, o1, none⟩) n cap1) ∧ W.cell? ⟨w.heap.size + 1, 0, none⟩ = some (.slice (some ⟨g3, o3, none⟩) m cap2) ∧ W.cell? ⟨g1, o1 + k, none⟩ = some (.slice (some ⟨g2, o2, none⟩) M c3) ∧ W.cell? ⟨g3, o3 + i, none⟩ = some ur) (go_keep) (first | (go_at_call 64; refine (HSa.out _ B9.out.drew).mono ?_; rintro e w'' ⟨rfl, hb⟩; have x0 := (hb.cell (p := ⟨w.heap.size, 0, none⟩) HV1.out).trans y0.out; have x1 := (hb.cell (p := ⟨w.heap.size + 1, 0, none⟩) HV2.out).trans y1.out; have x2 := (hb.cell (p := ⟨g1, o1 + k, none⟩) HV3.out).trans y2.out; have x4 := (hb.cell (p := ⟨g3, o3 + i, none⟩) HV4.out).trans y4.out; have B10 := Lib.hid (B9.out.drew.trans (hb.mono B9.out.drew.size)); have BB2 := Lib.hid hb; clear hb))
                go_wp2_with fail
                go_ret2
                exact ⟨by rw [HNo.out]; rfl, B10.out⟩
              | true =>
                have HK2 := Lib.hid (found_step HK.out HLl.out (fun _ => by rw [show l = r from of_decide_eq_true HSQ.out]; exact List.mem_of_getElem? HRr.out))
                go_wp2_with fail
                go_region_held3 (fun W => W.cell? ⟨w.heap.size, 0, none⟩ = some (.slice (some ⟨g1, o1, none⟩) n cap1) ∧ W.cell? ⟨w.heap.size + 1, 0, none⟩ = some (.slice (some ⟨g3, o3, none⟩) m cap2) ∧ W.cell? ⟨g1, o1 + k, none⟩ = some (.slice (some ⟨g2, o2, none⟩) M c3) ∧ W.cell? ⟨g3, o3 + i, none⟩ = some ur) (go_keep) (first | (go_at_call 64; refine (HSa.out _ B9.out.drew).mono ?_; rintro e w'' ⟨rfl, hb⟩; have x0 := (hb.cell (p := ⟨w.heap.size, 0, none⟩) HV1.out).trans y0.out; have x1 := (hb.cell (p := ⟨w.heap.size + 1, 0, none⟩) HV2.out).trans y1.out; have x2 := (hb.cell (p := ⟨g1, o1 + k, none⟩) HV3.out).trans y2.out; have x4 := (hb.cell (p := ⟨g3, o3 + i, none⟩) HV4.out).trans y4.out; have B10 := Lib.hid (B9.out.drew.trans (hb.mono B9.out.drew.size)); have BB2 := Lib.hid hb; clear hb))
                have U1 := Lib.hid (HB.out.drew.trans (BB.out.mono HB.out.drew.size))
                have U2 := Lib.hid (U1.out.drew.trans (BB2.out.mono U1.out.drew.size))
                clear x0 x1 x2 x4
                go_wp2_with fail
                exact ⟨⟨k + 1, q, by omega, hq, by go_num, rfl, HQ2, U2, HK2⟩, by simp [intOf]; omega⟩
        · obtain rfl : k = n := by omega
          have HQE : Hid (q = emp Y) := Lib.hid (by rw [HQ.out, emp_all Y HN.out])
          have HEnd := Lib.hid (HR.out.symm.trans (same_end HN.out HM.out AY.out HK.out))
          clear c1 c2
          have c1 := K1.out
          have c2 := K2.out
          go_wp2_with fail
          go_loop [6, 10] (fun e i => ∃ j s : Nat, j ≤ m ∧ s ≤ 6 ∧ i = .int .i64 j ∧ e = .int .i64 ((q : Int) - (s : Int)) ∧ Hid (s = emp (Z.take j))) (fun _ i => m - (intOf i).toNat)
          case atStart => exact ⟨0, 0, Nat.zero_le _, by omega, rfl, by simp, Lib.hid (by simp [emp])⟩
          case round =>
            obtain ⟨j, s, hj, hs, rfl, rfl, HS⟩ := hrel
            by_cases hjm : j < m
            · obtain ⟨l, hl⟩ := get_at HM.out hjm
              obtain ⟨g3, o3, rfl, hg3, hcc⟩ := C2.out (by have := HM.out; omega)
              obtain ⟨u, hu, hil⟩ := hcc j l hl
              have d1 := (BW.out.cell (p := ⟨g3, o3 + j, none⟩) hg3).trans hu
              obtain ⟨a3, c3, rfl, -⟩ := hil
              obtain ⟨M, hM⟩ : ∃ M, l.length = M := ⟨_, rfl⟩
              have HMM := Lib.hid hM
              have hl0 := HLZ.out j l hl
              rw [hM] at d1 hl0
              have HE := Lib.hid (emp_take hl)
              clear hcc hu hl hM
              by_cases h0 : M = 0
              · subst h0
                have hs7 : s + 1 ≤ 6 := by
                  have h1 := HE.out
                  have h2 : emp (Z.take (j + 1)) ≤ 6 := by have hh := emp_le (Z.take (j + 1)); have := HM.out; rw [List.length_take] at hh; omega
                  rw [HMM.out, ← HS.out] at h1
                  simp only [beq_self_eq_true, if_true] at h1
                  omega
                have HS2 : Hid (s + 1 = emp (Z.take (j + 1))) := Lib.hid (by rw [HE.out, HMM.out, ← HS.out]; simp)
                have hwr : IntKind.i64.wrap ((q : Int) - (s : Int) - 1) = (q : Int) - ((s + 1 : Nat) : Int) := by rw [IntWalk.i64_in _ (by omega)]; omega
                go_wp2_with fail
                go_round
                case rel => exact ⟨j + 1, s + 1, by omega, hs7, by go_num, by first | rfl | exact val_i hwr | exact val_i (by omega), HS2⟩
                case measure => simp [intOf]; omega
              · have HS2 : Hid (s = emp (Z.take (j + 1))) := Lib.hid (by rw [HE.out, HMM.out, ← HS.out]; simp [h0])
                have hne : ((M : Int) == 0) = false := by simp; omega
                go_wp2_with fail
                go_round
                case rel => exact ⟨j + 1, s, by omega, hs, by go_num, rfl, HS2⟩
                case measure => simp [intOf]; omega
            · obtain rfl : j = m := by omega
              have HSE : Hid (s = emp Z) := Lib.hid (by rw [HS.out, emp_all Z HM.out])
              by_cases hz0 : q = s
              · subst hz0
                have hb0 : ((q : Int) - (q : Int) == 0) = true := by simp
                have HFin : Hid (R = decide (k = j)) := Lib.hid (by rw [HEnd.out, ← HQE.out, ← HSE.out]; simp)
                by_cases hkj : k = j
                · subst hkj
                  have HF2 : Hid (R = true) := Lib.hid (by rw [HFin.out]; simp)
                  go_wp2_with fail
                  go_ret2
                  exact ⟨by rw [HF2.out]; rfl, BW.out⟩
                · have HF2 : Hid (R = false) := Lib.hid (by rw [HFin.out]; simpa using hkj)
                  have hkb : ((k : Int) == (j : Int)) = false := by simp; omega
                  go_wp2_with fail
                  go_ret2
                  exact ⟨by rw [HF2.out]; rfl, BW.out⟩
              · have HF2 : Hid (R = false) := Lib.hid (by rw [HEnd.out, ← HQE.out, ← HSE.out]; simp [hz0])
                have hb0 : ((q : Int) - (s : Int) == 0) = false := by simp; omega
                go_wp2_with fail
                go_ret2
                exact ⟨by rw [HF2.out]; rfl, BW.out⟩
end Go.Proofs.Ytdnbkfpcmjijlaa
