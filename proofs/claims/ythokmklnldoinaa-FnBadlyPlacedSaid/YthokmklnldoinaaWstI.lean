/-
  What the two WorstBox return. No statement of the seat by itself.
-/
import Derived.Test.YthokmklnldoinaaWstM
namespace Go.Proofs.Ythokmklnldoinaa
open Go.RowKit

set_option maxRecDepth 100000 in
set_option maxHeartbeats 8000000 in
theorem countSmallerBelow_any (v : Value) (Y : List (List Int)) (x : Int) (B hi : Nat) (i k : Nat) (l : List Int) (hgd : goodY Y = true) (hl : Y[i]? = some l) (hx : l[k]? = some x) (w : World) (h : YdO w B hi v Y) :
    Calls Try.prog 46 #[v, .int .i64 x] w (RetP w (.int .i64 (bel (l.take k) x : Nat))) := by
  obtain ⟨v0, rfl, hv⟩ := h
  have BA := Lib.hid (Box1.new w v0 26)
  have B0 := Lib.hid (below_one w (.cells #[v0] 26))
  have hsm := good_small hgd
  have hPl := place_only hgd hl hx
  have HF : Hid (∀ W, Below w.heap.size w W → Calls Try.prog 20 #[.agg #[v0], .int .i64 x] W (RetP W (.tuple #[.int .i64 (i : Int), .int .i64 (k : Int), .bool true]))) := Lib.hid fun W hb => by
    have := implPlace_any (.agg #[v0]) Y x (by omega) (by omega) W ⟨v0, rfl, hv.yl.below hb⟩
    rw [plV_some (by rw [plO_good hgd]; exact hPl)] at this
    exact this
  have hi0 := lt_of_get hl
  have hk0 := lt_of_get hx
  obtain ⟨g, cap, rfl⟩ := hv.rows (by omega)
  obtain ⟨u, hu, -, hown, -⟩ := hv.cell hl
  obtain ⟨a2, c2, rfl⟩ := own_form hown
  have hgh : g < w.heap.size := by
    obtain ⟨_, _, us, ho, _⟩ := hv
    exact (ho.lt g rfl).2
  obtain ⟨n, hn⟩ : ∃ n, Y.length = n := ⟨_, rfl⟩
  obtain ⟨m, hm⟩ : ∃ m, l.length = m := ⟨_, rfl⟩
  have HM := Lib.hid hm
  have hkc : k ≤ c2 := by
    rcases hown.2 with ⟨e, _⟩ | ⟨g', cap', cur, e, _, _, h5, _⟩
    · injection e with e1 e2 e3
      omega
    · injection e with e1 e2 e3
      subst e3; omega
  have HI : Hid (IL w (.slice a2 m c2) l) := Lib.hid (by rw [← hm]; exact il_of_owns hown)
  have h4 : m ≤ 4 := by rw [← hm]; exact (goodY_iff.1 hgd).2.2.1 l (List.mem_of_getElem? hl)
  rw [hn] at hi0 hsm BA B0 HF ⊢
  rw [hm] at hk0 hu
  have HU := Lib.hid hu
  have H0 : Hid (0 = bel (l.take 0) x) := Lib.hid rfl
  clear hu hown hv hPl hgd hl hx hm hn
  have c0 := BA.out.2
  go_enter Try.func46, Try.ntmps46
  go_wp2_with fail
  refine (HF.out _ B0.out).mono ?_
  rintro e w1 ⟨rfl, hb⟩
  have c1 := (BA.out.below hb).2
  have B1 := Lib.hid (B0.out.trans (hb.mono B0.out.size))
  have hu1 := (B1.out.cell (p := ⟨g, i, none⟩) hgh).trans HU.out
  clear hb c0
  have hkI : (k : Int) ≤ (c2 : Int) := by omega
  obtain ⟨g2, off2, e2, hg2, hcc⟩ : ∃ g2 off2, a2 = some ⟨g2, off2, none⟩ ∧ g2 < w.heap.size ∧ ∀ (j : Nat) (x : Int), l[j]? = some x → w.cell? ⟨g2, off2 + j, none⟩ = some (.int .i64 x) := by
    obtain ⟨a', c', e, hh⟩ := HI.out
    injection e with e1 e2 e3
    subst e1
    exact hh (by have := HM.out; omega)
  subst e2
  have HCC := Lib.hid hcc
  clear hcc
  go_wp2_with fail
  clear c1 hu1
  go_loop [8, 26] (fun m i => ∃ q : Nat, q ≤ k ∧ i = .int .i64 q ∧ ∃ c : Nat, m = .int .i64 c ∧ c ≤ q ∧ Hid (c = bel (l.take q) x)) (fun _ i => k - (intOf i).toNat)
  case atStart => exact ⟨0, Nat.zero_le _, rfl, 0, rfl, Nat.le_refl _, H0⟩
  case round =>
    obtain ⟨q, hq, rfl, c, rfl, hcq, HB⟩ := hrel
    by_cases hlt : q < k
    · obtain ⟨y, hy⟩ := get_at HM.out (show q < m by omega)
      have a1 := (B1.out.cell (p := ⟨g2, off2 + q, none⟩) hg2).trans (HCC.out q y hy)
      by_cases hyx : y < x
      · have HB2 : Hid (c + 1 = bel (l.take (q + 1)) x) := Lib.hid (by rw [HB.out, bel_yes hy hyx])
        clear hy
        go_wp2_with fail
        go_round
        case rel => exact ⟨q + 1, by omega, by go_num, c + 1, by go_num, by omega, HB2⟩
        case measure => simp [intOf]; omega
      · have HB2 : Hid (c = bel (l.take (q + 1)) x) := Lib.hid (by rw [HB.out, bel_no hy hyx])
        clear hy
        go_wp2_with fail
        go_round
        case rel => exact ⟨q + 1, by omega, by go_num, c, rfl, by omega, HB2⟩
        case measure => simp [intOf]; omega
    · obtain rfl : q = k := by omega
      go_wp2_with fail
      go_ret
      exact ⟨by rw [← HB.out]; rfl, B1.out⟩

set_option maxRecDepth 100000 in
set_option maxHeartbeats 8000000 in
theorem implWst_any (v : Value) (Y : List (List Int)) (B hi : Nat) (h1 : Y.length ≤ 1048576) (h2 : tot Y ≤ 1048576) (w : World) (h : YdO w B hi v Y) :
    Calls Try.prog 17 #[v] w (RetP w (.tuple #[.int .i64 (wstR Y).1, .int .i64 ((wstR Y).2 : Nat), .bool (decide (0 < (wstR Y).2))])) := by
  obtain ⟨v0, rfl, hv⟩ := h
  have BA := Lib.hid (Box1.new w v0 26)
  have B0 := Lib.hid (below_one w (.cells #[v0] 26))
  have c0 := BA.out.2
  have HF := Lib.hid (implBad_any (.agg #[v0]) Y B hi h1 h2 _ ⟨v0, rfl, hv.below B0.out⟩)
  have HV : Hid (∀ W, Below w.heap.size w W → OwnY W B hi v0 Y) := Lib.hid fun W hb => hv.below hb
  have HW := Lib.hid (wstV_all Y)
  have hbd : (badR Y).length ≤ 24 := by
    unfold badR
    split
    · rename_i hg
      obtain ⟨_, h6, h4, _⟩ := goodY_iff.1 hg
      have := badYL_len Y h4 Y.length (Nat.le_refl _)
      rw [srtI_len]; omega
    · simp
  obtain ⟨n, hn⟩ : ∃ n, (badR Y).length = n := ⟨_, rfl⟩
  have HN := Lib.hid hn
  clear hv
  have H0 : Hid ((0, 0) = wstV Y 0) := Lib.hid rfl
  go_enter Try.func17, Try.ntmps17
  go_wp2_with fail
  refine HF.out.mono ?_
  rintro e w1 ⟨a1, cc1, rfl, ho1, hb⟩
  have A1 := Lib.hid (BA.out.below hb)
  have B1 := Lib.hid (B0.out.trans (hb.mono B0.out.size))
  have HI : Hid (∀ W, Below w1.heap.size w1 W → IL W (.slice a1 n cc1) (badR Y)) := Lib.hid fun W hb => by
    have := ho1.read.below hb
    rw [hn] at this
    exact this
  rw [hn] at hbd ⊢
  have HW2 : Hid (wstR Y = wstV Y n) := Lib.hid (by rw [← HW.out, HN.out])
  clear hb c0 ho1 hn
  go_wp2_with fail
  go_loopw [5, 6, 19] (fun b m i wr => ∃ k : Nat, k ≤ n ∧ i = .int .i64 k ∧ (∃ (x : Int) (c : Nat), b = .int .i64 x ∧ m = .int .i64 (c : Int) ∧ Hid ((x, c) = wstV Y k)) ∧ Hid (Box1 wr w.heap.size v0) ∧ Hid (Below w.heap.size w wr) ∧ Hid (Below w1.heap.size w1 wr)) (fun _ _ i _ => n - (intOf i).toNat)
  case atStart => exact ⟨0, Nat.zero_le _, rfl, ⟨0, 0, rfl, rfl, H0⟩, A1, B1, Lib.hid (Below.refl _ _)⟩
  case round =>
    obtain ⟨k, hk, rfl, ⟨b, c, rfl, rfl, HS⟩, HA, HB, HB1⟩ := hrel
    rename World => wr
    by_cases hlt : k < n
    · obtain ⟨a', c', e, hcc⟩ := HI.out wr HB1.out
      obtain ⟨g, off, e2, hg', hcl⟩ := hcc (by have := HN.out; omega)
      injection e with e1 e4 e5
      subst e2
      subst e1
      clear e4 e5
      obtain ⟨x, hx⟩ := get_at HN.out hlt
      have o1 : wr.cell? ⟨g, off + k, none⟩ = some (.int .i64 x) := hcl k x hx
      obtain ⟨hgd, i, q, l, hl, hq, hcn⟩ := badR_at (List.mem_of_getElem? hx)
      have HC := Lib.hid (countSmallerBelow_any (.agg #[v0]) Y x B hi i q l hgd hl hq wr ⟨v0, rfl, HV.out wr HB.out⟩)
      rw [hcn] at HC
      have HSt := Lib.hid (wstV_step hx)
      have c0 := HA.out.2
      by_cases hcx : c < cnt8 Y x
      · have HS2 : Hid ((x, cnt8 Y x) = wstV Y (k + 1)) := Lib.hid (by rw [HSt.out, ← HS.out, stepV, if_pos hcx])
        generalize cnt8 Y x = z at *
        clear hcc hcl hx hgd hl hq hcn
        go_wp2_with fail
        refine HC.out.mono ?_
        rintro e w2 ⟨rfl, hb⟩
        have A2 := Lib.hid (HA.out.below hb)
        have B2 := Lib.hid (HB.out.trans (hb.mono HB.out.size))
        have B12 := Lib.hid (HB1.out.trans (hb.mono HB1.out.size))
        clear hb c0 o1
        go_wp2_with fail
        exact ⟨⟨k + 1, by omega, by go_num, ⟨x, z, rfl, rfl, HS2⟩, A2, B2, B12⟩, by simp [intOf]; omega⟩
      · have HS2 : Hid ((b, c) = wstV Y (k + 1)) := Lib.hid (by rw [HSt.out, ← HS.out, stepV, if_neg hcx])
        generalize cnt8 Y x = z at *
        clear hcc hcl hx hgd hl hq hcn
        go_wp2_with fail
        refine HC.out.mono ?_
        rintro e w2 ⟨rfl, hb⟩
        have A2 := Lib.hid (HA.out.below hb)
        have B2 := Lib.hid (HB.out.trans (hb.mono HB.out.size))
        have B12 := Lib.hid (HB1.out.trans (hb.mono HB1.out.size))
        clear hb c0 o1
        go_wp2_with fail
        exact ⟨⟨k + 1, by omega, by go_num, ⟨b, c, rfl, rfl, HS2⟩, A2, B2, B12⟩, by simp [intOf]; omega⟩
    · obtain rfl : k = n := by omega
      have HX : Hid (wstR Y = (b, c)) := Lib.hid (by rw [HW2.out, ← HS.out])
      go_wp2_with fail
      go_ret3
      exact ⟨by rw [HX.out]; rfl, HB.out⟩

set_option maxRecDepth 100000 in
set_option maxHeartbeats 16000000 in
theorem specWst_any (v : Value) (Y : List (List Int)) (h1 : Y.length ≤ 1048576) (h2 : tot Y ≤ 1048576) (w : World) (h : YdR w v Y) :
    Calls Try.prog 18 #[v] w (RetP w (.tuple #[.int .i64 (wstR Y).1, .int .i64 ((wstR Y).2 : Nat), .bool (decide (0 < (wstR Y).2))])) := by
  obtain ⟨v0, rfl, hv⟩ := h
  have BA := Lib.hid (Box1.new w v0 26)
  have B0 := Lib.hid (below_one w (.cells #[v0] 26))
  have c0 := BA.out.2
  have HF := Lib.hid (good_spec (.agg #[v0]) Y h1 h2 _ ⟨v0, rfl, hv.below B0.out⟩)
  obtain ⟨a, cap, rfl, hc⟩ := hv
  obtain ⟨n, hn⟩ : ∃ n, Y.length = n := ⟨_, rfl⟩
  have HN := Lib.hid hn
  have HC := Lib.hid hc
  rw [hn] at h1 BA B0 HF c0
  clear hc
  cases hg : goodY Y with
  | false =>
    have HX : Hid (wstR Y = (0, 0)) := Lib.hid (by simp [wstR, hg])
    rw [hg] at HF
    rw [HX.out, hn]
    clear hg hn
    go_enter Try.func18, Try.ntmps18
    go_wp2_with fail
    refine HF.out.mono ?_
    rintro e w1 ⟨rfl, hb⟩
    have B1 := Lib.hid (B0.out.trans (hb.mono B0.out.size))
    clear hb c0
    go_wp2_with fail
    go_ret3
    exact ⟨rfl, B1.out⟩
  | true =>
    have HX : Hid (wstR Y = wstY Y n) := Lib.hid (by simp [wstR, hg, hn])
    have HG := Lib.hid hg
    have h66 := (goodY_iff.1 hg).2.1
    have H0 : Hid ((0, 0) = wstY Y 0) := Lib.hid rfl
    rw [hg] at HF
    rw [hn] at h66 ⊢
    clear hg hn
    go_enter Try.func18, Try.ntmps18
    go_wp2_with fail
    refine HF.out.mono ?_
    rintro e w1 ⟨rfl, hb⟩
    have A1 := Lib.hid (BA.out.below hb)
    have B1 := Lib.hid (B0.out.trans (hb.mono B0.out.size))
    clear hb c0
    go_wp2_with fail
    go_loopw [5, 6, 7] (fun b m i wr => ∃ k : Nat, k ≤ n ∧ i = .int .i64 k ∧ (∃ (x : Int) (c : Nat), b = .int .i64 x ∧ m = .int .i64 (c : Int) ∧ Hid ((x, c) = wstY Y k)) ∧ Hid (Box1 wr w.heap.size (.slice a n cap)) ∧ Hid (Below w.heap.size w wr)) (fun _ _ i _ => n - (intOf i).toNat)
    case atStart => exact ⟨0, Nat.zero_le _, rfl, ⟨0, 0, rfl, rfl, H0⟩, A1, B1⟩
    case round =>
      obtain ⟨i, hi, rfl, ⟨b, c, rfl, rfl, HS⟩, HA, HB⟩ := hrel
      rename World => wo
      have c0 := HA.out.2
      by_cases hlt : i < n
      · obtain ⟨l, hl⟩ := get_at HN.out hlt
        obtain ⟨g, off, rfl, hg, hcc⟩ := HC.out (by have := HN.out; omega)
        obtain ⟨u, hu', hil⟩ := hcc i l hl
        have hl4 := (goodY_iff.1 HG.out).2.2.1 l (List.mem_of_getElem? hl)
        have hu := (HB.out.cell (p := ⟨g, off + i, none⟩) hg).trans hu'
        have HIL := Lib.hid hil
        obtain ⟨a2, c2, rfl, hrow⟩ := hil
        have HU := Lib.hid hu'
        have HR := Lib.hid hrow
        have HL := Lib.hid hl
        have HSn := Lib.hid (wstY_succ hl)
        obtain ⟨m, hm⟩ : ∃ m, l.length = m := ⟨_, rfl⟩
        have HM := Lib.hid hm
        rw [hm] at hl4 hu HU HIL HSn
        have HS0 : Hid ((b, c) = wstK l (wstY Y i) 0) := Lib.hid HS.out
        clear hcc hl hrow hm hu'
        go_wp2_with fail
        go_loopw [5, 6, 8] (fun b m2 kk wr => ∃ k : Nat, k ≤ m ∧ kk = .int .i64 k ∧ (∃ (x : Int) (c : Nat), b = .int .i64 x ∧ m2 = .int .i64 (c : Int) ∧ Hid ((x, c) = wstK l (wstY Y i) k)) ∧ Hid (Box1 wr w.heap.size (.slice (some ⟨g, off, none⟩) n cap)) ∧ Hid (Below w.heap.size w wr)) (fun _ _ kk _ => m - (intOf kk).toNat)
        case atStart => exact ⟨0, Nat.zero_le _, rfl, ⟨b, c, rfl, rfl, HS0⟩, HA, HB⟩
        case round =>
          clear hu c0 HS HS0 HA HB
          obtain ⟨k, hk, rfl, ⟨b, c, rfl, rfl, HS⟩, HA, HB⟩ := hrel
          rename World => wr
          have c0 := HA.out.2
          have hu := (HB.out.cell (p := ⟨g, off + i, none⟩) hg).trans HU.out
          by_cases hkm : k < m
          · obtain ⟨g2, off2, rfl, hg2, hcc2⟩ := HR.out (by have := HM.out; omega)
            obtain ⟨x, hx⟩ := get_at HM.out hkm
            have hxc := (HB.out.cell (p := ⟨g2, off2 + k, none⟩) hg2).trans (hcc2 k x hx)
            have HXc := Lib.hid (hcc2 k x hx)
            have HBl := Lib.hid (l8Below_any _ l k x (by have := HM.out; omega) hx wr (HIL.out.below HB.out))
            have HSt := Lib.hid (wstK_step (s := wstY Y i) hx)
            generalize bel (l.take k) x = z at *
            rw [← HS.out] at HSt
            clear hcc2 hx
            go_wp2_with fail
            refine HBl.out.mono ?_
            rintro e w2 ⟨rfl, hb⟩
            have A2 := Lib.hid (HA.out.below hb)
            have B2 := Lib.hid (HB.out.trans (hb.mono HB.out.size))
            have c1 := A2.out.2
            have hu1 := (B2.out.cell (p := ⟨g, off + i, none⟩) hg).trans HU.out
            have hxc1 := (B2.out.cell (p := ⟨g2, off2 + k, none⟩) hg2).trans HXc.out
            clear hb c0 hu hxc
            by_cases d1 : c < z
            · have HS2 : Hid ((x, z) = wstK l (wstY Y i) (k + 1)) := Lib.hid (by rw [HSt.out, stepW, if_pos (.inl d1)])
              have d1I : (c : Int) < (z : Int) := by omega
              go_wp2_with fail
              exact ⟨⟨k + 1, by omega, by go_num, ⟨x, z, rfl, rfl, HS2⟩, A2, B2⟩, by simp [intOf]; omega⟩
            · have d1I : ¬ (c : Int) < (z : Int) := by omega
              by_cases d2 : z = c
              · subst d2
                by_cases d3 : 0 < z
                · have d3I : (0 : Int) < (z : Int) := by omega
                  by_cases d4 : x < b
                  · have HS2 : Hid ((x, z) = wstK l (wstY Y i) (k + 1)) := Lib.hid (by rw [HSt.out, stepW, if_pos (.inr ⟨rfl, d3, d4⟩)])
                    go_wp2_with fail
                    exact ⟨⟨k + 1, by omega, by go_num, ⟨x, z, rfl, rfl, HS2⟩, A2, B2⟩, by simp [intOf]; omega⟩
                  · have HS2 : Hid ((b, z) = wstK l (wstY Y i) (k + 1)) := Lib.hid (by rw [HSt.out, stepW, if_neg (by rintro (h | ⟨_, _, h⟩); exact d1 h; exact d4 h)])
                    go_wp2_with fail
                    exact ⟨⟨k + 1, by omega, by go_num, ⟨b, z, rfl, rfl, HS2⟩, A2, B2⟩, by simp [intOf]; omega⟩
                · have d3I : ¬ (0 : Int) < (z : Int) := by omega
                  have HS2 : Hid ((b, z) = wstK l (wstY Y i) (k + 1)) := Lib.hid (by rw [HSt.out, stepW, if_neg (by rintro (h | ⟨_, h, _⟩); exact d1 h; exact d3 h)])
                  go_wp2_with fail
                  exact ⟨⟨k + 1, by omega, by go_num, ⟨b, z, rfl, rfl, HS2⟩, A2, B2⟩, by simp [intOf]; omega⟩
              · have d2I : ((z : Int) == (c : Int)) = false := beq_eq_false_iff_ne.2 (by omega)
                have HS2 : Hid ((b, c) = wstK l (wstY Y i) (k + 1)) := Lib.hid (by rw [HSt.out, stepW, if_neg (by rintro (h | ⟨h, _, _⟩); exact d1 h; exact d2 h)])
                go_wp2_with fail
                exact ⟨⟨k + 1, by omega, by go_num, ⟨b, c, rfl, rfl, HS2⟩, A2, B2⟩, by simp [intOf]; omega⟩
          · obtain rfl : k = m := by omega
            go_wp2_with fail
            refine ⟨⟨i + 1, by omega, by go_num, ⟨b, c, rfl, rfl, by rw [HSn.out]; exact HS⟩, HA, HB⟩, by simp [intOf]; omega⟩
      · obtain rfl : i = n := by omega
        have HX2 : Hid (wstR Y = (b, c)) := Lib.hid (by rw [HX.out, ← HS.out])
        go_wp2_with fail
        go_ret3
        exact ⟨by rw [HX2.out]; rfl, HB.out⟩
end Go.Proofs.Ythokmklnldoinaa
