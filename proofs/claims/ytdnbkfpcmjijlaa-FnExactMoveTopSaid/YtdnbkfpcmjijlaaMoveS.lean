/-
  What spec.MoveTop returns. No statement of the seat by itself.
-/
import Derived.Test.YtdnbkfpcmjijlaaMoveO
import Derived.Deep.RegionHeld3
namespace Go.Proofs.Ytdnbkfpcmjijlaa
open Go.RowKit

set_option maxRecDepth 100000 in
set_option maxHeartbeats 8000000 in
theorem specMove_any (v : Value) (Y : List (List Int)) (f t : Int) (h1 : Y.length ≤ 1048576) (h2 : tot Y ≤ 1048576) (w : World) (h : YdR w v Y) :
    Calls Try.prog 33 #[v, .int .i64 f, .int .i64 t] w (RetYI w (moveR Y f t) (moveX Y f t) (okM Y f t)) := by
  obtain ⟨v0, rfl, hv⟩ := h
  have hb0 := below_one w (.cells #[v0] 26)
  have hb1 := below_one (w.alloc (.cells #[v0] 26)) (.cells #[.slice none 0 0] 26)
  have HB := Lib.hid (hb0.trans (hb1.mono (by simp)))
  have HA := Lib.hid ((Box1.new w v0 26).below hb1)
  have HR := Lib.hid (Box1.new (w.alloc (.cells #[v0] 26)) (.slice none 0 0) 26)
  have hRb := heap_alloc_new (w.alloc (.cells #[v0] 26)) (.cells #[.slice none 0 0] 26)
  rw [show (w.alloc (.cells #[v0] 26)).heap.size = w.heap.size + 1 by simp] at HR hRb
  have J := Lib.hid hRb
  have HV := Lib.hid hv
  have c0 := HA.out.2
  have HF := Lib.hid (l5Stack_any (.agg #[v0]) Y f h1 h2 _ ⟨v0, rfl, hv.below HB.out⟩)
  have HG : Hid (∀ W, Below w.heap.size w W → Calls Try.prog 50 #[.agg #[v0], .int .i64 t] W (BoolP W (okS Y t))) := Lib.hid fun W hb => l5Stack_any _ Y t h1 h2 W ⟨v0, rfl, HV.out.below hb⟩
  clear hb0 hb1 hRb hv
  cases hf : okS Y f with
  | false =>
    have HX := Lib.hid (move_no (Y := Y) (f := f) (t := t) fun ⟨e, _⟩ => by rw [hf] at e; cases e)
    rw [hf] at HF
    clear hf h1 h2
    go_enter Try.func33, Try.ntmps33
    go_wp2_with fail
    refine HF.out.mono ?_
    rintro e w1 ⟨rfl, hb⟩
    have BZ := Lib.hid (HB.out.trans (hb.mono HB.out.size))
    have jz := (hb.block _ HR.out.1).trans J.out
    clear hb c0
    have z0 : w1.cell? ⟨w.heap.size + 1, 0, none⟩ = some (.slice none 0 0) := cell_of jz rfl
    have f0 : ∀ i, w1.frozen? ⟨w.heap.size + 1, i, none⟩ = false := fun i => free_of jz
    have e7 := World.cell?_setCell_same _ _ (.slice none 0 0) z0
    clear jz
    go_wp2_with fail
    refine bodyPost_ret (v := .tuple #[.agg #[.slice none 0 0], .int .i64 0, .bool false]) (by simp [results, Try.results33, go_sem, e7]) rfl ?_
    rw [HX.out.1, HX.out.2.1, HX.out.2.2]
    exact ⟨none, 0, rfl, OwnY.nil _ _ _ (Nat.le_refl _), BZ.out.setCell (p := ⟨w.heap.size + 1, 0, none⟩) (by show w.heap.size ≤ w.heap.size + 1; omega) _⟩
  | true =>
    rw [hf] at HF
    cases ht : okS Y t with
    | false =>
      have HX := Lib.hid (move_no (Y := Y) (f := f) (t := t) fun ⟨_, e, _⟩ => by rw [ht] at e; cases e)
      rw [ht] at HG
      clear hf ht h1 h2
      go_enter Try.func33, Try.ntmps33
      go_wp2_with fail
      refine HF.out.mono ?_
      rintro e w1 ⟨rfl, hb⟩
      have B1 := Lib.hid (HB.out.trans (hb.mono HB.out.size))
      have A1 := Lib.hid (HA.out.below hb)
      have J1 := Lib.hid ((hb.block _ HR.out.1).trans J.out)
      have hzR1 : w.heap.size + 1 < w1.heap.size := by have := hb.size; have := HR.out.1; omega
      have c1 := A1.out.2
      clear hb c0
      go_wp2_with fail
      refine (HG.out _ B1.out).mono ?_
      rintro e w2 ⟨rfl, hb⟩
      have BZ := Lib.hid (B1.out.trans (hb.mono B1.out.size))
      have jz := (hb.block _ hzR1).trans J1.out
      clear hb c1
      have z0 : w2.cell? ⟨w.heap.size + 1, 0, none⟩ = some (.slice none 0 0) := cell_of jz rfl
      have f0 : ∀ i, w2.frozen? ⟨w.heap.size + 1, i, none⟩ = false := fun i => free_of jz
      have e7 := World.cell?_setCell_same _ _ (.slice none 0 0) z0
      clear jz
      go_wp2_with fail
      refine bodyPost_ret (v := .tuple #[.agg #[.slice none 0 0], .int .i64 0, .bool false]) (by simp [results, Try.results33, go_sem, e7]) rfl ?_
      rw [HX.out.1, HX.out.2.1, HX.out.2.2]
      exact ⟨none, 0, rfl, OwnY.nil _ _ _ (Nat.le_refl _), BZ.out.setCell (p := ⟨w.heap.size + 1, 0, none⟩) (by show w.heap.size ≤ w.heap.size + 1; omega) _⟩
    | true =>
      rw [ht] at HG
      obtain ⟨hg, hf0, hf1⟩ := okS_iff.1 hf
      obtain ⟨_, ht0, ht1⟩ := okS_iff.1 ht
      obtain ⟨i, rfl⟩ : ∃ i : Nat, f = (i : Int) := ⟨f.toNat, by omega⟩
      obtain ⟨j, rfl⟩ : ∃ j : Nat, t = (j : Int) := ⟨t.toNat, by omega⟩
      by_cases hij : i = j
      · have HX := Lib.hid (move_no (Y := Y) (f := (i : Int)) (t := (j : Int)) fun ⟨_, _, e, _⟩ => e (by rw [hij]))
        have hb : ((i : Int) == (j : Int)) = true := by rw [beq_iff_eq, hij]
        clear hf ht h1 h2 hg hf0 hf1 ht0 ht1 hij
        go_enter Try.func33, Try.ntmps33
        go_wp2_with fail
        refine HF.out.mono ?_
        rintro e w1 ⟨rfl, hb⟩
        have B1 := Lib.hid (HB.out.trans (hb.mono HB.out.size))
        have A1 := Lib.hid (HA.out.below hb)
        have J1 := Lib.hid ((hb.block _ HR.out.1).trans J.out)
        have hzR1 : w.heap.size + 1 < w1.heap.size := by have := hb.size; have := HR.out.1; omega
        have c1 := A1.out.2
        clear hb c0
        go_wp2_with fail
        refine (HG.out _ B1.out).mono ?_
        rintro e w2 ⟨rfl, hb⟩
        have BZ := Lib.hid (B1.out.trans (hb.mono B1.out.size))
        have jz := (hb.block _ hzR1).trans J1.out
        clear hb c1
        have z0 : w2.cell? ⟨w.heap.size + 1, 0, none⟩ = some (.slice none 0 0) := cell_of jz rfl
        have f0 : ∀ i, w2.frozen? ⟨w.heap.size + 1, i, none⟩ = false := fun i => free_of jz
        have e7 := World.cell?_setCell_same _ _ (.slice none 0 0) z0
        clear jz
        go_wp2_with fail
        refine bodyPost_ret (v := .tuple #[.agg #[.slice none 0 0], .int .i64 0, .bool false]) (by simp [results, Try.results33, go_sem, e7]) rfl ?_
        rw [HX.out.1, HX.out.2.1, HX.out.2.2]
        exact ⟨none, 0, rfl, OwnY.nil _ _ _ (Nat.le_refl _), BZ.out.setCell (p := ⟨w.heap.size + 1, 0, none⟩) (by show w.heap.size ≤ w.heap.size + 1; omega) _⟩
      · have hbf : ((i : Int) == (j : Int)) = false := by rw [beq_eq_false_iff_ne]; omega
        obtain ⟨a0, cap0, rfl, hc⟩ := HV.out
        obtain ⟨g0, off0, rfl, hg0, hcc⟩ := hc (by omega)
        obtain ⟨l, hl⟩ := get_at (Y := Y) rfl (show i < Y.length by omega)
        obtain ⟨lt, hlt⟩ := get_at (Y := Y) rfl (show j < Y.length by omega)
        obtain ⟨u0, hu0, hil⟩ := hcc i l hl
        obtain ⟨u1, hu1, hil1⟩ := hcc j lt hlt
        obtain ⟨a2, c2_, rfl, hrow⟩ := hil
        obtain ⟨a3, c3, rfl⟩ := hil1.form
        obtain ⟨n, hn⟩ : ∃ n, Y.length = n := ⟨_, rfl⟩
        obtain ⟨M, hM⟩ : ∃ M, l.length = M := ⟨_, rfl⟩
        obtain ⟨p, hp⟩ : ∃ p, lt.length = p := ⟨_, rfl⟩
        have hin : i < n := by omega
        have hjn : j < n := by omega
        have hn6 : n ≤ 6 := by have := (good_small hg).1; omega
        have hM4 : M ≤ 4 := by have := (goodY_iff.1 hg).2.2.1 l (List.mem_of_getElem? hl); omega
        have hp4 : p ≤ 4 := by have := (goodY_iff.1 hg).2.2.1 lt (List.mem_of_getElem? hlt); omega
        have HU := Lib.hid hu0
        have HT := Lib.hid hu1
        rw [hM] at HU
        rw [hp] at HT
        by_cases hM0 : M = 0
        · have HX := Lib.hid (move_no (Y := Y) (f := (i : Int)) (t := (j : Int)) fun ⟨_, _, _, e, _⟩ => e (by simp only [Int.toNat_natCast, getD_of hl]; omega))
          rw [hn] at HF HA HB HR J c0 HG
          rw [hn]
          subst hM0
          clear hf ht h1 h2 hg hf0 hf1 ht0 ht1 hij hc hcc hl hlt hu0 hu1 hrow hil1 hn hM hp
          go_enter Try.func33, Try.ntmps33
          go_wp2_with fail
          refine HF.out.mono ?_
          rintro e w1 ⟨rfl, hb⟩
          have B1 := Lib.hid (HB.out.trans (hb.mono HB.out.size))
          have A1 := Lib.hid (HA.out.below hb)
          have J1 := Lib.hid ((hb.block _ HR.out.1).trans J.out)
          have hzR1 : w.heap.size + 1 < w1.heap.size := by have := hb.size; have := HR.out.1; omega
          have c1 := A1.out.2
          clear hb c0
          go_wp2_with fail
          refine (HG.out _ B1.out).mono ?_
          rintro e w2 ⟨rfl, hb⟩
          have BZ := Lib.hid (B1.out.trans (hb.mono B1.out.size))
          have jz := (hb.block _ hzR1).trans J1.out
          have c2 := (A1.out.below hb).2
          have hu2 := (BZ.out.cell (p := ⟨g0, off0 + i, none⟩) hg0).trans HU.out
          have ht2 := (BZ.out.cell (p := ⟨g0, off0 + j, none⟩) hg0).trans HT.out
          clear hb c1
          have z0 : w2.cell? ⟨w.heap.size + 1, 0, none⟩ = some (.slice none 0 0) := cell_of jz rfl
          have f0 : ∀ i, w2.frozen? ⟨w.heap.size + 1, i, none⟩ = false := fun i => free_of jz
          have e7 := World.cell?_setCell_same _ _ (.slice none 0 0) z0
          clear jz
          go_wp2_with fail
          refine bodyPost_ret (v := .tuple #[.agg #[.slice none 0 0], .int .i64 0, .bool false]) (by simp [results, Try.results33, go_sem, e7]) rfl ?_
          rw [HX.out.1, HX.out.2.1, HX.out.2.2]
          exact ⟨none, 0, rfl, OwnY.nil _ _ _ (Nat.le_refl _), BZ.out.setCell (p := ⟨w.heap.size + 1, 0, none⟩) (by show w.heap.size ≤ w.heap.size + 1; omega) _⟩
        · have hM0b : ((M : Int) == 0) = false := by rw [beq_eq_false_iff_ne]; omega
          by_cases hp0 : p = 4
          · have HX := Lib.hid (move_no (Y := Y) (f := (i : Int)) (t := (j : Int)) fun ⟨_, _, _, _, e⟩ => e (by simp only [Int.toNat_natCast, getD_of hlt]; omega))
            rw [hn] at HF HA HB HR J c0 HG
            rw [hn]
            subst hp0
            clear hf ht h1 h2 hg hf0 hf1 ht0 ht1 hij hc hcc hl hlt hu0 hu1 hrow hil1 hn hM hp
            go_enter Try.func33, Try.ntmps33
            go_wp2_with fail
            refine HF.out.mono ?_
            rintro e w1 ⟨rfl, hb⟩
            have B1 := Lib.hid (HB.out.trans (hb.mono HB.out.size))
            have A1 := Lib.hid (HA.out.below hb)
            have J1 := Lib.hid ((hb.block _ HR.out.1).trans J.out)
            have hzR1 : w.heap.size + 1 < w1.heap.size := by have := hb.size; have := HR.out.1; omega
            have c1 := A1.out.2
            clear hb c0
            go_wp2_with fail
            refine (HG.out _ B1.out).mono ?_
            rintro e w2 ⟨rfl, hb⟩
            have BZ := Lib.hid (B1.out.trans (hb.mono B1.out.size))
            have jz := (hb.block _ hzR1).trans J1.out
            have c2 := (A1.out.below hb).2
            have hu2 := (BZ.out.cell (p := ⟨g0, off0 + i, none⟩) hg0).trans HU.out
            have ht2 := (BZ.out.cell (p := ⟨g0, off0 + j, none⟩) hg0).trans HT.out
            clear hb c1
            have z0 : w2.cell? ⟨w.heap.size + 1, 0, none⟩ = some (.slice none 0 0) := cell_of jz rfl
            have f0 : ∀ i, w2.frozen? ⟨w.heap.size + 1, i, none⟩ = false := fun i => free_of jz
            have e7 := World.cell?_setCell_same _ _ (.slice none 0 0) z0
            clear jz
            go_wp2_with fail
            refine bodyPost_ret (v := .tuple #[.agg #[.slice none 0 0], .int .i64 0, .bool false]) (by simp [results, Try.results33, go_sem, e7]) rfl ?_
            rw [HX.out.1, HX.out.2.1, HX.out.2.2]
            exact ⟨none, 0, rfl, OwnY.nil _ _ _ (Nat.le_refl _), BZ.out.setCell (p := ⟨w.heap.size + 1, 0, none⟩) (by show w.heap.size ≤ w.heap.size + 1; omega) _⟩
          · have hp0b : ((p : Int) == 4) = false := by rw [beq_eq_false_iff_ne]; omega
            obtain ⟨m, rfl⟩ : ∃ m, M = m + 1 := ⟨M - 1, by omega⟩
            obtain ⟨x, hx, hsp⟩ := last_split hM
            obtain ⟨g2, off2, rfl, hg2, hcc2⟩ := hrow (by omega)
            have HXc := Lib.hid (hcc2 m x hx)
            have hok : okM Y (i : Int) (j : Int) = true := okM_iff.2 ⟨hf, ht, by omega, by simp only [Int.toNat_natCast, getD_of hl]; omega, by simp only [Int.toNat_natCast, getD_of hlt]; omega⟩
            have e : topL l = x := by
              unfold topL
              rw [if_neg (by omega), show l.length - 1 = m by omega]
              simp [List.getD, hx]
            have HX : Hid (moveR Y (i : Int) (j : Int) = putY (Y.set i (l.take m)) j x ∧ moveX Y (i : Int) (j : Int) = x ∧ okM Y (i : Int) (j : Int) = true) := Lib.hid (by
              refine ⟨?_, ?_, hok⟩
              · rw [(move_yes hok).1]
                simp only [Int.toNat_natCast, moveZ, getD_of hl, e]
                rw [show l.length - 1 = m by omega]
              · rw [(move_yes hok).2]
                simp only [Int.toNat_natCast, getD_of hl, e])
            have HMv := Lib.hid (fun W hb => l5Move_any (.agg #[.slice (some ⟨g0, off0, none⟩) Y.length cap0]) Y i j m p l lt x h1 h2 (good_small hg).1 hl hM (by omega) hx hij hlt hp hp4 W ⟨_, rfl, HV.out.below hb⟩)
            unfold NewYd at HMv
            have HPL : Hid ((putY (Y.set i (l.take m)) j x).length = n) := Lib.hid (by rw [putY_len, List.length_set]; exact hn)
            rw [HPL.out] at HMv
            obtain ⟨M, hMm⟩ : ∃ M, m + 1 = M := ⟨_, rfl⟩
            rw [hMm] at HU hM0b
            have hsub : (M : Int) - 1 = (m : Int) := by omega
            have hmM : m < M := by omega
            rw [hn] at HF HA HB HR J c0 HG HMv
            rw [hn]
            have ng0 : ¬ g0 = w.heap.size + 1 := by omega
            have ng2 : ¬ g2 = w.heap.size + 1 := by omega
            clear hf ht h1 h2 hg hf0 hf1 ht0 ht1 hij hc hcc hl hlt hu0 hu1 hrow hil1 hn hM hp hok hcc2 hx hsp e hM0
            go_enter Try.func33, Try.ntmps33
            go_wp2_with fail
            refine HF.out.mono ?_
            rintro e w1 ⟨rfl, hb⟩
            have B1 := Lib.hid (HB.out.trans (hb.mono HB.out.size))
            have A1 := Lib.hid (HA.out.below hb)
            have J1 := Lib.hid ((hb.block _ HR.out.1).trans J.out)
            have hzR1 : w.heap.size + 1 < w1.heap.size := by have := hb.size; have := HR.out.1; omega
            have c1 := A1.out.2
            clear hb c0
            go_wp2_with fail
            refine (HG.out _ B1.out).mono ?_
            rintro e w2 ⟨rfl, hb⟩
            have BZ := Lib.hid (B1.out.trans (hb.mono B1.out.size))
            have jz := (hb.block _ hzR1).trans J1.out
            have c2 := (A1.out.below hb).2
            have hu2 := (BZ.out.cell (p := ⟨g0, off0 + i, none⟩) hg0).trans HU.out
            have ht2 := (BZ.out.cell (p := ⟨g0, off0 + j, none⟩) hg0).trans HT.out
            clear hb c1
            have J2 := Lib.hid jz
            have hx2 := (BZ.out.cell (p := ⟨g2, off2 + m, none⟩) hg2).trans HXc.out
            have hzR2 : w.heap.size + 1 < w2.heap.size := (Array.getElem?_eq_some_iff.1 J2.out).1
            have A2 := Lib.hid (show w.heap.size < w2.heap.size by omega)
            clear jz
            go_wp2_with fail
            have hw1 : IntKind.i64.wrap ((M : Int) - 1) = (m : Int) := by rw [IntWalk.i64_in _ (by omega)]; exact hsub
            have hw2 : IntKind.i64.wrap (m : Int) = (m : Int) := IntWalk.i64_in _ (by omega)
            have hmI : (m : Int) < (M : Int) := by omega
            go_region_held3 (fun W => W.cell? ⟨w.heap.size, 0, none⟩ = some (.slice (some ⟨g0, off0, none⟩) n cap0) ∧ W.cell? ⟨g0, off0 + i, none⟩ = some (.slice (some ⟨g2, off2, none⟩) M c2_) ∧ W.cell? ⟨g2, off2 + m, none⟩ = some (.int .i64 x)) (first | exact ⟨(set_cell_ne _ _ _ _ _ _ (by omega)).trans x0, (set_cell_ne _ _ _ _ _ _ ng0).trans x1, (set_cell_ne _ _ _ _ _ _ ng2).trans x2⟩ | go_keep) (first | (go_at_call 63; refine (HMv.out _ BZ.out.drew).mono ?_; rintro e w' ⟨a9, c9, rfl, ho, hb⟩; have O9 := Lib.hid ho; have B9 := Lib.hid (BZ.out.drew.trans (hb.mono BZ.out.drew.size)); have x0 := (hb.cell (p := ⟨w.heap.size, 0, none⟩) A2.out).trans c2; have x1 := (hb.cell (p := ⟨g0, off0 + i, none⟩) (Nat.lt_trans hg0 A2.out)).trans hu2; have x2 := (hb.cell (p := ⟨g2, off2 + m, none⟩) (Nat.lt_trans hg2 A2.out)).trans hx2; have j9 := (hb.block _ hzR2).trans J2.out; have z9 : w'.cell? ⟨w.heap.size + 1, 0, none⟩ = some (.slice none 0 0) := cell_of j9 rfl; have f9 : ∀ i, w'.frozen? ⟨w.heap.size + 1, i, none⟩ = false := fun i => free_of j9; have e9 := World.cell?_setCell_same _ _ (.slice a9 n c9) z9; have HZB := Lib.hid (show w.heap.size + 2 ≤ w2.drew.heap.size from hzR2); clear ho hb j9))
            have hS : Span (w.heap.size + 1) (w.heap.size + 2) w' (w'.setCell ⟨w.heap.size + 1, 0, none⟩ (.slice a9 n c9)) := span_set (Nat.le_refl _) (by omega) _
            have HF9 := Lib.hid (And.intro ((O9.out.span hS (.inr HZB.out)).mono (B' := w.heap.size) (hi' := (w'.setCell ⟨w.heap.size + 1, 0, none⟩ (.slice a9 n c9)).heap.size) (by have := HZB.out; omega) (by simp) (Nat.le_refl _)) (B9.out.setCell (p := ⟨w.heap.size + 1, 0, none⟩) (by show w.heap.size ≤ w.heap.size + 1; omega) (.slice a9 n c9)))
            clear hS x0 x1 x2 c2 hu2 hx2 ht2 hw1 hw2
            go_wp2_with fail
            refine bodyPost_ret (v := .tuple #[.agg #[.slice a9 n c9], .int .i64 x, .bool true]) (by simp [results, Try.results33, go_sem, e9]) rfl ?_
            rw [HX.out.1, HX.out.2.1, HX.out.2.2]
            exact ⟨a9, c9, by rw [HPL.out], by rw [HPL.out]; exact HF9.out.1, HF9.out.2⟩
end Go.Proofs.Ytdnbkfpcmjijlaa
