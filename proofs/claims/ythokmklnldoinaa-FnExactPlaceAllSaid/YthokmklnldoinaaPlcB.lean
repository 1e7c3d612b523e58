/-
  What impl.PlaceAll returns. No statement of the seat by itself.
-/
import Derived.Test.YthokmklnldoinaaPlcA
import Derived.Test.YthokmklnldoinaaChoJ
namespace Go.Proofs.Ythokmklnldoinaa
open Go.RowKit

set_option maxRecDepth 100000 in
set_option maxHeartbeats 16000000 in
theorem implAll_any (v vo : Value) (Y : List (List Int)) (O : List Int) (h1 : Y.length ≤ 1048576) (h2 : tot Y ≤ 1048576) (h3 : O.length ≤ 1048576) (w : World) (h : YdR w v Y) (ho : OwnI w vo O) :
    Calls Try.prog 35 #[v, vo] w (RetYD w (allY Y O) (allD Y O) (allB Y O)) := by
  obtain ⟨f3, hi3, hz0, hz1, hz2⟩ := info_is info3
  obtain ⟨v0, rfl, hv⟩ := h
  obtain ⟨a, c, rfl, hc⟩ := ho.form
  obtain ⟨n, hn⟩ : ∃ n, O.length = n := ⟨_, rfl⟩
  have HN := Lib.hid hn
  have HV := Lib.hid hv
  have HI : Hid (∀ W, Below w.heap.size w W → IL W (.slice a n c) O) := Lib.hid fun W hb => by
    have := ho.read.below hb
    rw [hn] at this
    exact this
  have HG : Hid (∀ W, Below w.heap.size w W → Calls Try.prog 51 #[.agg #[v0], .slice a n c] W (BoolP W (askP Y O))) := Lib.hid fun W hb => by
    have := areArrivals_any _ _ Y O h1 h2 h3 W ⟨v0, rfl, hv.below hb⟩ (ho.below hb)
    rw [hn] at this
    exact this
  have HCp := Lib.hid (fun W hb => copyYard_any (.agg #[v0]) Y h1 h2 W ⟨v0, rfl, HV.out.below hb⟩)
  unfold NewYd at HCp
  have F0 := Lib.hid (Fr2.start w v0)
  have c0 := F0.out.c
  rw [hn] at h3 hc ⊢
  clear hv ho hn
  cases ha : askP Y O with
  | false =>
    have HQ := Lib.hid (allP_no (allP_ask ha))
    rw [ha] at HG
    clear ha
    go_enter Try.func35, Try.ntmps35
    go_wp2_with fail
    generalize (w.alloc (.cells #[v0] 26)).alloc (.cells #[.slice none 0 0] 26) = W at *
    refine (HG.out _ F0.out.bl).mono ?_
    rintro e w1 ⟨rfl, hb⟩
    have F1 := Lib.hid (F0.out.below hb)
    obtain ⟨z0, f0⟩ := (F1.out.below (below_one w1 (.cells #[] 3))).z
    have e7 := World.cell?_setCell_same _ _ (.slice none 0 0) z0
    clear hb c0
    go_wp2_with fail
    refine bodyPost_ret (v := .tuple #[.agg #[.slice none 0 0], .slice (some ⟨w1.heap.size, 0, none⟩) 0 0, .bool false]) (by simp [results, Try.results35, go_sem, e7]) rfl ?_
    rw [HQ.out.1, HQ.out.2.1, HQ.out.2.2]
    exact retD_zeroA F1.out
  | true =>
    have HA := Lib.hid ha
    obtain ⟨hgd, h5, -, -⟩ := askP_iff.1 ha
    have h66 := (goodY_iff.1 hgd).2.1
    have h11 := (goodY_iff.1 hgd).1
    obtain ⟨q, hq⟩ : ∃ q, Y.length = q := ⟨_, rfl⟩
    have HQN := Lib.hid hq
    rw [hq] at HCp h66 h11
    rw [ha] at HG
    rw [HN.out] at h5
    clear ha hgd hq
    go_enter Try.func35, Try.ntmps35
    go_wp2_with fail
    generalize (w.alloc (.cells #[v0] 26)).alloc (.cells #[.slice none 0 0] 26) = W at *
    refine (HG.out _ F0.out.bl).mono ?_
    rintro e w1 ⟨rfl, hb⟩
    have F1 := Lib.hid (F0.out.below hb)
    clear hb c0
    have c0 := F1.out.c
    go_wp2_with fail
    refine (HCp.out _ F1.out.bl).mono ?_
    rintro e w2 ⟨a2, c2, rfl, ho, hb⟩
    obtain ⟨g, cap, e⟩ := ho.rows (by have := HQN.out; omega)
    injection e with e1 e2 e3
    subst e1 e3
    have F2 := Lib.hid (F1.out.below hb)
    have HP0 := Lib.hid (PlSt.newB F1.out ho hb)
    have HG0 : Hid (allG Y O 0 = some (Y, [])) := Lib.hid rfl
    clear hb ho c0 e2
    go_wp2_with fail
    go_loopw [8, 24] (fun p i wr => ∃ (k : Nat) (Z : List (List Int)) (P : List Int) (vp : Value), k ≤ n ∧ i = .int .i64 k ∧ vp = p ∧ Hid (PlSt w wr v0 (w2.heap.size + 1) w1.heap.size g q c2 vp Z P) ∧ Hid (allG Y O k = some (Z, P))) (fun _ i _ => n - (intOf i).toNat)
    case atStart => exact ⟨0, Y, [], _, Nat.zero_le _, rfl, rfl, HP0, HG0⟩
    case round =>
      clear HP0 HG0 HG
      obtain ⟨k, Z, P, vp, hk, rfl, rfl, HS, HGk⟩ := hrel
      rename World => wr
      have cA := HS.out.cA.2.1
      by_cases hlt : k < n
      · obtain ⟨a', c', e, hcc⟩ := HI.out wr HS.out.fr.bl
        obtain ⟨gl, offl, e2, hgl, hcl⟩ := hcc (by have := HN.out; omega)
        injection e with e1 e4 e5
        subst e2
        subst e1
        clear e4 e5
        obtain ⟨x, hx⟩ := get_at HN.out hlt
        have o1 : wr.cell? ⟨gl, offl + k, none⟩ = some (.int .i64 x) := hcl k x hx
        have HX := Lib.hid hx
        have HGL := Lib.hid hgl
        have hask := arr_this (allG_good HA.out k Z P (by have := HN.out; omega) HGk.out) hx
        have hgZ := (askP_iff.1 hask).1
        have hsmZ := good_small hgZ
        have HCh : Hid (∀ W, Below wr.heap.size wr W → Calls Try.prog 22 #[.agg #[.slice (some ⟨g, 0, none⟩) q c2], .int .i64 x] W (RetP W (.tuple #[.int .i64 (choR Z x), .bool (choB Z x)]))) := Lib.hid fun W hb => implCho_any _ Z x (by omega) (by omega) W ⟨_, rfl, HS.out.own.1.yl.below hb⟩
        have HAk := Lib.hid hask
        clear hcc hcl hx hask hgZ hsmZ
        cases hch : choY x Z with
        | none =>
          have HQ := Lib.hid (allP_no (allP_stop HGk.out HX.out hch))
          have hcb := choB_none hch
          rw [hcb] at HCh
          generalize choR Z x = r at *
          clear hch hcb
          go_wp2_with fail
          refine (HCh.out _ (Below.refl _ _)).mono ?_
          rintro e w9 ⟨rfl, hb⟩
          have HS2 := Lib.hid (HS.out.below hb)
          obtain ⟨z0, f0⟩ := (HS2.out.below (below_one w9 (.cells #[] 3))).fr.z
          have e7 := World.cell?_setCell_same _ _ (.slice none 0 0) z0
          clear hb cA o1
          go_wp2_with fail
          refine bodyPost_ret (v := .tuple #[.agg #[.slice none 0 0], .slice (some ⟨w9.heap.size, 0, none⟩) 0 0, .bool false]) (by simp [results, Try.results35, go_sem, e7]) rfl ?_
          rw [HQ.out.1, HQ.out.2.1, HQ.out.2.2]
          exact retD_zeroA HS2.out.fr
        | some i =>
          obtain ⟨l, hl, h4⟩ := cho_row hch
          have HGn := Lib.hid (allG_next HGk.out HX.out hch)
          have hcb := choB_some HAk.out hch
          rw [hcb.1, hcb.2] at HCh
          clear hcb
          have hl4 : l.length ≤ 4 := by
            have hask := arr_this (allG_good HA.out k Z P (by have := HN.out; omega) HGk.out) HX.out
            exact (goodY_iff.1 (askP_iff.1 hask).1).2.2.1 l (List.mem_of_getElem? hl)
          have hiq : i < q := by have := lt_of_get hl; have := own_tab HS.out.own.1; omega
          have hPk : P.length ≤ 5 := by have := (allG_len _ _ _ HGk.out).1; omega
          obtain ⟨m, hm⟩ : ∃ m, l.length = m := ⟨_, rfl⟩
          have HM := Lib.hid hm
          have HL := Lib.hid hl
          rw [hm] at hl4
          have hiI : (i : Int) < (q : Int) := by omega
          clear hch hl hm h4
          go_wp2_with fail
          refine (HCh.out _ (Below.refl _ _)).mono ?_
          rintro e w3 ⟨rfl, hb⟩
          have HS2 := Lib.hid (HS.out.below hb)
          clear hb cA o1
          have ht := own_tab HS2.out.own.1
          obtain ⟨u, hu, -, hou, -⟩ := HS2.out.own.1.cell HL.out
          obtain ⟨a4, c4, rfl⟩ := own_form hou
          rw [HM.out] at hu hou
          have HO4 := Lib.hid hou
          have cO := HS2.out.cA.2.1
          have hOg : ¬ w2.heap.size + 1 = g := HS2.out.cA.2.2
          have hgO : ¬ g = w2.heap.size + 1 := fun e => hOg e.symm
          have HP := Lib.hid (fun (w5 : World) (v' : Value) (o : Obj) (ho : w5.ownsRow w1.heap.size 3 1 v' (m + 1) (intV l ++ [.int .i64 x])) (hg : (w3.drew.alloc o).grownBy w5 (Value.slice a4 m c4).ownBlock) (hat : v'.ownBlock = (Value.slice a4 m c4).ownBlock ∨ v'.ownBlock = some (w3.drew.alloc o).heap.size) =>
            (HS2.out.below (Below.refl _ w3).drew).put HL.out HM.out hu ho hg hat)
          have HU5 := Lib.hid (fun o => row_below HO4.out (((Below.refl _ w3).drew).alloc (Nat.le_refl _) o))
          have hcB := fun o => (World.cell?_alloc_lt w3 o ⟨w2.heap.size + 1, 0, none⟩ HS2.out.cA.1).trans cO
          have hu9 : w3.drew.cell? ⟨g, i, none⟩ = some (.slice a4 m c4) := hu
          have hg3 : ¬ g = w3.heap.size := by omega
          have huB := fun o => (World.cell?_alloc_lt w3 o ⟨g, i, none⟩ (by show g < w3.heap.size; omega)).trans hu
          have hg4 : ¬ w3.heap.size = g := by omega
          have hcA := fun o => (World.cell?_alloc_lt w3.drew o ⟨w2.heap.size + 1, 0, none⟩ HS2.out.cA.1).trans cO
          have hzz : w1.heap.size ≤ w3.heap.size := by omega
          have HZA := Lib.hid (fun o => Nat.le_trans hzz (below_one w3.drew o).size)
          clear hou HO4 ht
          have hzz2 := hzz
          go_wp2_with fail
          go_cut [] from 38 to 49 (fun w6 => Hid (PlSt w w6 v0 (w2.heap.size + 1) w1.heap.size g q c2 vp (putY Z i x) P))
          case first =>
            go_region_law (first | (refine step_int_at (by rfl) _ _ (by rfl) w1.heap.size _ m (intV l) (by rfl) (HU5.out _) _ _ _ (by rfl) (cell_val_new _ _ _) (by simp [Value.oneCell']) (by omega) (HZA.out _) ?_; intro v5 w5 ho5 hg5 hat5; have HP5 := Lib.hid (HP.out w5 v5 _ ho5 hg5 hat5); obtain ⟨y5, p2⟩ := HP5.out.2.1; have p3 := HP5.out.2.2.1; have q1 := HP5.out.2.2.2; obtain ⟨a6, c6, rfl⟩ := own_form ho5; clear ho5 hg5 hat5))
            all_goals
              have HPx := Lib.hid HP5.out.1
              clear HP5 p2 p3 q1 y5
              go_wp2_with fail
              go_meet
              exact HPx
          case rest =>
            rename World => wc
            have hrow := hcut.out.own.2.1.2.1
            have hzc : w1.heap.size ≤ wc.heap.size := by have := own_tab hcut.out.own.1; omega
            go_wp2_with (at_builtin; refine wpList_append_own_at _ rfl _ _ 28 rfl w1.heap.size 3 f3 (.int .i64 0) 1 8 Try.underlying28 hi3 hz0 hz1 hz2 rfl (by decide) _ _ _ rfl (hrow.alloc _) ⟨wc.heap.size, 0, none⟩ 1 1 [.int .i64 (i : Int)] rfl rfl (cell_one_new _ _ _) (by simp [Value.oneCell']) (by unfold maxLen; omega) (by omega) (by simp; omega) ?_; intro v' w8 hown' hgrow hnil hat)
            have HN4 := Lib.hid (hcut.out.push hown' hgrow hat)
            clear hown' hgrow hnil hat hrow
            exact ⟨⟨k + 1, _, _, _, by omega, by go_num, rfl, HN4, HGn⟩, by simp [intOf]; omega⟩
      · obtain rfl : k = n := by omega
        have HQ := Lib.hid (allP_yes (allP_done HA.out HN.out HGk.out))
        obtain ⟨z0, f0⟩ := HS.out.fr.z
        have e7 := World.cell?_setCell_same _ _ (.slice (some ⟨g, 0, none⟩) q c2) z0
        go_wp2_with fail
        refine bodyPost_ret (v := .tuple #[.agg #[.slice (some ⟨g, 0, none⟩) q c2], vp, .bool true]) (by simp [results, Try.results35, go_sem, e7]) rfl ?_
        rw [HQ.out.1, HQ.out.2.1, HQ.out.2.2]
        exact HS.out.ret
end Go.Proofs.Ythokmklnldoinaa
