/-
  What impl.MoveTop returns. No statement of the seat by itself.
-/
import Derived.Test.YtonploneihnekaaMoveM
import Derived.Test.YtonploneihnekaaPutI
import Derived.Test.YtonploneihnekaaTakeI
namespace Go.Proofs.Ytonploneihnekaa
open Go.RowKit

/-- What impl.MoveTop goes by: the top, whether it can be taken, whether it can be put. -/
theorem move_steps {Y : List (List Int)} {f t : Int} (hft : f ≠ t) (h1 : okS Y f = true) (h2 : okT Y (topR Y f) = true) (h3 : okP (takeR Y (topR Y f)) t (topR Y f) = true) : moveR Y f t = putR (takeR Y (topR Y f)) t (topR Y f) ∧ moveX Y f t = topR Y f ∧ okM Y f t = true := by
  obtain ⟨hg, hf0, hf1⟩ := okS_iff.1 h1
  obtain ⟨i, rfl⟩ : ∃ i : Nat, f = (i : Int) := ⟨f.toNat, by omega⟩
  obtain ⟨l, hl⟩ := get_at (Y := Y) rfl (show i < Y.length by omega)
  have htop := topR_yes h1 hl
  rw [htop] at h2 h3 ⊢
  by_cases h0 : l.length = 0
  · exfalso
    have e : topL l = 0 := by simp [topL, h0]
    have hz := tkO_none ((plO_good hg).trans (place_zero hg))
    rw [e, (take_no hz).2] at h2
    cases h2
  · obtain ⟨m, hm⟩ : ∃ m, l.length = m + 1 := ⟨l.length - 1, by omega⟩
    obtain ⟨x, hx, hsp⟩ := last_split hm
    have e : topL l = x := by
      unfold topL
      rw [if_neg h0, show l.length - 1 = m by omega]
      simp [List.getD, hx]
    rw [e] at h2 h3 ⊢
    have htk := tkO_yes ((plO_good hg).trans (place_only hg hl hx)) hl hm.symm
    have hT := (take_yes htk hl).1
    rw [hT] at h3 ⊢
    obtain ⟨hz, hz2⟩ : okS (Y.set i (l.take m)) t = true ∧ goodY (putY (Y.set i (l.take m)) t.toNat x) = true := by simpa [okP] using h3
    obtain ⟨_, ht0, ht1⟩ := okS_iff.1 hz
    obtain ⟨j, rfl⟩ : ∃ j : Nat, t = (j : Int) := ⟨t.toNat, by omega⟩
    have hij : i ≠ j := fun e => hft (by rw [e])
    have hj : j < Y.length := by have : (Y.set i (l.take m)).length = Y.length := List.length_set ..; omega
    obtain ⟨lt, hlt⟩ := get_at (Y := Y) rfl hj
    have hlt2 : (Y.set i (l.take m))[j]? = some lt := by rw [List.getElem?_set_ne hij]; exact hlt
    have hb : lt.length ≠ 4 := fun e4 => by
      have := moved_full (x := x) hlt2 (by omega)
      simp only [Int.toNat_natCast] at hz2
      rw [this] at hz2; cases hz2
    have hM : okM Y (i : Int) (j : Int) = true := okM_iff.2 ⟨h1, okS_iff.2 ⟨hg, by omega, by omega⟩, hft, by simp only [Int.toNat_natCast, getD_of hl]; exact h0, by simp only [Int.toNat_natCast, getD_of hlt]; exact hb⟩
    refine ⟨?_, ?_, hM⟩
    · rw [(move_yes hM).1, putR_yes h3]
      simp only [Int.toNat_natCast, moveZ, getD_of hl, e]
      rw [show l.length - 1 = m by omega]
    · rw [(move_yes hM).2]
      simp only [Int.toNat_natCast, getD_of hl, e]
theorem move_fails {Y : List (List Int)} {f t : Int} (h : f ≠ t → okS Y f = true → okT Y (topR Y f) = true → okP (takeR Y (topR Y f)) t (topR Y f) = false) : moveR Y f t = [] ∧ moveX Y f t = 0 ∧ okM Y f t = false := by
  refine move_no fun ⟨h1, h2, hft, h3, h4⟩ => ?_
  obtain ⟨hg, hf0, hf1⟩ := okS_iff.1 h1
  obtain ⟨_, ht0, ht1⟩ := okS_iff.1 h2
  obtain ⟨i, rfl⟩ : ∃ i : Nat, f = (i : Int) := ⟨f.toNat, by omega⟩
  obtain ⟨j, rfl⟩ : ∃ j : Nat, t = (j : Int) := ⟨t.toNat, by omega⟩
  obtain ⟨l, hl⟩ := get_at (Y := Y) rfl (show i < Y.length by omega)
  obtain ⟨lt, hlt⟩ := get_at (Y := Y) rfl (show j < Y.length by omega)
  simp only [Int.toNat_natCast, getD_of hl, getD_of hlt] at h3 h4
  have hij : i ≠ j := fun e => hft (by rw [e])
  have htop := topR_yes h1 hl
  obtain ⟨m, hm⟩ : ∃ m, l.length = m + 1 := ⟨l.length - 1, by omega⟩
  obtain ⟨x, hx, hsp⟩ := last_split hm
  have e : topL l = x := by
    unfold topL
    rw [if_neg h3, show l.length - 1 = m by omega]
    simp [List.getD, hx]
  rw [htop, e] at h
  have htk := tkO_yes ((plO_good hg).trans (place_only hg hl hx)) hl hm.symm
  have hT := take_yes htk hl
  have h5 := h hft h1 hT.2
  rw [hT.1] at h5
  have hlt2 : (Y.set i (l.take m))[j]? = some lt := by rw [List.getElem?_set_ne hij]; exact hlt
  have h44 : lt.length ≤ 4 := (goodY_iff.1 hg).2.2.1 lt (List.mem_of_getElem? hlt)
  have h6 := moved_good hg hl hsp hlt2 (by omega)
  have h7 : okS (Y.set i (l.take m)) (j : Int) = true := okS_iff.2 ⟨took_good hg hl hsp, by omega, by rw [List.length_set]; omega⟩
  rw [okP_nat h7, h6] at h5
  cases h5


set_option maxRecDepth 100000 in
set_option maxHeartbeats 8000000 in
theorem implMove_any (v : Value) (Y : List (List Int)) (f t : Int) (h1 : Y.length ≤ 1048576) (h2 : tot Y ≤ 1048576) (w : World) (h : YdR w v Y) :
    Calls Try.prog 59 #[v, .int .i64 f, .int .i64 t] w (RetYI w (moveR Y f t) (moveX Y f t) (okM Y f t)) := by
  obtain ⟨v0, rfl, hv⟩ := h
  have hb0 := below_one w (.cells #[v0] 31)
  have hb1 := below_one (w.alloc (.cells #[v0] 31)) (.cells #[.slice none 0 0] 31)
  have HB := Lib.hid (hb0.trans (hb1.mono (by simp)))
  have HA := Lib.hid ((Box1.new w v0 31).below hb1)
  have HR := Lib.hid (Box1.new (w.alloc (.cells #[v0] 31)) (.slice none 0 0) 31)
  have hRb := heap_alloc_new (w.alloc (.cells #[v0] 31)) (.cells #[.slice none 0 0] 31)
  rw [show (w.alloc (.cells #[v0] 31)).heap.size = w.heap.size + 1 by simp] at HR hRb
  have J := Lib.hid hRb
  have HV := Lib.hid hv
  have c0 := HA.out.2
  have q0 := HR.out.2
  have HT := Lib.hid (implTop_any (.agg #[v0]) Y f h1 h2 _ ⟨v0, rfl, hv.below HB.out⟩)
  have HK : Hid (∀ W, Below w.heap.size w W → Calls Try.prog 74 #[.agg #[v0], .int .i64 (topR Y f)] W (RetY W (takeR Y (topR Y f)) (okT Y (topR Y f)))) := Lib.hid fun W hb => implTake_any _ Y _ h1 h2 W ⟨v0, rfl, HV.out.below hb⟩
  have HTs := Lib.hid (takeR_small Y (topR Y f))
  clear hb0 hb1 hRb hv h1 h2
  by_cases hft : f = t
  · subst hft
    have HX := Lib.hid (move_fails (Y := Y) (f := f) (t := f) fun e => absurd rfl e)
    have BZ := HB
    have jz := J.out
    have z0 : ((w.alloc (.cells #[v0] 31)).alloc (.cells #[.slice none 0 0] 31)).cell? ⟨w.heap.size + 1, 0, none⟩ = some (.slice none 0 0) := cell_of jz rfl
    clear jz c0 q0
    go_enter Try.func59, Try.ntmps59
    go_wp2_with fail
    generalize (w.alloc (.cells #[v0] 31)).alloc (.cells #[.slice none 0 0] 31) = W0 at *
    refine bodyPost_ret (v := .tuple #[.agg #[.slice none 0 0], .int .i64 0, .bool false]) (by simp [results, Try.results59, go_sem, z0]) rfl ?_
    rw [HX.out.1, HX.out.2.1, HX.out.2.2]
    exact ⟨none, 0, rfl, OwnY.nil _ _ _ (Nat.le_refl _), BZ.out⟩
  · have hfb : (f == t) = false := by simpa using hft
    cases hs : okS Y f with
    | false =>
      have HX := Lib.hid (move_fails (Y := Y) (f := f) (t := t) fun _ e => by rw [hs] at e; cases e)
      rw [hs] at HT
      clear hs q0
      go_enter Try.func59, Try.ntmps59
      go_wp2_with fail
      refine HT.out.mono ?_
      rintro e w1 ⟨rfl, hb⟩
      have BZ := Lib.hid (HB.out.trans (hb.mono HB.out.size))
      have jz := (hb.block _ HR.out.1).trans J.out
      clear hb c0
      have z0 : w1.cell? ⟨w.heap.size + 1, 0, none⟩ = some (.slice none 0 0) := cell_of jz rfl
      have f0 : ∀ i, w1.frozen? ⟨w.heap.size + 1, i, none⟩ = false := fun i => free_of jz
      have e7 := World.cell?_setCell_same _ _ (.slice none 0 0) z0
      clear jz
      go_wp2_with fail
      refine bodyPost_ret (v := .tuple #[.agg #[.slice none 0 0], .int .i64 0, .bool false]) (by simp [results, Try.results59, go_sem, e7]) rfl ?_
      rw [HX.out.1, HX.out.2.1, HX.out.2.2]
      exact ⟨none, 0, rfl, OwnY.nil _ _ _ (Nat.le_refl _), BZ.out.setCell (p := ⟨w.heap.size + 1, 0, none⟩) (by show w.heap.size ≤ w.heap.size + 1; omega) _⟩
    | true =>
      rw [hs] at HT
      have HP : Hid (∀ W u, YdR W u (takeR Y (topR Y f)) → Calls Try.prog 54 #[u, .int .i64 t, .int .i64 (topR Y f)] W (RetY W (putR (takeR Y (topR Y f)) t (topR Y f)) (okP (takeR Y (topR Y f)) t (topR Y f)))) := Lib.hid fun W u hu => implPut_any u _ t _ HTs.out.1 HTs.out.2 W hu
      have HM1 := Lib.hid (fun h2 h3 => move_steps (Y := Y) (f := f) (t := t) hft hs h2 h3)
      have HM2 := Lib.hid (fun h => move_fails (Y := Y) (f := f) (t := t) h)
      clear HTs
      generalize topR Y f = x at *
      generalize putR (takeR Y x) t x = Z at *
      generalize okP (takeR Y x) t x = okp at *
      generalize takeR Y x = K at *
      clear q0
      cases hk : okT Y x with
      | false =>
        have HX := Lib.hid (HM2.out fun _ _ e => by rw [hk] at e; cases e)
        rw [hk] at HK
        clear hk hs HM1 HM2
        go_enter Try.func59, Try.ntmps59
        go_wp2_with fail
        refine HT.out.mono ?_
        rintro e w1 ⟨rfl, hb⟩
        have B1 := Lib.hid (HB.out.trans (hb.mono HB.out.size))
        have J1 := Lib.hid ((hb.block _ HR.out.1).trans J.out)
        have A1 := Lib.hid (HA.out.below hb)
        have c1 := A1.out.2
        have hzR : w.heap.size + 1 < w1.heap.size := by have := hb.size; have := HR.out.1; omega
        clear hb c0
        go_wp2_with fail
        refine (HK.out _ B1.out).mono ?_
        rintro e w2 ⟨a2, c2, rfl, ho, hb⟩
        have B2 := Lib.hid (B1.out.trans (hb.mono B1.out.size))
        have J2 := Lib.hid ((hb.block _ hzR).trans J1.out)
        have hz2 := hb.size
        have hb3 := below_one w2 (.cells #[.slice a2 K.length c2] 31)
        have BZ := Lib.hid (B2.out.trans (hb3.mono B2.out.size))
        have jz := (hb3.block _ (by omega)).trans J2.out
        have z0 : (w2.alloc (.cells #[.slice a2 K.length c2] 31)).cell? ⟨w.heap.size + 1, 0, none⟩ = some (.slice none 0 0) := cell_of jz rfl
        have f0 : ∀ i, (w2.alloc (.cells #[.slice a2 K.length c2] 31)).frozen? ⟨w.heap.size + 1, i, none⟩ = false := fun i => free_of jz
        have e7 := World.cell?_setCell_same _ _ (.slice none 0 0) z0
        clear hb ho hb3 c1 jz
        go_wp2_with fail
        generalize w2.alloc (.cells #[.slice a2 K.length c2] 31) = w3 at *
        refine bodyPost_ret (v := .tuple #[.agg #[.slice none 0 0], .int .i64 0, .bool false]) (by simp [results, Try.results59, go_sem, e7]) rfl ?_
        rw [HX.out.1, HX.out.2.1, HX.out.2.2]
        exact ⟨none, 0, rfl, OwnY.nil _ _ _ (Nat.le_refl _), BZ.out.setCell (p := ⟨w.heap.size + 1, 0, none⟩) (by show w.heap.size ≤ w.heap.size + 1; omega) _⟩
      | true =>
        rw [hk] at HK
        go_enter Try.func59, Try.ntmps59
        go_wp2_with fail
        refine HT.out.mono ?_
        rintro e w1 ⟨rfl, hb⟩
        have B1 := Lib.hid (HB.out.trans (hb.mono HB.out.size))
        have J1 := Lib.hid ((hb.block _ HR.out.1).trans J.out)
        have A1 := Lib.hid (HA.out.below hb)
        have c1 := A1.out.2
        have hzR : w.heap.size + 1 < w1.heap.size := by have := hb.size; have := HR.out.1; omega
        clear hb c0
        go_wp2_with fail
        refine (HK.out _ B1.out).mono ?_
        rintro e w2 ⟨a2, c2, rfl, ho, hb⟩
        have B2 := Lib.hid (B1.out.trans (hb.mono B1.out.size))
        have J2 := Lib.hid ((hb.block _ hzR).trans J1.out)
        have O2 := Lib.hid ho
        have hz2 := hb.size
        clear hb ho c1
        go_wp2_with fail
        have hb3 := below_one w2 (.cells #[.slice a2 K.length c2] 31)
        have B3 := Lib.hid (B2.out.trans (hb3.mono B2.out.size))
        have J3 := Lib.hid ((hb3.block _ (by omega)).trans J2.out)
        have O3 := Lib.hid (O2.out.below hb3)
        have hz3 := hb3.size
        clear hb3
        generalize w2.alloc (.cells #[.slice a2 K.length c2] 31) = w3 at *
        refine (HP.out _ _ ⟨_, rfl, O3.out.yl⟩).mono ?_
        rintro e w4 ⟨a4, c4, rfl, ho, hb⟩
        have B4 := Lib.hid (B3.out.trans (hb.mono B3.out.size))
        have J4 := Lib.hid ((hb.block _ (by omega)).trans J3.out)
        have O4 := Lib.hid ho
        have hz4 := hb.size
        clear hb ho
        cases okp with
        | false =>
          have HX := Lib.hid (HM2.out fun _ _ _ => rfl)
          clear HM1 HM2 hk hs
          have hb5 := below_one w4 (.cells #[.slice a4 Z.length c4] 31)
          have BZ := Lib.hid (B4.out.trans (hb5.mono B4.out.size))
          have jz := (hb5.block _ (by omega)).trans J4.out
          have z0 : (w4.alloc (.cells #[.slice a4 Z.length c4] 31)).cell? ⟨w.heap.size + 1, 0, none⟩ = some (.slice none 0 0) := cell_of jz rfl
          have f0 : ∀ i, (w4.alloc (.cells #[.slice a4 Z.length c4] 31)).frozen? ⟨w.heap.size + 1, i, none⟩ = false := fun i => free_of jz
          have e7 := World.cell?_setCell_same _ _ (.slice none 0 0) z0
          clear hb5 jz
          go_wp2_with fail
          generalize w4.alloc (.cells #[.slice a4 Z.length c4] 31) = w5 at *
          refine bodyPost_ret (v := .tuple #[.agg #[.slice none 0 0], .int .i64 0, .bool false]) (by simp [results, Try.results59, go_sem, e7]) rfl ?_
          rw [HX.out.1, HX.out.2.1, HX.out.2.2]
          exact ⟨none, 0, rfl, OwnY.nil _ _ _ (Nat.le_refl _), BZ.out.setCell (p := ⟨w.heap.size + 1, 0, none⟩) (by show w.heap.size ≤ w.heap.size + 1; omega) _⟩
        | true =>
          have HX := Lib.hid (HM1.out hk rfl)
          clear HM1 HM2 hk hs
          have hb5 := below_one w4 (.cells #[.slice a4 Z.length c4] 31)
          have BZ := Lib.hid (B4.out.trans (hb5.mono B4.out.size))
          have O5 := Lib.hid (O4.out.below hb5)
          have jz := (hb5.block _ (by omega)).trans J4.out
          have z0 : (w4.alloc (.cells #[.slice a4 Z.length c4] 31)).cell? ⟨w.heap.size + 1, 0, none⟩ = some (.slice none 0 0) := cell_of jz rfl
          have f0 : ∀ i, (w4.alloc (.cells #[.slice a4 Z.length c4] 31)).frozen? ⟨w.heap.size + 1, i, none⟩ = false := fun i => free_of jz
          have e7 := World.cell?_setCell_same _ _ (.slice a4 Z.length c4) z0
          clear hb5 jz
          go_wp2_with fail
          generalize w4.alloc (.cells #[.slice a4 Z.length c4] 31) = w5 at *
          have hS : Span (w.heap.size + 1) (w.heap.size + 2) w5 (w5.setCell ⟨w.heap.size + 1, 0, none⟩ (.slice a4 Z.length c4)) := span_set (Nat.le_refl _) (by omega) _
          refine bodyPost_ret (v := .tuple #[.agg #[.slice a4 Z.length c4], .int .i64 x, .bool true]) (by simp [results, Try.results59, go_sem, e7]) rfl ?_
          rw [HX.out.1, HX.out.2.1, HX.out.2.2]
          exact ⟨_, _, rfl, (O5.out.span hS (.inr (by omega))).mono (by omega) (by have := O5.out.1; simp; omega) (Nat.le_refl _), BZ.out.setCell (p := ⟨w.heap.size + 1, 0, none⟩) (by show w.heap.size ≤ w.heap.size + 1; omega) _⟩

end Go.Proofs.Ytonploneihnekaa
