/-
  What impl.TakeBox returns. No statement of the seat by itself.
-/
import Derived.Test.YtonploneihnekaaTakeM
namespace Go.Proofs.Ytonploneihnekaa
open Go.RowKit

set_option maxRecDepth 100000 in
set_option maxHeartbeats 8000000 in
theorem implTake_any (v : Value) (Y : List (List Int)) (x : Int) (h1 : Y.length ≤ 1048576) (h2 : tot Y ≤ 1048576) (w : World) (h : YdR w v Y) :
    Calls Try.prog 74 #[v, .int .i64 x] w (RetY w (takeR Y x) (okT Y x)) := by
  obtain ⟨v0, rfl, hv⟩ := h
  have hb0 := below_one w (.cells #[v0] 31)
  have hb1 := below_one (w.alloc (.cells #[v0] 31)) (.cells #[.slice none 0 0] 31)
  have HB := Lib.hid (hb0.trans (hb1.mono (by simp)))
  have HA := Lib.hid ((Box1.new w v0 31).below hb1)
  have HR := Lib.hid (Box1.new (w.alloc (.cells #[v0] 31)) (.slice none 0 0) 31)
  have hRb := heap_alloc_new (w.alloc (.cells #[v0] 31)) (.cells #[.slice none 0 0] 31)
  rw [show (w.alloc (.cells #[v0] 31)).heap.size = w.heap.size + 1 by simp] at HR hRb
  have J := Lib.hid hRb
  have HV := Lib.hid hv
  have HF := Lib.hid (implPlace_any (.agg #[v0]) Y x h1 h2 _ ⟨v0, rfl, hv.below HB.out⟩)
  have c0 := HA.out.2
  clear hb0 hb1 hRb hv
  cases hp : plO Y x with
  | none =>
    have HX := Lib.hid (take_no (tkO_none hp))
    rw [plV_none hp] at HF
    clear hp
    go_enter Try.func74, Try.ntmps74
    go_wp2_with fail
    refine HF.out.mono ?_
    rintro e w1 ⟨rfl, hb⟩
    have BZ := Lib.hid (HB.out.trans (hb.mono HB.out.size))
    have jz := (hb.block _ HR.out.1).trans J.out
    clear hb c0
    have z0 : w1.cell? ⟨w.heap.size + 1, 0, none⟩ = some (.slice none 0 0) := cell_of jz rfl
    have f0 : ∀ i, w1.frozen? ⟨w.heap.size + 1, i, none⟩ = false := fun i => free_of jz
    have e7 := World.cell?_setCell_same _ _ (.slice none 0 0) z0
    clear jz
    go_wp2_with fail
    refine bodyPost_ret (v := .tuple #[.agg #[.slice none 0 0], .bool false]) (by simp [results, Try.results74, go_sem, e7]) rfl ?_
    rw [HX.out.1, HX.out.2]
    exact ⟨none, 0, rfl, OwnY.nil _ _ _ (Nat.le_refl _), BZ.out.setCell (p := ⟨w.heap.size + 1, 0, none⟩) (by show w.heap.size ≤ w.heap.size + 1; omega) _⟩
  | some p =>
    obtain ⟨i, k⟩ := p
    have hgd : goodY Y = true := by
      cases hg : goodY Y with
      | true => rfl
      | false => rw [plO_bad hg] at hp; cases hp
    obtain ⟨l, hl, hat⟩ := place_inv ((plO_good hgd).symm.trans hp)
    have hkl := lt_of_get (atL_get hat)
    rw [plV_some hp] at HF
    obtain ⟨a0, cap0, rfl, hc⟩ := HV.out
    obtain ⟨g0, off0, rfl, hg0, hcc⟩ := hc (by have := lt_of_get hl; omega)
    obtain ⟨n, hn⟩ : ∃ n, Y.length = n := ⟨_, rfl⟩
    have HN := Lib.hid hn
    have hin : i < n := by have := lt_of_get hl; omega
    have hn6 : n ≤ 6 := by have := (good_small hgd).1; omega
    obtain ⟨u0, hu0, hil⟩ := hcc i l hl
    obtain ⟨b0, d0, rfl⟩ := hil.form
    obtain ⟨m, hm⟩ : ∃ m, l.length = m := ⟨_, rfl⟩
    have hm4 : m ≤ 4 := by have := (goodY_iff.1 hgd).2.2.1 l (List.mem_of_getElem? hl); omega
    have HU0 := Lib.hid hu0
    by_cases hkm : k + 1 = m
    · have ht := tkO_yes hp hl (by omega)
      have HX := Lib.hid (take_yes ht hl)
      have HCp := Lib.hid (fun W hb => copyYard_any (.agg #[.slice (some ⟨g0, off0, none⟩) Y.length cap0]) Y h1 h2 W ⟨_, rfl, HV.out.below hb⟩)
      unfold NewYd at HCp
      have HPL : Hid ((Y.set i (l.take k)).length = n) := Lib.hid (by rw [List.length_set]; exact hn)
      have HL := Lib.hid hl
      have HM := Lib.hid hm
      have hd := dif_true hkm
      have hkm2 : k < m := by omega
      rw [hn] at HCp HF HA HB HR J c0
      rw [hn]
      rw [hm] at HU0
      clear hp hgd hl hat hkl hc hcc hu0 hil hm ht hn h1 h2
      go_enter Try.func74, Try.ntmps74
      go_wp2_with fail
      refine HF.out.mono ?_
      rintro e w1 ⟨rfl, hb⟩
      have B1 := Lib.hid (HB.out.trans (hb.mono HB.out.size))
      have A1 := Lib.hid (HA.out.below hb)
      have j1 := (hb.block _ HR.out.1).trans J.out
      have J1 := Lib.hid j1
      have hzR : w.heap.size + 1 < w1.heap.size := by have := hb.size; have := HR.out.1; omega
      have c1 := A1.out.2
      have hu1 := (B1.out.cell (p := ⟨g0, off0 + i, none⟩) hg0).trans HU0.out
      clear hb c0 j1
      go_wp2_with fail
      refine (HCp.out _ B1.out).mono ?_
      rintro e w2 ⟨a2, c2, rfl, ho, hb⟩
      obtain ⟨g, cap, e⟩ := ho.rows (by have := HN.out; omega)
      injection e with e1 e2 e3
      subst e1 e3
      have B2 := Lib.hid (B1.out.trans (hb.mono B1.out.size))
      have O2 := Lib.hid ho
      have J2 := Lib.hid ((hb.block _ hzR).trans J1.out)
      have hz2 := hb.size
      clear hb ho c1 e2 hu1
      go_wp2_with fail
      have hb3 := below_one w2 (.cells #[.slice (some ⟨g, 0, none⟩) n c2] 31)
      have B3 := Lib.hid (B2.out.trans (hb3.mono B2.out.size))
      have BO := Lib.hid (Box1.new w2 (.slice (some ⟨g, 0, none⟩) n c2) 31)
      have O3 := Lib.hid (O2.out.below hb3)
      have J3 := Lib.hid ((hb3.block _ (by omega)).trans J2.out)
      clear hb3
      generalize w2.alloc (.cells #[.slice (some ⟨g, 0, none⟩) n c2] 31) = w3 at *
      obtain ⟨u, hu, hfu, hou, -⟩ := O3.out.cell HL.out
      obtain ⟨a4, c4, rfl⟩ := own_form hou
      rw [HM.out] at hu
      have cO := BO.out.2
      have HPall := takeR_of (w := w) (w2 := w2) (w3 := w3.drew) (O3.out.below (Below.refl _ w3).drew) HL.out HM.out hkm2 hu (BO.out.below (Below.refl _ w3).drew) J3.out B3.out.drew hzR
      have HP := Lib.hid HPall.1
      have hmc := HPall.2.1
      have hkc : (k : Int) ≤ (c4 : Int) := by omega
      clear hou HPall
      go_wp2_with fail
      go_cut [] from 33 (fun w6 => Hid (PutR w w1 w2 g n c2 (Y.set i (l.take k)) w6))
      case first =>
        go_region_law (fail)
        all_goals
          go_wp2_with fail
          go_meet
          exact HP
      case rest =>
        obtain ⟨o6, b6, j6, B6'⟩ := hcut.out
        have O6 := Lib.hid o6
        have B6 := Lib.hid B6'
        have cO6 := b6.2
        have z0 : wc.cell? ⟨w.heap.size + 1, 0, none⟩ = some (.slice none 0 0) := cell_of j6 rfl
        have f0 : ∀ i, wc.frozen? ⟨w.heap.size + 1, i, none⟩ = false := fun i => free_of j6
        have e7 := World.cell?_setCell_same _ _ (.slice (some ⟨g, 0, none⟩) n c2) z0
        clear o6 b6 j6 B6' hcut hu hfu cO
        go_wp2_with fail
        have hS : Span (w.heap.size + 1) (w.heap.size + 2) wc (wc.setCell ⟨w.heap.size + 1, 0, none⟩ (.slice (some ⟨g, 0, none⟩) n c2)) := span_set (Nat.le_refl _) (by omega) _
        refine bodyPost_ret (v := .tuple #[.agg #[.slice (some ⟨g, 0, none⟩) n c2], .bool true]) (by simp [results, Try.results74, go_sem, e7]) rfl ?_
        rw [HX.out.1, HX.out.2]
        refine ⟨_, _, by rw [HPL.out], ?_, B6.out.setCell (p := ⟨w.heap.size + 1, 0, none⟩) (by show w.heap.size ≤ w.heap.size + 1; omega) _⟩
        rw [HPL.out]
        exact (O6.out.span hS (.inr (by omega))).mono (by omega) (by simp) (Nat.le_refl _)
    · have HX := Lib.hid (take_no (tkO_not hp hl (by omega)))
      have hd := dif_false hkm
      rw [hn] at HF HA HB HR J c0
      rw [hn]
      rw [hm] at HU0
      clear hp hgd hl hat hkl hc hcc hu0 hil hm hn h1 h2
      go_enter Try.func74, Try.ntmps74
      go_wp2_with fail
      refine HF.out.mono ?_
      rintro e w1 ⟨rfl, hb⟩
      have BZ := Lib.hid (HB.out.trans (hb.mono HB.out.size))
      have jz := (hb.block _ HR.out.1).trans J.out
      have c1 := (HA.out.below hb).2
      have hu1 := (BZ.out.cell (p := ⟨g0, off0 + i, none⟩) hg0).trans HU0.out
      clear hb c0
      have z0 : w1.cell? ⟨w.heap.size + 1, 0, none⟩ = some (.slice none 0 0) := cell_of jz rfl
      have f0 : ∀ i, w1.frozen? ⟨w.heap.size + 1, i, none⟩ = false := fun i => free_of jz
      have e7 := World.cell?_setCell_same _ _ (.slice none 0 0) z0
      clear jz
      go_wp2_with fail
      refine bodyPost_ret (v := .tuple #[.agg #[.slice none 0 0], .bool false]) (by simp [results, Try.results74, go_sem, e7]) rfl ?_
      rw [HX.out.1, HX.out.2]
      exact ⟨none, 0, rfl, OwnY.nil _ _ _ (Nat.le_refl _), BZ.out.setCell (p := ⟨w.heap.size + 1, 0, none⟩) (by show w.heap.size ≤ w.heap.size + 1; omega) _⟩
end Go.Proofs.Ytonploneihnekaa
