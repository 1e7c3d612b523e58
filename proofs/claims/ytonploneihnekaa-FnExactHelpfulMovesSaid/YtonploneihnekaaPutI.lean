/-
  What impl.PutBox returns. No statement of the seat by itself.
-/
import Derived.Test.YtonploneihnekaaPutM
namespace Go.Proofs.Ytonploneihnekaa
open Go.RowKit

set_option maxRecDepth 100000 in
set_option maxHeartbeats 8000000 in
theorem implPut_any (v : Value) (Y : List (List Int)) (s x : Int) (h1 : Y.length ≤ 1048576) (h2 : tot Y ≤ 1048576) (w : World) (h : YdR w v Y) :
    Calls Try.prog 54 #[v, .int .i64 s, .int .i64 x] w (RetY w (putR Y s x) (okP Y s x)) := by
  obtain ⟨v0, rfl, hv⟩ := h
  have hb0 := below_one w (.cells #[v0] 31)
  have hb1 := below_one (w.alloc (.cells #[v0] 31)) (.cells #[.slice none 0 0] 31)
  have HB := Lib.hid (hb0.trans (hb1.mono (by simp)))
  have HA := Lib.hid ((Box1.new w v0 31).below hb1)
  have HR := Lib.hid (Box1.new (w.alloc (.cells #[v0] 31)) (.slice none 0 0) 31)
  have hRb := heap_alloc_new (w.alloc (.cells #[v0] 31)) (.cells #[.slice none 0 0] 31)
  rw [show (w.alloc (.cells #[v0] 31)).heap.size = w.heap.size + 1 by simp] at HR hRb
  have J := Lib.hid hRb
  have HV := Lib.hid hv
  have HF := Lib.hid (hasStack_any (.agg #[v0]) Y s h1 h2 _ ⟨v0, rfl, hv.below HB.out⟩)
  have c0 := HA.out.2
  clear hb0 hb1 hRb hv
  cases hg : okS Y s with
  | false =>
    have HX := Lib.hid (okP_no (x := x) hg)
    rw [hg] at HF
    clear hg
    rw [HX.out, putR_no HX.out]
    go_enter Try.func54, Try.ntmps54
    go_wp2_with fail
    refine HF.out.mono ?_
    rintro e w1 ⟨rfl, hb⟩
    have B1 := Lib.hid (HB.out.trans (hb.mono HB.out.size))
    have j1 := (hb.block _ HR.out.1).trans J.out
    have z0 : w1.cell? ⟨w.heap.size + 1, 0, none⟩ = some (.slice none 0 0) := cell_of j1 rfl
    have f0 : ∀ i, w1.frozen? ⟨w.heap.size + 1, i, none⟩ = false := fun i => free_of j1
    have e7 := World.cell?_setCell_same _ _ (.slice none 0 0) z0
    clear hb c0 j1
    go_wp2_with fail
    exact bodyPost_ret (v := .tuple #[.agg #[.slice none 0 0], .bool false]) (by simp [results, Try.results54, go_sem, e7]) rfl ⟨none, 0, rfl, OwnY.nil _ _ _ (Nat.le_refl _), B1.out.setCell (p := ⟨w.heap.size + 1, 0, none⟩) (by show w.heap.size ≤ w.heap.size + 1; omega) _⟩
  | true =>
    obtain ⟨hgd, hs0, hs1⟩ := okS_iff.1 hg
    obtain ⟨i, rfl⟩ : ∃ i : Nat, s = (i : Int) := ⟨s.toNat, by omega⟩
    have hok := okP_nat (x := x) hg
    obtain ⟨n, hn⟩ : ∃ n, Y.length = n := ⟨_, rfl⟩
    have HN := Lib.hid hn
    have hin : i < n := by omega
    have hn6 : n ≤ 6 := by have := (good_small hgd).1; omega
    obtain ⟨l, hl⟩ := get_at hn hin
    have HL := Lib.hid hl
    obtain ⟨m, hm⟩ : ∃ m, l.length = m := ⟨_, rfl⟩
    have HM := Lib.hid hm
    have hm4 : m ≤ 4 := by have := (goodY_iff.1 hgd).2.2.1 l (List.mem_of_getElem? hl); omega
    have HSm := Lib.hid (put_small (s := i) (x := x) hgd)
    rw [hg] at HF
    have HCp := Lib.hid (fun W hb => copyYard_any (.agg #[v0]) Y h1 h2 W ⟨v0, rfl, HV.out.below hb⟩)
    unfold NewYd at HCp
    rw [hn] at HCp
    rw [hok]
    have HXn : Hid (goodY (putY Y i x) = false → putR Y (i : Int) x = []) := Lib.hid fun e => putR_no (hok.trans e)
    have HXy : Hid (goodY (putY Y i x) = true → putR Y (i : Int) x = putY Y i x) := Lib.hid fun e => putR_yes (hok.trans e)
    have HPL : Hid ((putY Y i x).length = n) := Lib.hid (by rw [putY_len]; exact hn)
    clear hg hgd hs0 hs1 hok hn hl hm h1 h2
    go_enter Try.func54, Try.ntmps54
    go_wp2_with fail
    refine HF.out.mono ?_
    rintro e w1 ⟨rfl, hb⟩
    have B1 := Lib.hid (HB.out.trans (hb.mono HB.out.size))
    have A1 := Lib.hid (HA.out.below hb)
    have j1 := (hb.block _ HR.out.1).trans J.out
    have J1 := Lib.hid j1
    have hzR : w.heap.size + 1 < w1.heap.size := by have := hb.size; have := HR.out.1; omega
    have c1 := A1.out.2
    clear hb c0 j1
    go_wp2_with fail
    refine (HCp.out _ B1.out).mono ?_
    rintro e w2 ⟨a2, c2, rfl, ho, hb⟩
    obtain ⟨g, cap, e⟩ := ho.rows (by have := HN.out; omega)
    injection e with e1 e2 e3
    subst e1 e3
    have B2 := Lib.hid (B1.out.trans (hb.mono B1.out.size))
    have O2 := Lib.hid ho
    have j2 := (hb.block _ hzR).trans J1.out
    have J2 := Lib.hid j2
    have hz2 := hb.size
    have hgB : w1.heap.size ≤ g ∧ g < w2.heap.size := by
      obtain ⟨_, hlt, us, h3, _⟩ := ho
      exact ⟨row_base h3 g rfl, hlt g rfl⟩
    clear hb ho j2 c1 e2
    go_wp2_with fail
    have hb3 := below_one w2 (.cells #[.slice (some ⟨g, 0, none⟩) n c2] 31)
    have B3 := Lib.hid (B2.out.trans (hb3.mono B2.out.size))
    have BO := Lib.hid (Box1.new w2 (.slice (some ⟨g, 0, none⟩) n c2) 31)
    have O3 := Lib.hid (O2.out.below hb3)
    have J3 := Lib.hid ((hb3.block _ (by omega)).trans J2.out)
    have hz3 := hb3.size
    clear hb3
    generalize w2.alloc (.cells #[.slice (some ⟨g, 0, none⟩) n c2] 31) = w3 at *
    obtain ⟨u, hu, -, hou, hub⟩ := O3.out.cell HL.out
    obtain ⟨a4, c4, rfl⟩ := own_form hou
    rw [HM.out] at hu hou hub
    have HO4 := Lib.hid hou
    have cO := BO.out.2
    have hgO : ¬ g = w2.heap.size := by omega
    have hOg : ¬ w2.heap.size = g := by omega
    have HP := Lib.hid (fun (w5 : World) (v' : Value) (o : Obj) (ho : w5.ownsRow w1.heap.size 3 1 v' (m + 1) (intV l ++ [.int .i64 x])) (hg : (w3.drew.alloc o).grownBy w5 (Value.slice a4 m c4).ownBlock) (hat : v'.ownBlock = (Value.slice a4 m c4).ownBlock ∨ v'.ownBlock = some (w3.drew.alloc o).heap.size) =>
      putR_of (w := w) (w2 := w2) (w3 := w3.drew) (O3.out.below (Below.refl _ w3).drew) HL.out HM.out hu ho hg hat (BO.out.below (Below.refl _ w3).drew) J3.out B3.out.drew hzR)
    have HU5 := Lib.hid (fun o => row_below HO4.out (((Below.refl _ w3).drew).alloc (Nat.le_refl _) o))
    have hcB := fun o => (World.cell?_alloc_lt w3 o ⟨w2.heap.size, 0, none⟩ BO.out.1).trans cO
    have hu9 : w3.drew.cell? ⟨g, i, none⟩ = some (.slice a4 m c4) := hu
    have hg3 : ¬ g = w3.heap.size := by omega
    have huB := fun o => (World.cell?_alloc_lt w3 o ⟨g, i, none⟩ (by show g < w3.heap.size; omega)).trans hu
    have hg4 : ¬ w3.heap.size = g := by omega
    have hcA := fun o => (World.cell?_alloc_lt w3.drew o ⟨w2.heap.size, 0, none⟩ BO.out.1).trans cO
    have hzz : w1.heap.size ≤ w3.heap.size := by omega
    have HZA := Lib.hid (fun o => Nat.le_trans hzz (below_one w3.drew o).size)
    clear hou hub HO4
    go_wp2_with fail
    go_cut [] from 16 (fun w6 => Hid (PutR w w1 w2 g n c2 (putY Y i x) w6))
    case first =>
      go_region_law (first | (refine step_int_at (by rfl) _ _ (by rfl) w1.heap.size _ m (intV l) (by rfl) (HU5.out _) _ _ _ (by rfl) (cell_val_new _ _ _) (by simp [Value.oneCell']) (by omega) (HZA.out _) ?_; intro v5 w5 ho5 hg5 hat5; have HP5 := Lib.hid (HP.out w5 v5 _ ho5 hg5 hat5); obtain ⟨y5, p2⟩ := HP5.out.2.1; have p3 := HP5.out.2.2; have q1 : w5.cell? ⟨w2.heap.size, 0, none⟩ = some (.slice (some ⟨g, 0, none⟩) n c2) := (set_cell_ne _ _ _ _ _ _ hOg).symm.trans HP5.out.1.2.1.2; obtain ⟨a6, c6, rfl⟩ := own_form ho5; clear ho5 hg5 hat5))
      all_goals
        have HPx := Lib.hid HP5.out.1
        clear HP5 p2 p3 q1 y5
        go_wp2_with fail
        go_meet
        exact HPx
    case rest =>
      obtain ⟨o6, b6, j6, B6'⟩ := hcut.out
      have O6 := Lib.hid o6
      have J6 := Lib.hid j6
      have B6 := Lib.hid B6'
      have cO6 := b6.2
      have HZO := Lib.hid b6.1
      have HGd := Lib.hid (good_impl (.agg #[.slice (some ⟨g, 0, none⟩) n c2]) (putY Y i x) (by have := HSm.out.1; omega) (by have := HSm.out.2; omega) wc ⟨_, rfl, O6.out.yl⟩)
      clear o6 b6 j6 B6' hcut
      cases hgp : goodY (putY Y i x) with
      | false =>
        have HXX := Lib.hid (And.intro (HXn.out hgp) hgp)
        rw [hgp] at HGd
        clear hgp
        go_wp2_with fail
        refine HGd.out.mono ?_
        rintro e w7 ⟨rfl, hb⟩
        have B7 := Lib.hid (B6.out.trans (hb.mono B6.out.size))
        have j7 := (hb.block _ (by have := HZO.out; omega)).trans J6.out
        have z0 : w7.cell? ⟨w.heap.size + 1, 0, none⟩ = some (.slice none 0 0) := cell_of j7 rfl
        have f0 : ∀ i, w7.frozen? ⟨w.heap.size + 1, i, none⟩ = false := fun i => free_of j7
        have e7 := World.cell?_setCell_same _ _ (.slice none 0 0) z0
        clear hb cO6 j7
        go_wp2_with fail
        refine bodyPost_ret (v := .tuple #[.agg #[.slice none 0 0], .bool false]) (by simp [results, Try.results54, go_sem, e7]) rfl ?_
        rw [HXX.out.1, HXX.out.2]
        exact ⟨none, 0, rfl, OwnY.nil _ _ _ (Nat.le_refl _), B7.out.setCell (p := ⟨w.heap.size + 1, 0, none⟩) (by show w.heap.size ≤ w.heap.size + 1; omega) _⟩
      | true =>
        have HXX := Lib.hid (And.intro (HXy.out hgp) hgp)
        rw [hgp] at HGd
        clear hgp
        go_wp2_with fail
        refine HGd.out.mono ?_
        rintro e w7 ⟨rfl, hb⟩
        have B7 := Lib.hid (B6.out.trans (hb.mono B6.out.size))
        have O7 := Lib.hid (O6.out.below hb)
        have j7 := (hb.block _ (by have := HZO.out; omega)).trans J6.out
        have z0 : w7.cell? ⟨w.heap.size + 1, 0, none⟩ = some (.slice none 0 0) := cell_of j7 rfl
        have f0 : ∀ i, w7.frozen? ⟨w.heap.size + 1, i, none⟩ = false := fun i => free_of j7
        have cO7 := (hb.cell (p := ⟨w2.heap.size, 0, none⟩) HZO.out).trans cO6
        have e7 := World.cell?_setCell_same _ _ (.slice (some ⟨g, 0, none⟩) n c2) z0
        clear hb cO6 j7
        go_wp2_with fail
        have hS : Span (w.heap.size + 1) (w.heap.size + 2) w7 (w7.setCell ⟨w.heap.size + 1, 0, none⟩ (.slice (some ⟨g, 0, none⟩) n c2)) := span_set (Nat.le_refl _) (by omega) _
        refine bodyPost_ret (v := .tuple #[.agg #[.slice (some ⟨g, 0, none⟩) n c2], .bool true]) (by simp [results, Try.results54, go_sem, e7]) rfl ?_
        rw [HXX.out.1, HXX.out.2]
        refine ⟨_, _, by rw [HPL.out], ?_, B7.out.setCell (p := ⟨w.heap.size + 1, 0, none⟩) (by show w.heap.size ≤ w.heap.size + 1; omega) _⟩
        rw [HPL.out]
        exact (O7.out.span hS (.inr (by omega))).mono (by omega) (by have := O7.out.1; simpa using this) (Nat.le_refl _)
end Go.Proofs.Ytonploneihnekaa
