/-
  What impl.LoadBox returns. No statement of the seat by itself.
-/
import Derived.Test.YtececghifehjeaaHPutM
namespace Go.Proofs.Ytececghifehjeaa
open Go.RowKit

set_option maxRecDepth 100000 in
set_option maxHeartbeats 8000000 in
theorem implPutB_any (v : Value) (hh : Int) (Y : List (List Int)) (s x : Int) (h1 : Y.length ≤ 1048576) (h2 : tot Y ≤ 1048576) (w : World) (h : BdR w v hh Y) :
    Calls Try.prog 56 #[v, .int .i64 s, .int .i64 x] w (RetB w (putHB hh Y s x) (putRB hh Y s x) (okPB hh Y s x)) := by
  obtain ⟨v0, rfl, hv⟩ := h
  have F0 := Lib.hid (FrB.start w hh v0)
  have HV := Lib.hid hv
  have HF := Lib.hid (hasRow_any (.agg #[.int .i64 hh, v0]) hh Y s h1 h2 _ ⟨v0, rfl, hv.below F0.out.bl⟩)
  have c0 := F0.out.a.2.1
  have c0b := F0.out.a.2.2
  clear hv
  cases hg : okB hh Y s with
  | false =>
    have HX := Lib.hid (okPB_no (x := x) hg)
    rw [hg] at HF
    clear hg
    rw [HX.out, (putB_no HX.out).1, (putB_no HX.out).2]
    go_enter Try.func56, Try.ntmps56
    go_wp2_with fail
    refine HF.out.mono ?_
    rintro e w1 ⟨rfl, hb⟩
    have F1 := Lib.hid (F0.out.below hb)
    obtain ⟨z0, z1, f0⟩ := F1.out.z
    obtain ⟨e7, e8⟩ := res_bay (.int .i64 0) (.slice none 0 0) z0 z1
    clear hb c0 c0b
    go_wp2_with fail
    exact bodyPost_ret (v := .tuple #[.agg #[.int .i64 0, .slice none 0 0], .bool false]) (by simp [results, Try.results56, go_sem, e7, e8]) rfl (retB_zero F1.out)
  | true =>
    obtain ⟨hgd, hs0, hs1⟩ := okB_iff.1 hg
    obtain ⟨i, rfl⟩ : ∃ i : Nat, s = (i : Int) := ⟨s.toNat, by omega⟩
    have hok := okPB_nat (x := x) hg
    obtain ⟨n, hn⟩ : ∃ n, Y.length = n := ⟨_, rfl⟩
    have HN := Lib.hid hn
    have hin : i < n := by omega
    have hn6 : n ≤ 6 := by have := (goodB_small hgd).1; omega
    obtain ⟨l, hl⟩ := get_at hn hin
    have HL := Lib.hid hl
    obtain ⟨m, hm⟩ : ∃ m, l.length = m := ⟨_, rfl⟩
    have HM := Lib.hid hm
    have hm4 : m ≤ 4 := by have := (goodB_rows hgd).2.2.1 l (List.mem_of_getElem? hl); omega
    have HSm := Lib.hid (putB_small (s := i) (x := x) hgd)
    rw [hg] at HF
    have HCp := Lib.hid (fun W hb => copyBay_any (.agg #[.int .i64 hh, v0]) hh Y h1 h2 W ⟨v0, rfl, HV.out.below hb⟩)
    unfold NewBd at HCp
    rw [hn] at HCp
    rw [hok]
    have HXn : Hid (goodB hh (putY Y i x) = false → putRB hh Y (i : Int) x = [] ∧ putHB hh Y (i : Int) x = 0) := Lib.hid fun e => putB_no (hok.trans e)
    have HXy : Hid (goodB hh (putY Y i x) = true → putRB hh Y (i : Int) x = putY Y i x ∧ putHB hh Y (i : Int) x = hh) := Lib.hid fun e => putB_yes (hok.trans e)
    have HPL : Hid ((putY Y i x).length = n) := Lib.hid (by rw [putY_len]; exact hn)
    clear hg hgd hs0 hs1 hok hn hl hm h1 h2
    go_enter Try.func56, Try.ntmps56
    go_wp2_with fail
    refine HF.out.mono ?_
    rintro e w1 ⟨rfl, hb⟩
    have F1 := Lib.hid (F0.out.below hb)
    have hzR := F1.out.lt
    have c1 := F1.out.a.2.1
    have c1b := F1.out.a.2.2
    clear hb c0 c0b
    go_wp2_with fail
    refine (HCp.out _ F1.out.bl).mono ?_
    rintro e w2 ⟨a2, c2, rfl, ho, hb⟩
    obtain ⟨g, cap, e⟩ := ho.rows (by have := HN.out; omega)
    injection e with e1 e2 e3
    subst e1 e3
    have F2 := Lib.hid (F1.out.below hb)
    have O2 := Lib.hid ho
    have hz2 := hb.size
    have hgB := own_at ho
    clear hb ho c1 c1b e2
    go_wp2_with fail
    have hb3 := below_one w2 (.cells #[.int .i64 hh, .slice (some ⟨g, 0, none⟩) n c2] 54)
    have F3 := Lib.hid (F2.out.below hb3)
    have BO := Lib.hid (Box2.new w2 hh (.slice (some ⟨g, 0, none⟩) n c2) 54)
    have O3 := Lib.hid (O2.out.below hb3)
    have hz3 := hb3.size
    clear hb3
    generalize w2.alloc (.cells #[.int .i64 hh, .slice (some ⟨g, 0, none⟩) n c2] 54) = w3 at *
    obtain ⟨u, hu, -, hou, hub⟩ := O3.out.cell HL.out
    obtain ⟨a4, c4, rfl⟩ := own_form hou
    rw [HM.out] at hu hou hub
    have HO4 := Lib.hid hou
    have cO := BO.out.2.2
    have hgO : ¬ g = w2.heap.size := by omega
    have hOg : ¬ w2.heap.size = g := by omega
    have HP := Lib.hid (fun (w5 : World) (v' : Value) (o : Obj) (ho : w5.ownsRow w1.heap.size 3 1 v' (m + 1) (intV l ++ [.int .i64 x])) (hg : (w3.drew.alloc o).grownBy w5 (Value.slice a4 m c4).ownBlock) (hat : v'.ownBlock = (Value.slice a4 m c4).ownBlock ∨ v'.ownBlock = some (w3.drew.alloc o).heap.size) =>
      putRB_of (w := w) (w2 := w2) (w3 := w3.drew) (O3.out.below (Below.refl _ w3).drew) HL.out HM.out hu ho hg hat (BO.out.below (Below.refl _ w3).drew) F3.out.drew hzR)
    have HU5 := Lib.hid (fun o => row_below HO4.out (((Below.refl _ w3).drew).alloc (Nat.le_refl _) o))
    have hcB := fun o => (World.cell?_alloc_lt w3 o ⟨w2.heap.size, 1, none⟩ BO.out.1).trans cO
    have hu9 : w3.drew.cell? ⟨g, i, none⟩ = some (.slice a4 m c4) := hu
    have hg3 : ¬ g = w3.heap.size := by omega
    have huB := fun o => (World.cell?_alloc_lt w3 o ⟨g, i, none⟩ (by show g < w3.heap.size; omega)).trans hu
    have hg4 : ¬ w3.heap.size = g := by omega
    have hcA := fun o => (World.cell?_alloc_lt w3.drew o ⟨w2.heap.size, 1, none⟩ BO.out.1).trans cO
    have hzz : w1.heap.size ≤ w3.heap.size := by omega
    have HZA := Lib.hid (fun o => Nat.le_trans hzz (below_one w3.drew o).size)
    clear hou hub HO4
    go_wp2_with fail
    go_cut [] from 16 (fun w6 => Hid (PutRB w w1 w2 hh v0 g n c2 (putY Y i x) w6))
    case first =>
      go_region_law (first | (refine step_int_at (by rfl) _ _ (by rfl) w1.heap.size _ m (intV l) (by rfl) (HU5.out _) _ _ _ (by rfl) (cell_val_new _ _ _) (by simp [Value.oneCell']) (by omega) (HZA.out _) ?_; intro v5 w5 ho5 hg5 hat5; have HP5 := Lib.hid (HP.out w5 v5 _ ho5 hg5 hat5); obtain ⟨y5, p2⟩ := HP5.out.2.1; have p3 := HP5.out.2.2; have q1 : w5.cell? ⟨w2.heap.size, 1, none⟩ = some (.slice (some ⟨g, 0, none⟩) n c2) := (set_cell_ne _ _ _ _ _ _ hOg).symm.trans HP5.out.1.2.1.2.2; obtain ⟨a6, c6, rfl⟩ := own_form ho5; clear ho5 hg5 hat5))
      all_goals
        have HPx := Lib.hid HP5.out.1
        clear HP5 p2 p3 q1 y5
        go_wp2_with fail
        go_meet
        exact HPx
    case rest =>
      obtain ⟨o6, b6, f6⟩ := hcut.out
      have O6 := Lib.hid o6
      have F6 := Lib.hid f6
      have B6 := Lib.hid b6
      have cO6 := b6.2.1
      have cO6b := b6.2.2
      have HGd := Lib.hid (goodB_impl (.agg #[.int .i64 hh, .slice (some ⟨g, 0, none⟩) n c2]) hh (putY Y i x) (by have := HSm.out.1; omega) (by have := HSm.out.2; omega) wc ⟨_, rfl, O6.out.yl⟩)
      clear o6 b6 f6 hcut
      cases hgp : goodB hh (putY Y i x) with
      | false =>
        have HXX := Lib.hid (And.intro (HXn.out hgp) hgp)
        rw [hgp] at HGd
        clear hgp
        go_wp2_with fail
        refine HGd.out.mono ?_
        rintro e w7 ⟨rfl, hb⟩
        have F7 := Lib.hid (F6.out.below hb)
        obtain ⟨z0, z1, f0⟩ := F7.out.z
        obtain ⟨e7, e8⟩ := res_bay (.int .i64 0) (.slice none 0 0) z0 z1
        clear hb cO6 cO6b
        go_wp2_with fail
        refine bodyPost_ret (v := .tuple #[.agg #[.int .i64 0, .slice none 0 0], .bool false]) (by simp [results, Try.results56, go_sem, e7, e8]) rfl ?_
        rw [HXX.out.1.1, HXX.out.1.2, HXX.out.2]
        exact retB_zero F7.out
      | true =>
        have HXX := Lib.hid (And.intro (HXy.out hgp) hgp)
        rw [hgp] at HGd
        clear hgp
        go_wp2_with fail
        refine HGd.out.mono ?_
        rintro e w7 ⟨rfl, hb⟩
        have F7 := Lib.hid (F6.out.below hb)
        have O7 := Lib.hid (O6.out.below hb)
        obtain ⟨z0, z1, f0⟩ := F7.out.z
        have B7 := B6.out.below hb
        have cO7 := B7.2.1
        have cO7b := B7.2.2
        obtain ⟨e7, e8⟩ := res_bay (.int .i64 hh) (.slice (some ⟨g, 0, none⟩) n c2) z0 z1
        clear hb cO6 cO6b B7
        go_wp2_with fail
        refine bodyPost_ret (v := .tuple #[.agg #[.int .i64 hh, .slice (some ⟨g, 0, none⟩) n c2], .bool true]) (by simp [results, Try.results56, go_sem, e7, e8]) rfl ?_
        rw [HXX.out.1.1, HXX.out.1.2, HXX.out.2]
        refine ⟨_, _, by rw [HPL.out], ?_, F7.out.set _ _⟩
        rw [HPL.out]
        exact (O7.out.span (span_res w7 (w.heap.size + 1) _ _) (.inr (by omega))).mono (by omega) (by have := O7.out.1; simpa using this) (Nat.le_refl _)
end Go.Proofs.Ytececghifehjeaa
