/-
  What spec.l5Move returns. No statement of the seat by itself.
-/
import Derived.Test.YtonploneihnekaaMoveM
namespace Go.Proofs.Ytonploneihnekaa
open Go.RowKit

theorem movedR_of {w w1 w2 w6 w10 : World} {g n c j p : Nat} {Z : List (List Int)} {lt : List Int} {x : Int} {v' : Value} (h : PutR w w1 w2 g n c Z w6) (hl : Z[j]? = some lt) (hp : lt.length = p) (hB : Below w6.heap.size w6 w10)
    (ho : w10.ownsRow w6.heap.size 3 1 v' (p + 1) (intV lt ++ [.int .i64 x])) (hg : w1.heap.size ≤ g ∧ g < w2.heap.size) (hz : w.heap.size + 1 < w1.heap.size) :
    PutR w w1 w2 g n c (putY Z j x) (w10.setCell ⟨g, j, none⟩ v') ∧ (∃ y, w10.cell? ⟨g, j, none⟩ = some y) ∧ w10.frozen? ⟨g, j, none⟩ = false := by
  obtain ⟨h1, h2, h3, h4⟩ := h
  obtain ⟨u, hu, hfz, hou, hub⟩ := h1.cell hl
  have e : intV lt ++ [.int .i64 x] = intV (lt ++ [x]) := by simp [intV]
  rw [e] at ho
  have hw6 : w1.heap.size ≤ w6.heap.size := by have := h2.1; omega
  have hgw : g < w6.heap.size := by have := h2.1; omega
  have hr := h1.repl (w' := w10) (l' := lt ++ [x]) (u' := v') (lt_of_get hl) hu (grown_of_below hB _) (by rw [List.length_append, hp]; exact ho.mono hw6) fun b hb => .inr (row_base ho b hb)
  rw [putY_of hl]
  refine ⟨⟨hr.1.mono (Nat.le_refl _) (by simp) (Nat.le_refl _), ⟨?_, ?_⟩, ?_, (h4.trans (hB.mono h4.size)).setCell (p := ⟨g, j, none⟩) (by show w.heap.size ≤ g; omega) _⟩, ⟨u, (hB.cell (p := ⟨g, j, none⟩) hgw).trans hu⟩, (hB.frozen (p := ⟨g, j, none⟩) hgw).trans hfz⟩
  · have := h2.1; have := hB.size; simp; omega
  · rw [set_cell_ne _ _ _ _ _ _ (by omega)]
    exact (hB.cell (p := ⟨w2.heap.size, 0, none⟩) h2.1).trans h2.2
  · rw [Below.heap_setCell w10 ⟨g, j, none⟩ v' _ (by show w.heap.size + 1 ≠ g; omega)]
    exact (hB.block _ (by omega)).trans h3

set_option maxRecDepth 100000 in
set_option maxHeartbeats 8000000 in
theorem l5Move_any (v : Value) (Y : List (List Int)) (i j m p : Nat) (l lt : List Int) (x : Int) (h1 : Y.length ≤ 1048576) (h2 : tot Y ≤ 1048576) (hg6 : Y.length ≤ 6) (hl : Y[i]? = some l) (hm : l.length = m + 1) (hm4 : m ≤ 4) (hx : l[m]? = some x) (hij : i ≠ j) (hlt : Y[j]? = some lt) (hp : lt.length = p) (hp4 : p ≤ 4) (w : World) (h : YdR w v Y) :
    Calls Try.prog 58 #[v, .int .i64 (i : Int), .int .i64 (j : Int)] w (NewYd w (putY (Y.set i (l.take m)) j x)) := by
  obtain ⟨v0, rfl, hv⟩ := h
  have hb0 := below_one w (.cells #[v0] 31)
  have hb1 := below_one (w.alloc (.cells #[v0] 31)) (.cells #[.slice none 0 0] 31)
  have HB := Lib.hid (hb0.trans (hb1.mono (by simp)))
  have HA := Lib.hid ((Box1.new w v0 31).below hb1)
  have hRb := heap_alloc_new (w.alloc (.cells #[v0] 31)) (.cells #[.slice none 0 0] 31)
  rw [show (w.alloc (.cells #[v0] 31)).heap.size = w.heap.size + 1 by simp] at hRb
  have J := Lib.hid hRb
  have hzW : ((w.alloc (.cells #[v0] 31)).alloc (.cells #[.slice none 0 0] 31)).heap.size = w.heap.size + 2 := by simp
  have c0 := HA.out.2
  obtain ⟨n, hn⟩ : ∃ n, Y.length = n := ⟨_, rfl⟩
  have hin : i < n := by have := lt_of_get hl; omega
  have hjn : j < n := by have := lt_of_get hlt; omega
  have HCp := Lib.hid (l5Own_any (.agg #[v0]) Y h1 h2 _ ⟨v0, rfl, hv.below HB.out⟩)
  unfold NewYd at HCp
  rw [hn] at HCp
  obtain ⟨M, hMM⟩ : ∃ M, l.length = M := ⟨_, rfl⟩
  have hM1 : M = m + 1 := by omega
  have HL := Lib.hid hl
  have HM := Lib.hid hMM
  have HX := Lib.hid hx
  have HLT := Lib.hid (show (Y.set i (l.take m))[j]? = some lt by rw [List.getElem?_set_ne hij]; exact hlt)
  have HP := Lib.hid hp
  have HPL : Hid ((putY (Y.set i (l.take m)) j x).length = n) := Lib.hid (by rw [putY_len, List.length_set]; exact hn)
  have hsub : (M : Int) - 1 = (m : Int) := by omega
  have hn6 : n ≤ 6 := by omega
  have HN0 : Hid (0 < Y.length) := Lib.hid (by omega)
  clear hb0 hb1 hRb hv hl hm hx hlt hp h1 h2 hn hMM hg6
  go_enter Try.func58, Try.ntmps58
  go_wp2_with fail
  clear c0
  generalize (w.alloc (.cells #[v0] 31)).alloc (.cells #[.slice none 0 0] 31) = w1 at *
  refine HCp.out.mono ?_
  rintro e w2 ⟨a2, c2, rfl, ho, hb⟩
  obtain ⟨g, cap, e⟩ := ho.rows HN0.out
  injection e with e1 e2 e3
  subst e1 e3
  have B2 := Lib.hid (HB.out.trans (hb.mono HB.out.size))
  have O2 := Lib.hid ho
  have hzR : w.heap.size + 1 < w1.heap.size := by omega
  have J2 := Lib.hid ((hb.block _ hzR).trans J.out)
  have hz2 := hb.size
  have hgB : w1.heap.size ≤ g ∧ g < w2.heap.size := by
    obtain ⟨_, hlt, us, h3, _⟩ := ho
    exact ⟨row_base h3 g rfl, hlt g rfl⟩
  have hb3 := below_one w2 (.cells #[.slice (some ⟨g, 0, none⟩) n c2] 31)
  have B3 := Lib.hid (B2.out.trans (hb3.mono B2.out.size))
  have BO := Lib.hid (Box1.new w2 (.slice (some ⟨g, 0, none⟩) n c2) 31)
  have O3 := Lib.hid (O2.out.below hb3)
  have J3 := Lib.hid ((hb3.block _ (by omega)).trans J2.out)
  obtain ⟨u, hu, hfu, hou, -⟩ := O3.out.cell HL.out
  obtain ⟨g4, c4, e⟩ : ∃ g4 c4, u = .slice (some ⟨g4, 0, none⟩) M c4 := by
    rw [HM.out] at hou
    rcases hou.2 with ⟨_, hz⟩ | ⟨g4, c4, cur, hv, _⟩
    · omega
    · exact ⟨g4, c4, hv⟩
  subst e
  rw [HM.out] at hou
  have hxc : (w2.alloc (.cells #[.slice (some ⟨g, 0, none⟩) n c2] 31)).cell? ⟨g4, m, none⟩ = some (.int .i64 x) := by
    rw [hou.cellAt m (by omega), intV_get, HX.out]; rfl
  have cO := BO.out.2
  clear hb ho hb3 hou e2
  go_wp2_with fail
  generalize w2.alloc (.cells #[.slice (some ⟨g, 0, none⟩) n c2] 31) = w3 at *
  have HPall := takeR_of (w := w) (w1 := w1) (w2 := w2) (w3 := w3.drew) (O3.out.below (Below.refl _ w3).drew) HL.out HM.out (show m < M by omega) hu (BO.out.below (Below.refl _ w3).drew) J3.out B3.out.drew hzR
  have HPt := Lib.hid HPall.1
  have hmc := HPall.2.1
  have hkc : (m : Int) ≤ (c4 : Int) := by omega
  clear HPall
  go_cut [] from 27 (fun w6 => Hid (PutR w w1 w2 g n c2 (Y.set i (l.take m)) w6))
  case first =>
    go_region_law (fail)
    all_goals
      go_wp2_with fail
      go_meet
      exact HPt
  case rest =>
    clear HPt hu hfu hxc cO hmc hkc
    rename World => w6
    have H6 := Lib.hid hcut.out
    clear hcut
    obtain ⟨u7, hu7, hfu7, hou7, -⟩ := H6.out.1.cell HLT.out
    obtain ⟨a7, c7, rfl⟩ := own_form hou7
    rw [HP.out] at hu7
    have HZ := Lib.hid (fun W (hb : Below w6.heap.size w6 W) => l1Own_any (.slice a7 lt.length c7) lt (by have := HP.out; omega) W ((il_of_owns hou7).below hb))
    unfold NewI at HZ
    rw [HP.out] at HZ
    have cO := H6.out.2.1.2
    have hz6 := H6.out.2.1.1
    have hg6 : g < w6.heap.size := by omega
    have huB := fun o => (World.cell?_alloc_lt w6 o ⟨g, j, none⟩ hg6).trans hu7
    have hcB := fun o => (World.cell?_alloc_lt w6 o ⟨w2.heap.size, 0, none⟩ hz6).trans cO
    have BD : Hid (Below w6.heap.size w6 w6.drew) := Lib.hid (Below.refl _ w6).drew
    have BDA : Hid (∀ o, Below w6.heap.size w6 (w6.drew.alloc o)) := Lib.hid (fun o => ((Below.refl _ w6).drew).alloc (Nat.le_refl _) o)
    have HSrc := Lib.hid (cell_val_new w6.drew (.int .i64 x) 3)
    have HRes := Lib.hid (fun (w10 : World) (v' : Value) hB ho => movedR_of (w10 := w10) (v' := v') (x := x) H6.out HLT.out HP.out hB ho hgB hzR)
    clear hou7 hfu7
    go_wp2_with fail
    go_cut [] from 38 (fun w9 => Hid (PutR w w1 w2 g n c2 (putY (Y.set i (l.take m)) j x) w9))
    case first =>
      go_region_law (first | (go_simp; go_at_call 72; refine (HZ.out _ BD.out).mono ?_; rintro e w8 ⟨a9, c9, rfl, ho8, hb8⟩; have B8 : Hid (Below w6.heap.size w6 w8) := Lib.hid (BD.out.trans hb8); have HO8 : Hid (w8.ownsRow w6.heap.size 3 1 (.slice a9 p c9) p (intV lt)) := Lib.hid (ho8.mono BD.out.size); have c8 := (B8.out.cell (p := ⟨w2.heap.size, 0, none⟩) hz6).trans cO; have c8A := fun o => (World.cell?_alloc_lt w8 o ⟨w2.heap.size, 0, none⟩ (Nat.lt_of_lt_of_le hz6 B8.out.size)).trans c8; clear ho8 hb8) | (go_simp; go_at_call 72; refine (HZ.out _ (BDA.out _)).mono ?_; rintro e w8 ⟨a9, c9, rfl, ho8, hb8⟩; have B8 : Hid (Below w6.heap.size w6 w8) := Lib.hid ((BDA.out _).trans (hb8.mono (BDA.out _).size)); have HO8 : Hid (w8.ownsRow w6.heap.size 3 1 (.slice a9 p c9) p (intV lt)) := Lib.hid (ho8.mono (BDA.out _).size); have S8 := Lib.hid (fun jj y hy => ((hb8.cell (p := (⟨w6.heap.size, 0, none⟩ : Addr).add jj) (by rw [addr_add]; show w6.heap.size < _; simp)).trans (HSrc.out jj y hy))); have c8 := (B8.out.cell (p := ⟨w2.heap.size, 0, none⟩) hz6).trans cO; clear ho8 hb8) | (refine step_int_at (by rfl) _ _ (by rfl) w6.heap.size _ p (intV lt) (by rfl) (by first | exact HO8.out | exact row_below HO8.out (below_one _ _)) _ _ _ (by rfl) (by first | exact cell_val_new _ _ _ | exact S8.out) (by simp [Value.oneCell']) (by omega) (by first | exact B8.out.size | exact Nat.le_trans B8.out.size (below_one _ _).size) ?_; intro v10 w10 ho10 hg10 hat10; have B10 : Hid (Below w6.heap.size w6 w10) := Lib.hid (by first | exact B8.out.grown hg10 B8.out.size (fun q e => row_base HO8.out q e) | exact (B8.out.alloc B8.out.size _).grown hg10 (Nat.le_trans B8.out.size (below_one _ _).size) (fun q e => row_base HO8.out q e)); have HP10 := Lib.hid (HRes.out w10 v10 B10.out ho10); obtain ⟨y10, p2⟩ := HP10.out.2.1; have p3 := HP10.out.2.2; have q1 := (B10.out.cell (p := ⟨w2.heap.size, 0, none⟩) hz6).trans cO; obtain ⟨a11, c11, rfl⟩ := own_form ho10; clear ho10 hg10 hat10))
      all_goals
        have HPx := Lib.hid HP10.out.1
        clear HP10 p2 p3 q1 y10
        go_wp2_with fail
        go_meet
        exact HPx
    case rest =>
      obtain ⟨o6, b6, j6, B6'⟩ := hcut.out
      have O6 := Lib.hid o6
      have B6 := Lib.hid B6'
      have cO6 := b6.2
      have z0 : wc.cell? ⟨w.heap.size + 1, 0, none⟩ = some (.slice none 0 0) := cell_of j6 rfl
      have f0 : ∀ i, wc.frozen? ⟨w.heap.size + 1, i, none⟩ = false := fun i => free_of j6
      have e7 := World.cell?_setCell_same _ _ (.slice (some ⟨g, 0, none⟩) n c2) z0
      clear o6 b6 j6 B6' hcut hu7 cO huB hcB
      go_wp2_with fail
      have hS : Span (w.heap.size + 1) (w.heap.size + 2) wc (wc.setCell ⟨w.heap.size + 1, 0, none⟩ (.slice (some ⟨g, 0, none⟩) n c2)) := span_set (Nat.le_refl _) (by omega) _
      refine bodyPost_ret (v := .agg #[.slice (some ⟨g, 0, none⟩) n c2]) (by simp [results, Try.results58, go_sem, e7]) rfl ?_
      refine ⟨_, _, by rw [HPL.out], ?_, B6.out.setCell (p := ⟨w.heap.size + 1, 0, none⟩) (by show w.heap.size ≤ w.heap.size + 1; omega) _⟩
      rw [HPL.out]
      exact (O6.out.span hS (.inr (by omega))).mono (by omega) (by simp) (Nat.le_refl _)
end Go.Proofs.Ytonploneihnekaa
