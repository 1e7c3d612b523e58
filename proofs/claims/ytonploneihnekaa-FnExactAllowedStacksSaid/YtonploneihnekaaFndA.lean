/-
  What spec.l7At answers. No statement of the seat by itself.
-/
import Derived.Test.YtonploneihnekaaFndK
namespace Go.Proofs.Ytonploneihnekaa
open Go.RowKit

/-- While the rules are asked by spec.l7At. -/
def AtS (w wr : World) (y : Value) (cx : Array Value) (v : Value) (L : List Fnd) : Prop := GrowF w wr (w.heap.size + 1) v L ∧ wr.heap[w.heap.size]? = some (.cells #[y] 31 (0, 0)) ∧ wr.heap[w.heap.size + 2]? = some (.cells cx 63 (0, 0))
theorem AtS.below {w wr w' : World} {y v : Value} {cx : Array Value} {L : List Fnd} (h : AtS w wr y cx v L) (hb : Below wr.heap.size wr w') : AtS w w' y cx v L := ⟨h.1.below hb, blk_below h.2.1 hb, blk_below h.2.2 hb⟩
theorem AtS.one {w wr w4 : World} {y v v' : Value} {cx : Array Value} {L : List Fnd} {a b c : Int} (o : Obj) (h : AtS w wr y cx v L) (ho : w4.ownsRow (w.heap.size + 1) 70 3 v' (L.length + 1) (flatF L ++ [.int .i64 a, .int .i64 b, .int .i64 c])) (hg : (wr.alloc o).grownBy w4 v.ownBlock) (hnil : v' = .slice none 0 0 ↔ v = .slice none 0 0 ∧ 1 = 0) : AtS w w4 y cx v' (L ++ [(a, b, c)]) :=
  ⟨h.1.one o ho hg hnil, blk_grown (blk_alloc h.2.1 o) (row_below h.1.2.2.2.1 (below_one wr o)) (by decide) hg, blk_grown (blk_alloc h.2.2 o) (row_below h.1.2.2.2.1 (below_one wr o)) (by decide) hg⟩
theorem AtS.start (w : World) (y : Value) (cx : Array Value) : AtS w (((w.alloc (.cells #[y] 31)).alloc (.cells #[] 70)).alloc (.cells cx 63)) y cx (.slice (some ⟨w.heap.size + 1, 0, none⟩) 0 0) [] := by
  refine ⟨(GrowF.start (.cells #[y] 31)).below (below_one _ _), ?_, ?_⟩
  · exact blk_alloc (blk_alloc (heap_alloc_new w _) _) _
  · have := heap_alloc_new ((w.alloc (.cells #[y] 31)).alloc (.cells #[] 70)) (.cells cx 63)
    rw [show ((w.alloc (.cells #[y] 31)).alloc (.cells #[] 70)).heap.size = w.heap.size + 2 by simp] at this
    exact this
theorem toNat_succ (x : Nat) : ((x : Int) + 1).toNat - 1 = x := by omega
theorem pos_nat {x : Int} (h : 1 ≤ x) : ∃ m : Nat, x = (m : Int) + 1 := ⟨x.toNat - 1, by omega⟩

set_option maxRecDepth 100000 in
set_option maxHeartbeats 16000000 in
theorem l7At_up (v : Value) (Y : List (List Int)) (g n : Nat) (f : Nat → C.Cont) (p : Int) (i t : Nat) (l : List Int) (h1 : Y.length ≤ 1048576) (hn : n ≤ 1048576) (hl : Y[i]? = some l) (hk : (t + 1) < l.length) (hl4 : l.length ≤ 1048576) (hr : ∀ x ∈ l, 1 ≤ x ∧ x ≤ (n : Int)) (w : World) (h : YdR w v Y) (hc : C.CAt w g 0 n f) :
    Calls Try.prog 52 #[v, .slice (some ⟨g, 0, none⟩) n n, .int .i64 p, .int .i64 (i : Int), .int .i64 ((t : Int) + 1)] w (AtP w (atF f p i l (t + 1))) := by
  obtain ⟨fI, hiI, hzI, hsI, hbI⟩ := info_is infoF
  obtain ⟨v0, rfl, a, cap, rfl, hcc⟩ := h
  have hi := lt_of_get hl
  obtain ⟨g1, o1, rfl, hg1, hc1⟩ := hcc (by omega)
  obtain ⟨u, hu0, a2, c2, rfl, hrow⟩ := hc1 i l hl
  obtain ⟨g2, o2, rfl, hg2, hc2⟩ := hrow (by omega)
  obtain ⟨x, hx⟩ : ∃ x, l[(t + 1)]? = some x := get_at rfl hk
  obtain ⟨hx1, hx2⟩ := hr x (List.mem_of_getElem? hx)
  obtain ⟨xn, rfl⟩ := pos_nat hx1
  have hxn : xn < n := by omega
  have hxc := hc2 (t + 1) _ hx
  obtain ⟨ga, hcx⟩ := hc
  obtain ⟨a0, a1, a2, a3, a4⟩ := hcx xn hxn
  obtain ⟨y, hy⟩ : ∃ y, l[t]? = some y := get_at rfl (by omega)
  obtain ⟨hy1, hy2⟩ := hr y (List.mem_of_getElem? hy)
  obtain ⟨yn, rfl⟩ := pos_nat hy1
  have hyn : yn < n := by omega
  have hyc := hc2 t _ hy
  obtain ⟨b0, b1, b2, b3, b4⟩ := hcx yn hyn
  have HA : Hid (fndT (f xn) (some (f yn)) (decide ((i : Int) < p)) i (t + 1) 4 = atF f p i l (t + 1)) := Lib.hid (by
    rw [← fndT_four]
    rw [show boxF f (l.getD (t + 1) 0) = f xn by simp [boxF, List.getD, hx]]
    rw [show belF f l (t + 1) = some (f yn) by simp [belF, boxF, List.getD, hy]])
  generalize hfx : f xn = cx at *
  generalize hfy : f yn = cy at *
  have HB0 := Lib.hid (below_one w (.cells #[.slice (some ⟨g1, o1, none⟩) Y.length cap] 31))
  have HBt : Hid (Below w.heap.size w ((w.alloc (.cells #[.slice (some ⟨g1, o1, none⟩) Y.length cap] 31)).alloc (.cells #[] 70))) := Lib.hid (HB0.out.trans ((below_one _ _).mono HB0.out.size))
  have S0 := Lib.hid (AtS.start w (.slice (some ⟨g1, o1, none⟩) Y.length cap) (C.contV cx))
  have HU := Lib.hid (fun W (hb : Below w.heap.size w W) => (hb.cell (p := ⟨g1, o1 + i, none⟩) hg1).trans hu0)
  have HX := Lib.hid (fun W (hb : Below w.heap.size w W) => (hb.cell (p := ⟨g2, o2 + (t + 1), none⟩) hg2).trans hxc)
  have HAC := Lib.hid (fun W (hb : Below w.heap.size w W) => show C.CCells W g (0 + xn * 5) cx from ⟨(hb.cell (p := ⟨g, _, none⟩) ga).trans a0, (hb.cell (p := ⟨g, _, none⟩) ga).trans a1, (hb.cell (p := ⟨g, _, none⟩) ga).trans a2, (hb.cell (p := ⟨g, _, none⟩) ga).trans a3, (hb.cell (p := ⟨g, _, none⟩) ga).trans a4⟩)
  have HY := Lib.hid (fun W (hb : Below w.heap.size w W) => (hb.cell (p := ⟨g2, o2 + t, none⟩) hg2).trans hyc)
  have HBC := Lib.hid (fun W (hb : Below w.heap.size w W) => show C.CCells W g (0 + yn * 5) cy from ⟨(hb.cell (p := ⟨g, _, none⟩) ga).trans b0, (hb.cell (p := ⟨g, _, none⟩) ga).trans b1, (hb.cell (p := ⟨g, _, none⟩) ga).trans b2, (hb.cell (p := ⟨g, _, none⟩) ga).trans b3, (hb.cell (p := ⟨g, _, none⟩) ga).trans b4⟩)
  generalize hny : Y.length = ny at *
  generalize hnr : l.length = nr at *
  have hiI2 : (i : Int) < (ny : Int) := by omega
  have hxnI : (xn : Int) < (n : Int) := by omega
  have hkI : (t : Int) + 1 < (nr : Int) := by omega
  have hynI : (yn : Int) < (n : Int) := by omega
  have htI : (t : Int) < (nr : Int) := by omega
  have ht0 : decide ((0 : Int) < (t : Int) + 1) = true := decide_eq_true (by omega)
  obtain ⟨xi, xs, xw, xc, xp⟩ := cx
  obtain ⟨yi, ys, yw, yc, yp⟩ := cy
  obtain ⟨d0, d1, d2, d3, d4⟩ := HAC.out _ HBt.out
  have e0 := HU.out _ HBt.out
  have e1 := HX.out _ HBt.out
  clear hcc hc1 hu0 hrow hc2 hx hr hxc hcx a0 a1 a2 a3 a4 hfx hx1 hx2 hl hny hnr hy hyc b0 b1 b2 b3 b4 hfy hy1 hy2
  simp only [C.contV, Nat.zero_add] at *
  go_enter Try.func52, Try.ntmps52
  go_wp2_with (first | (go_quiet (fail)) | fail)
  generalize ((w.alloc (.cells #[.slice (some ⟨g1, o1, none⟩) ny cap] 31)).alloc (.cells #[] 70)).alloc (.cells #[.string xi, .int .i64 xs, .int .i64 xw, .int .i64 xc, .int .i64 xp] 63) = w0 at *
  clear d0 d1 d2 d3 d4 e0 e1 HBt HB0
  go_loopw [11, 13, 14] (fun o r b wr => ∃ q : Nat, q ≤ 4 ∧ r = .int .i64 ((q : Int) + 1) ∧ Hid (AtS w wr (.slice (some ⟨g1, o1, none⟩) ny cap) #[.string xi, .int .i64 xs, .int .i64 xw, .int .i64 xc, .int .i64 xp] o (fndT ⟨xi, xs, xw, xc, xp⟩ (some ⟨yi, ys, yw, yc, yp⟩) (decide ((i : Int) < p)) i (t + 1) q))) (fun _ r _ _ => 5 - (intOf r).toNat)
  case atStart => exact ⟨0, Nat.zero_le _, rfl, S0⟩
  case round =>
    obtain ⟨q, hq, rfl, HS⟩ := hrel
    rcases (show q = 0 ∨ q = 1 ∨ q = 2 ∨ q = 3 ∨ q = 4 by omega) with rfl | rfl | rfl | rfl | rfl
    · skip
      have c0 := cell_of (i := 0) HS.out.2.1 rfl
      have x0 := cell_of (i := 0) HS.out.2.2 rfl
      have x1 := cell_of (i := 1) HS.out.2.2 rfl
      have x2 := cell_of (i := 2) HS.out.2.2 rfl
      have x3 := cell_of (i := 3) HS.out.2.2 rfl
      have x4 := cell_of (i := 4) HS.out.2.2 rfl
      have hu := HU.out _ HS.out.1.1
      have hy := HY.out _ HS.out.1.1
      obtain ⟨y0, y1, y2, y3, y4⟩ := HBC.out _ HS.out.1.1
      simp only at y0 y1 y2 y3 y4
      by_cases hcd : yw < xw
      · have hd : decide (yw < xw) = true := by simp [hcd]
        have hbr : brk ⟨xi, xs, xw, xc, xp⟩ (some ⟨yi, ys, yw, yc, yp⟩) (decide ((i : Int) < p)) 1 = true := by rw [brk_1]; simp [hcd]
        clear hcd
        have HE := Lib.hid (fndT_yes (i := i) (k := (t + 1)) (r := 0) hbr)
        have hlen := fndT_len ⟨xi, xs, xw, xc, xp⟩ (some ⟨yi, ys, yw, yc, yp⟩) (decide ((i : Int) < p)) i (t + 1) 0
        generalize fndT ⟨xi, xs, xw, xc, xp⟩ (some ⟨yi, ys, yw, yc, yp⟩) (decide ((i : Int) < p)) i (t + 1) 0 = L0 at *
        obtain ⟨go, co, rfl⟩ := HS.out.1.form
        have hrow := HS.out.1.2.2.2.1
        have hsz := HS.out.1.2.2.1
        go_wp2_with (first | (at_builtin; refine wpList_append_own _ rfl _ _ 28 rfl (w.heap.size + 1) 70 fI (.agg #[.int .i64 0, .int .i64 0, .int .i64 0]) 3 24 Try.underlying28 hiI hzI hsI hbI rfl (by decide) _ _ _ rfl (hrow.alloc _) ⟨wr.heap.size, 0, none⟩ 1 1 [.int .i64 1, .int .i64 (i : Int), .int .i64 ((t : Int) + 1)] rfl rfl (three_new _ _ _ _ _) (by simp [Value.oneCell']) (by unfold maxLen; omega) (by omega) (by simp; omega) ?_; intro v' w4 hown' hgrow hnil) | (go_quiet (fail)) | fail)
        have HN : Hid (AtS w w4 (.slice (some ⟨g1, o1, none⟩) ny cap) #[.string xi, .int .i64 xs, .int .i64 xw, .int .i64 xc, .int .i64 xp] v' (fndT ⟨xi, xs, xw, xc, xp⟩ (some ⟨yi, ys, yw, yc, yp⟩) (decide ((i : Int) < p)) i (t + 1) 1)) := Lib.hid (by rw [HE.out]; first | exact HS.out.one _ hown' hgrow hnil | exact (HS.out.below (below_drewN (Below.refl _ _) _)).one _ hown' hgrow hnil)
        clear hown' hgrow hnil hrow hsz
        exact ⟨⟨1, by omega, by first | rfl | go_num, HN⟩, by simp [intOf]⟩
      · have hd : decide (yw < xw) = false := by simp; omega
        have hbr : brk ⟨xi, xs, xw, xc, xp⟩ (some ⟨yi, ys, yw, yc, yp⟩) (decide ((i : Int) < p)) 1 = false := by rw [brk_1]; simpa using hcd
        clear hcd
        have HN := HS
        rw [← fndT_no (i := i) (k := (t + 1)) (r := 0) hbr] at HN
        go_wp2_with (first | (go_quiet (fail)) | fail)
        first
          | exact ⟨⟨1, by omega, by first | rfl | go_num, HN⟩, by simp [intOf]⟩
          | exact ⟨⟨1, by omega, by first | rfl | go_num, Lib.hid (HN.out.below (below_drewN (Below.refl _ _) _))⟩, by simp [intOf]⟩
    · skip
      have c0 := cell_of (i := 0) HS.out.2.1 rfl
      have x0 := cell_of (i := 0) HS.out.2.2 rfl
      have x1 := cell_of (i := 1) HS.out.2.2 rfl
      have x2 := cell_of (i := 2) HS.out.2.2 rfl
      have x3 := cell_of (i := 3) HS.out.2.2 rfl
      have x4 := cell_of (i := 4) HS.out.2.2 rfl
      have hu := HU.out _ HS.out.1.1
      have hy := HY.out _ HS.out.1.1
      obtain ⟨y0, y1, y2, y3, y4⟩ := HBC.out _ HS.out.1.1
      simp only at y0 y1 y2 y3 y4
      by_cases hcd : xs ≠ ys
      · have hd : (xs != ys) = true := by simp [hcd]
        have hbr : brk ⟨xi, xs, xw, xc, xp⟩ (some ⟨yi, ys, yw, yc, yp⟩) (decide ((i : Int) < p)) 2 = true := by rw [brk_2]; simp [hcd]
        clear hcd
        have HE := Lib.hid (fndT_yes (i := i) (k := (t + 1)) (r := 1) hbr)
        have hlen := fndT_len ⟨xi, xs, xw, xc, xp⟩ (some ⟨yi, ys, yw, yc, yp⟩) (decide ((i : Int) < p)) i (t + 1) 1
        generalize fndT ⟨xi, xs, xw, xc, xp⟩ (some ⟨yi, ys, yw, yc, yp⟩) (decide ((i : Int) < p)) i (t + 1) 1 = L0 at *
        obtain ⟨go, co, rfl⟩ := HS.out.1.form
        have hrow := HS.out.1.2.2.2.1
        have hsz := HS.out.1.2.2.1
        go_wp2_with (first | (at_builtin; refine wpList_append_own _ rfl _ _ 28 rfl (w.heap.size + 1) 70 fI (.agg #[.int .i64 0, .int .i64 0, .int .i64 0]) 3 24 Try.underlying28 hiI hzI hsI hbI rfl (by decide) _ _ _ rfl (hrow.alloc _) ⟨wr.heap.size, 0, none⟩ 1 1 [.int .i64 2, .int .i64 (i : Int), .int .i64 ((t : Int) + 1)] rfl rfl (three_new _ _ _ _ _) (by simp [Value.oneCell']) (by unfold maxLen; omega) (by omega) (by simp; omega) ?_; intro v' w4 hown' hgrow hnil) | (go_quiet (fail)) | fail)
        have HN : Hid (AtS w w4 (.slice (some ⟨g1, o1, none⟩) ny cap) #[.string xi, .int .i64 xs, .int .i64 xw, .int .i64 xc, .int .i64 xp] v' (fndT ⟨xi, xs, xw, xc, xp⟩ (some ⟨yi, ys, yw, yc, yp⟩) (decide ((i : Int) < p)) i (t + 1) 2)) := Lib.hid (by rw [HE.out]; first | exact HS.out.one _ hown' hgrow hnil | exact (HS.out.below (below_drewN (Below.refl _ _) _)).one _ hown' hgrow hnil)
        clear hown' hgrow hnil hrow hsz
        exact ⟨⟨2, by omega, by first | rfl | go_num, HN⟩, by simp [intOf]⟩
      · have hd : (xs != ys) = false := by simpa using hcd
        have hbr : brk ⟨xi, xs, xw, xc, xp⟩ (some ⟨yi, ys, yw, yc, yp⟩) (decide ((i : Int) < p)) 2 = false := by rw [brk_2]; simpa using hcd
        clear hcd
        have HN := HS
        rw [← fndT_no (i := i) (k := (t + 1)) (r := 1) hbr] at HN
        go_wp2_with (first | (go_quiet (fail)) | fail)
        first
          | exact ⟨⟨2, by omega, by first | rfl | go_num, HN⟩, by simp [intOf]⟩
          | exact ⟨⟨2, by omega, by first | rfl | go_num, Lib.hid (HN.out.below (below_drewN (Below.refl _ _) _))⟩, by simp [intOf]⟩
    · skip
      have c0 := cell_of (i := 0) HS.out.2.1 rfl
      have x0 := cell_of (i := 0) HS.out.2.2 rfl
      have x1 := cell_of (i := 1) HS.out.2.2 rfl
      have x2 := cell_of (i := 2) HS.out.2.2 rfl
      have x3 := cell_of (i := 3) HS.out.2.2 rfl
      have x4 := cell_of (i := 4) HS.out.2.2 rfl
      have hu := HU.out _ HS.out.1.1
      have hy := HY.out _ HS.out.1.1
      obtain ⟨y0, y1, y2, y3, y4⟩ := HBC.out _ HS.out.1.1
      simp only at y0 y1 y2 y3 y4
      by_cases hcd : xc = 3
      · have hd : (xc == 3) = true := by simp [hcd]
        have hbr : brk ⟨xi, xs, xw, xc, xp⟩ (some ⟨yi, ys, yw, yc, yp⟩) (decide ((i : Int) < p)) 3 = true := by rw [brk_3]; simp [hcd]
        clear hcd
        have HE := Lib.hid (fndT_yes (i := i) (k := (t + 1)) (r := 2) hbr)
        have hlen := fndT_len ⟨xi, xs, xw, xc, xp⟩ (some ⟨yi, ys, yw, yc, yp⟩) (decide ((i : Int) < p)) i (t + 1) 2
        generalize fndT ⟨xi, xs, xw, xc, xp⟩ (some ⟨yi, ys, yw, yc, yp⟩) (decide ((i : Int) < p)) i (t + 1) 2 = L0 at *
        obtain ⟨go, co, rfl⟩ := HS.out.1.form
        have hrow := HS.out.1.2.2.2.1
        have hsz := HS.out.1.2.2.1
        go_wp2_with (first | (at_builtin; refine wpList_append_own _ rfl _ _ 28 rfl (w.heap.size + 1) 70 fI (.agg #[.int .i64 0, .int .i64 0, .int .i64 0]) 3 24 Try.underlying28 hiI hzI hsI hbI rfl (by decide) _ _ _ rfl (hrow.alloc _) ⟨wr.heap.size, 0, none⟩ 1 1 [.int .i64 3, .int .i64 (i : Int), .int .i64 ((t : Int) + 1)] rfl rfl (three_new _ _ _ _ _) (by simp [Value.oneCell']) (by unfold maxLen; omega) (by omega) (by simp; omega) ?_; intro v' w4 hown' hgrow hnil) | (go_quiet (fail)) | fail)
        have HN : Hid (AtS w w4 (.slice (some ⟨g1, o1, none⟩) ny cap) #[.string xi, .int .i64 xs, .int .i64 xw, .int .i64 xc, .int .i64 xp] v' (fndT ⟨xi, xs, xw, xc, xp⟩ (some ⟨yi, ys, yw, yc, yp⟩) (decide ((i : Int) < p)) i (t + 1) 3)) := Lib.hid (by rw [HE.out]; first | exact HS.out.one _ hown' hgrow hnil | exact (HS.out.below (below_drewN (Below.refl _ _) _)).one _ hown' hgrow hnil)
        clear hown' hgrow hnil hrow hsz
        exact ⟨⟨3, by omega, by first | rfl | go_num, HN⟩, by simp [intOf]⟩
      · have hd : (xc == 3) = false := by simp; omega
        have hbr : brk ⟨xi, xs, xw, xc, xp⟩ (some ⟨yi, ys, yw, yc, yp⟩) (decide ((i : Int) < p)) 3 = false := by rw [brk_3]; simpa using hcd
        clear hcd
        have HN := HS
        rw [← fndT_no (i := i) (k := (t + 1)) (r := 2) hbr] at HN
        go_wp2_with (first | (go_quiet (fail)) | fail)
        first
          | exact ⟨⟨3, by omega, by first | rfl | go_num, HN⟩, by simp [intOf]⟩
          | exact ⟨⟨3, by omega, by first | rfl | go_num, Lib.hid (HN.out.below (below_drewN (Below.refl _ _) _))⟩, by simp [intOf]⟩
    · skip
      have c0 := cell_of (i := 0) HS.out.2.1 rfl
      have x0 := cell_of (i := 0) HS.out.2.2 rfl
      have x1 := cell_of (i := 1) HS.out.2.2 rfl
      have x2 := cell_of (i := 2) HS.out.2.2 rfl
      have x3 := cell_of (i := 3) HS.out.2.2 rfl
      have x4 := cell_of (i := 4) HS.out.2.2 rfl
      have hu := HU.out _ HS.out.1.1
      have hy := HY.out _ HS.out.1.1
      obtain ⟨y0, y1, y2, y3, y4⟩ := HBC.out _ HS.out.1.1
      simp only at y0 y1 y2 y3 y4
      by_cases hcd : xc = 2
      · have hd : (xc == 2) = true := by simp [hcd]
        by_cases hip : (i : Int) < p
        · have hd2 : decide (p ≤ (i : Int)) = false := by simp; omega
          have hbr : brk ⟨xi, xs, xw, xc, xp⟩ (some ⟨yi, ys, yw, yc, yp⟩) (decide ((i : Int) < p)) 4 = false := by rw [brk_4]; simp [hip]
          clear hcd hip
          have HN := HS
          rw [← fndT_no (i := i) (k := (t + 1)) (r := 3) hbr] at HN
          go_wp2_with (first | (go_quiet (fail)) | fail)
          first
            | exact ⟨⟨4, by omega, by first | rfl | go_num, HN⟩, by simp [intOf]⟩
            | exact ⟨⟨4, by omega, by first | rfl | go_num, Lib.hid (HN.out.below (below_drewN (Below.refl _ _) _))⟩, by simp [intOf]⟩
        · have hd2 : decide (p ≤ (i : Int)) = true := by simp; omega
          have hbr : brk ⟨xi, xs, xw, xc, xp⟩ (some ⟨yi, ys, yw, yc, yp⟩) (decide ((i : Int) < p)) 4 = true := by rw [brk_4]; simp [hcd, hip]
          clear hcd hip
          have HE := Lib.hid (fndT_yes (i := i) (k := (t + 1)) (r := 3) hbr)
          have hlen := fndT_len ⟨xi, xs, xw, xc, xp⟩ (some ⟨yi, ys, yw, yc, yp⟩) (decide ((i : Int) < p)) i (t + 1) 3
          generalize fndT ⟨xi, xs, xw, xc, xp⟩ (some ⟨yi, ys, yw, yc, yp⟩) (decide ((i : Int) < p)) i (t + 1) 3 = L0 at *
          obtain ⟨go, co, rfl⟩ := HS.out.1.form
          have hrow := HS.out.1.2.2.2.1
          have hsz := HS.out.1.2.2.1
          go_wp2_with (first | (at_builtin; refine wpList_append_own _ rfl _ _ 28 rfl (w.heap.size + 1) 70 fI (.agg #[.int .i64 0, .int .i64 0, .int .i64 0]) 3 24 Try.underlying28 hiI hzI hsI hbI rfl (by decide) _ _ _ rfl (hrow.alloc _) ⟨wr.heap.size, 0, none⟩ 1 1 [.int .i64 4, .int .i64 (i : Int), .int .i64 ((t : Int) + 1)] rfl rfl (three_new _ _ _ _ _) (by simp [Value.oneCell']) (by unfold maxLen; omega) (by omega) (by simp; omega) ?_; intro v' w4 hown' hgrow hnil) | (go_quiet (fail)) | fail)
          have HN : Hid (AtS w w4 (.slice (some ⟨g1, o1, none⟩) ny cap) #[.string xi, .int .i64 xs, .int .i64 xw, .int .i64 xc, .int .i64 xp] v' (fndT ⟨xi, xs, xw, xc, xp⟩ (some ⟨yi, ys, yw, yc, yp⟩) (decide ((i : Int) < p)) i (t + 1) 4)) := Lib.hid (by rw [HE.out]; first | exact HS.out.one _ hown' hgrow hnil | exact (HS.out.below (below_drewN (Below.refl _ _) _)).one _ hown' hgrow hnil)
          clear hown' hgrow hnil hrow hsz
          exact ⟨⟨4, by omega, by first | rfl | go_num, HN⟩, by simp [intOf]⟩
      · have hd : (xc == 2) = false := by simpa using hcd
        have hbr : brk ⟨xi, xs, xw, xc, xp⟩ (some ⟨yi, ys, yw, yc, yp⟩) (decide ((i : Int) < p)) 4 = false := by rw [brk_4]; simp [hcd]
        clear hcd
        have HN := HS
        rw [← fndT_no (i := i) (k := (t + 1)) (r := 3) hbr] at HN
        go_wp2_with (first | (go_quiet (fail)) | fail)
        first
          | exact ⟨⟨4, by omega, by first | rfl | go_num, HN⟩, by simp [intOf]⟩
          | exact ⟨⟨4, by omega, by first | rfl | go_num, Lib.hid (HN.out.below (below_drewN (Below.refl _ _) _))⟩, by simp [intOf]⟩
    · skip
      have HF := Lib.hid HS.out.1.done
      rw [HA.out] at HF
      go_wp2_with (first | (go_quiet (fail)) | fail)
      go_ret
      exact HF.out

set_option maxRecDepth 100000 in
set_option maxHeartbeats 16000000 in
theorem l7At_zero (v : Value) (Y : List (List Int)) (g n : Nat) (f : Nat → C.Cont) (p : Int) (i : Nat) (l : List Int) (h1 : Y.length ≤ 1048576) (hn : n ≤ 1048576) (hl : Y[i]? = some l) (hk : 0 < l.length) (hl4 : l.length ≤ 1048576) (hr : ∀ x ∈ l, 1 ≤ x ∧ x ≤ (n : Int)) (w : World) (h : YdR w v Y) (hc : C.CAt w g 0 n f) :
    Calls Try.prog 52 #[v, .slice (some ⟨g, 0, none⟩) n n, .int .i64 p, .int .i64 (i : Int), .int .i64 0] w (AtP w (atF f p i l 0)) := by
  obtain ⟨fI, hiI, hzI, hsI, hbI⟩ := info_is infoF
  obtain ⟨v0, rfl, a, cap, rfl, hcc⟩ := h
  have hi := lt_of_get hl
  obtain ⟨g1, o1, rfl, hg1, hc1⟩ := hcc (by omega)
  obtain ⟨u, hu0, a2, c2, rfl, hrow⟩ := hc1 i l hl
  obtain ⟨g2, o2, rfl, hg2, hc2⟩ := hrow (by omega)
  obtain ⟨x, hx⟩ : ∃ x, l[0]? = some x := get_at rfl hk
  obtain ⟨hx1, hx2⟩ := hr x (List.mem_of_getElem? hx)
  obtain ⟨xn, rfl⟩ := pos_nat hx1
  have hxn : xn < n := by omega
  have hxc := hc2 0 _ hx
  obtain ⟨ga, hcx⟩ := hc
  obtain ⟨a0, a1, a2, a3, a4⟩ := hcx xn hxn
  have HA : Hid (fndT (f xn) (none) (decide ((i : Int) < p)) i 0 4 = atF f p i l 0) := Lib.hid (by
    rw [← fndT_four]
    rw [show boxF f (l.getD 0 0) = f xn by simp [boxF, List.getD, hx]]
    rfl)
  generalize hfx : f xn = cx at *
  have HB0 := Lib.hid (below_one w (.cells #[.slice (some ⟨g1, o1, none⟩) Y.length cap] 31))
  have HBt : Hid (Below w.heap.size w ((w.alloc (.cells #[.slice (some ⟨g1, o1, none⟩) Y.length cap] 31)).alloc (.cells #[] 70))) := Lib.hid (HB0.out.trans ((below_one _ _).mono HB0.out.size))
  have S0 := Lib.hid (AtS.start w (.slice (some ⟨g1, o1, none⟩) Y.length cap) (C.contV cx))
  have HU := Lib.hid (fun W (hb : Below w.heap.size w W) => (hb.cell (p := ⟨g1, o1 + i, none⟩) hg1).trans hu0)
  have HX := Lib.hid (fun W (hb : Below w.heap.size w W) => (hb.cell (p := ⟨g2, o2 + 0, none⟩) hg2).trans hxc)
  have HAC := Lib.hid (fun W (hb : Below w.heap.size w W) => show C.CCells W g (0 + xn * 5) cx from ⟨(hb.cell (p := ⟨g, _, none⟩) ga).trans a0, (hb.cell (p := ⟨g, _, none⟩) ga).trans a1, (hb.cell (p := ⟨g, _, none⟩) ga).trans a2, (hb.cell (p := ⟨g, _, none⟩) ga).trans a3, (hb.cell (p := ⟨g, _, none⟩) ga).trans a4⟩)
  generalize hny : Y.length = ny at *
  generalize hnr : l.length = nr at *
  have hiI2 : (i : Int) < (ny : Int) := by omega
  have hxnI : (xn : Int) < (n : Int) := by omega
  have hkI : (0 : Int) < (nr : Int) := by omega
  obtain ⟨xi, xs, xw, xc, xp⟩ := cx
  obtain ⟨d0, d1, d2, d3, d4⟩ := HAC.out _ HBt.out
  have e0 := HU.out _ HBt.out
  have e1 := HX.out _ HBt.out
  clear hcc hc1 hu0 hrow hc2 hx hr hxc hcx a0 a1 a2 a3 a4 hfx hx1 hx2 hl hny hnr
  simp only [C.contV, Nat.zero_add, Nat.add_zero] at *
  go_enter Try.func52, Try.ntmps52
  go_wp2_with (first | (go_quiet (fail)) | fail)
  generalize ((w.alloc (.cells #[.slice (some ⟨g1, o1, none⟩) ny cap] 31)).alloc (.cells #[] 70)).alloc (.cells #[.string xi, .int .i64 xs, .int .i64 xw, .int .i64 xc, .int .i64 xp] 63) = w0 at *
  clear d0 d1 d2 d3 d4 e0 e1 HBt HB0
  go_loopw [11, 13, 14] (fun o r b wr => ∃ q : Nat, q ≤ 4 ∧ r = .int .i64 ((q : Int) + 1) ∧ Hid (AtS w wr (.slice (some ⟨g1, o1, none⟩) ny cap) #[.string xi, .int .i64 xs, .int .i64 xw, .int .i64 xc, .int .i64 xp] o (fndT ⟨xi, xs, xw, xc, xp⟩ none (decide ((i : Int) < p)) i 0 q))) (fun _ r _ _ => 5 - (intOf r).toNat)
  case atStart => exact ⟨0, Nat.zero_le _, rfl, S0⟩
  case round =>
    obtain ⟨q, hq, rfl, HS⟩ := hrel
    rcases (show q = 0 ∨ q = 1 ∨ q = 2 ∨ q = 3 ∨ q = 4 by omega) with rfl | rfl | rfl | rfl | rfl
    · skip
      have c0 := cell_of (i := 0) HS.out.2.1 rfl
      have x0 := cell_of (i := 0) HS.out.2.2 rfl
      have x1 := cell_of (i := 1) HS.out.2.2 rfl
      have x2 := cell_of (i := 2) HS.out.2.2 rfl
      have x3 := cell_of (i := 3) HS.out.2.2 rfl
      have x4 := cell_of (i := 4) HS.out.2.2 rfl
      have HN := HS
      rw [← fndT_no (i := i) (k := 0) (r := 0) (brk_0 _ _ 1 (by decide))] at HN
      go_wp2_with (first | (go_quiet (fail)) | fail)
      first
        | exact ⟨⟨1, by omega, by first | rfl | go_num, HN⟩, by simp [intOf]⟩
        | exact ⟨⟨1, by omega, by first | rfl | go_num, Lib.hid (HN.out.below (below_drewN (Below.refl _ _) _))⟩, by simp [intOf]⟩
    · skip
      have c0 := cell_of (i := 0) HS.out.2.1 rfl
      have x0 := cell_of (i := 0) HS.out.2.2 rfl
      have x1 := cell_of (i := 1) HS.out.2.2 rfl
      have x2 := cell_of (i := 2) HS.out.2.2 rfl
      have x3 := cell_of (i := 3) HS.out.2.2 rfl
      have x4 := cell_of (i := 4) HS.out.2.2 rfl
      have HN := HS
      rw [← fndT_no (i := i) (k := 0) (r := 1) (brk_0 _ _ 2 (by decide))] at HN
      go_wp2_with (first | (go_quiet (fail)) | fail)
      first
        | exact ⟨⟨2, by omega, by first | rfl | go_num, HN⟩, by simp [intOf]⟩
        | exact ⟨⟨2, by omega, by first | rfl | go_num, Lib.hid (HN.out.below (below_drewN (Below.refl _ _) _))⟩, by simp [intOf]⟩
    · skip
      have c0 := cell_of (i := 0) HS.out.2.1 rfl
      have x0 := cell_of (i := 0) HS.out.2.2 rfl
      have x1 := cell_of (i := 1) HS.out.2.2 rfl
      have x2 := cell_of (i := 2) HS.out.2.2 rfl
      have x3 := cell_of (i := 3) HS.out.2.2 rfl
      have x4 := cell_of (i := 4) HS.out.2.2 rfl
      have HN := HS
      rw [← fndT_no (i := i) (k := 0) (r := 2) (brk_0 _ _ 3 (by decide))] at HN
      go_wp2_with (first | (go_quiet (fail)) | fail)
      first
        | exact ⟨⟨3, by omega, by first | rfl | go_num, HN⟩, by simp [intOf]⟩
        | exact ⟨⟨3, by omega, by first | rfl | go_num, Lib.hid (HN.out.below (below_drewN (Below.refl _ _) _))⟩, by simp [intOf]⟩
    · skip
      have c0 := cell_of (i := 0) HS.out.2.1 rfl
      have x0 := cell_of (i := 0) HS.out.2.2 rfl
      have x1 := cell_of (i := 1) HS.out.2.2 rfl
      have x2 := cell_of (i := 2) HS.out.2.2 rfl
      have x3 := cell_of (i := 3) HS.out.2.2 rfl
      have x4 := cell_of (i := 4) HS.out.2.2 rfl
      by_cases hcd : xc = 2
      · have hd : (xc == 2) = true := by simp [hcd]
        by_cases hip : (i : Int) < p
        · have hd2 : decide (p ≤ (i : Int)) = false := by simp; omega
          have hbr : brk ⟨xi, xs, xw, xc, xp⟩ none (decide ((i : Int) < p)) 4 = false := by rw [brk_4]; simp [hip]
          clear hcd hip
          have HN := HS
          rw [← fndT_no (i := i) (k := 0) (r := 3) hbr] at HN
          go_wp2_with (first | (go_quiet (fail)) | fail)
          first
            | exact ⟨⟨4, by omega, by first | rfl | go_num, HN⟩, by simp [intOf]⟩
            | exact ⟨⟨4, by omega, by first | rfl | go_num, Lib.hid (HN.out.below (below_drewN (Below.refl _ _) _))⟩, by simp [intOf]⟩
        · have hd2 : decide (p ≤ (i : Int)) = true := by simp; omega
          have hbr : brk ⟨xi, xs, xw, xc, xp⟩ none (decide ((i : Int) < p)) 4 = true := by rw [brk_4]; simp [hcd, hip]
          clear hcd hip
          have HE := Lib.hid (fndT_yes (i := i) (k := 0) (r := 3) hbr)
          have hlen := fndT_len ⟨xi, xs, xw, xc, xp⟩ none (decide ((i : Int) < p)) i 0 3
          generalize fndT ⟨xi, xs, xw, xc, xp⟩ none (decide ((i : Int) < p)) i 0 3 = L0 at *
          obtain ⟨go, co, rfl⟩ := HS.out.1.form
          have hrow := HS.out.1.2.2.2.1
          have hsz := HS.out.1.2.2.1
          go_wp2_with (first | (at_builtin; refine wpList_append_own _ rfl _ _ 28 rfl (w.heap.size + 1) 70 fI (.agg #[.int .i64 0, .int .i64 0, .int .i64 0]) 3 24 Try.underlying28 hiI hzI hsI hbI rfl (by decide) _ _ _ rfl (hrow.alloc _) ⟨wr.heap.size, 0, none⟩ 1 1 [.int .i64 4, .int .i64 (i : Int), .int .i64 0] rfl rfl (three_new _ _ _ _ _) (by simp [Value.oneCell']) (by unfold maxLen; omega) (by omega) (by simp; omega) ?_; intro v' w4 hown' hgrow hnil) | (go_quiet (fail)) | fail)
          have HN : Hid (AtS w w4 (.slice (some ⟨g1, o1, none⟩) ny cap) #[.string xi, .int .i64 xs, .int .i64 xw, .int .i64 xc, .int .i64 xp] v' (fndT ⟨xi, xs, xw, xc, xp⟩ none (decide ((i : Int) < p)) i 0 4)) := Lib.hid (by rw [HE.out]; first | exact HS.out.one _ hown' hgrow hnil | exact (HS.out.below (below_drewN (Below.refl _ _) _)).one _ hown' hgrow hnil)
          clear hown' hgrow hnil hrow hsz
          exact ⟨⟨4, by omega, by first | rfl | go_num, HN⟩, by simp [intOf]⟩
      · have hd : (xc == 2) = false := by simpa using hcd
        have hbr : brk ⟨xi, xs, xw, xc, xp⟩ none (decide ((i : Int) < p)) 4 = false := by rw [brk_4]; simp [hcd]
        clear hcd
        have HN := HS
        rw [← fndT_no (i := i) (k := 0) (r := 3) hbr] at HN
        go_wp2_with (first | (go_quiet (fail)) | fail)
        first
          | exact ⟨⟨4, by omega, by first | rfl | go_num, HN⟩, by simp [intOf]⟩
          | exact ⟨⟨4, by omega, by first | rfl | go_num, Lib.hid (HN.out.below (below_drewN (Below.refl _ _) _))⟩, by simp [intOf]⟩
    · skip
      have HF := Lib.hid HS.out.1.done
      rw [HA.out] at HF
      go_wp2_with (first | (go_quiet (fail)) | fail)
      go_ret
      exact HF.out
end Go.Proofs.Ytonploneihnekaa
