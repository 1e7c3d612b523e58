/-
  What impl.readYardFinding answers. No statement of the seat by itself.
-/
import Derived.Test.YtcpelnnadabnpaaDoorERdf
namespace Go.Proofs.YtcpelnnadabnpaaDoor
open Go.RowKit Go.Shelf

theorem free_of {w : World} {b : Nat} {cur : Array Value} {t : TypeId} (h : w.heap[b]? = some (.cells cur t (0, 0))) (i : Nat) : w.frozen? ⟨b, i, none⟩ = false := by simp [World.frozen?, h]
theorem set_heap {w : World} {b i : Nat} {cur : Array Value} {t : TypeId} (h : w.heap[b]? = some (.cells cur t (0, 0))) (hi : i < cur.size) (x : Value) : (w.setCell ⟨b, i, none⟩ x).heap[b]? = some (.cells (cur.set i x hi) t (0, 0)) := by
  have hb := (Array.getElem?_eq_some_iff.1 h).1
  have hb' := (Array.getElem?_eq_some_iff.1 h).2
  simp [World.setCell, hb, hb', Array.getElem_modify, Array.setIfInBounds, hi]
/-- Three cells are written. -/
theorem set3_heap {w : World} {b : Nat} {p q r : Value} {t : TypeId} (h : w.heap[b]? = some (.cells #[p, q, r] t (0, 0))) (x y z : Value) :
    (((w.setCell ⟨b, 0, none⟩ x).setCell ⟨b, 1, none⟩ y).setCell ⟨b, 2, none⟩ z).heap[b]? = some (.cells #[x, y, z] t (0, 0)) :=
  set_heap (i := 2) (set_heap (i := 1) (set_heap (i := 0) h (by simp) x) (by simp) y) (by simp) z
theorem set3_below {w0 w : World} {b : Nat} (h : Below b w0 w) (x y z : Value) : Below b w0 (((w.setCell ⟨b, 0, none⟩ x).setCell ⟨b, 1, none⟩ y).setCell ⟨b, 2, none⟩ z) :=
  ((h.setCell (p := ⟨b, 0, none⟩) (Nat.le_refl _) _).setCell (p := ⟨b, 1, none⟩) (Nat.le_refl _) _).setCell (p := ⟨b, 2, none⟩) (Nat.le_refl _) _
/-- A finding was answered. -/
def FndP (w : World) (x : Int × Int × Int) (e : Ending) (w' : World) : Prop := e = .returned (.agg #[.int .i64 x.1, .int .i64 x.2.1, .int .i64 x.2.2]) ∧ Below w.heap.size w w'

set_option maxRecDepth 100000 in
set_option maxHeartbeats 4000000 in
theorem read_any (s : ByteArray) (hs : s.size ≤ 1048576) (w : World) (hT : Tabs w) : Calls Tryd.prog 16 #[.string s] w (FndP w (readF s)) := by
  have hz0 : (Lib.trimPrefix s.data.toList p1B.data.toList).length ≤ 1048576 := Nat.le_trans (trim_len _ _) hs
  have hz1 : (cutT s).1.length ≤ 1048576 := Nat.le_trans (cut_len _ _).1 hz0
  have hz2 : (cutT s).2.1.length ≤ 1048576 := Nat.le_trans (cut_len _ _).2 hz0
  have hz3 : (cutR s).1.length ≤ 1048576 := Nat.le_trans (cut_len _ _).1 hz2
  have hz4 : (cutR s).2.1.length ≤ 1048576 := Nat.le_trans (cut_len _ _).2 hz2
  have H0 := Lib.hid (fun W => trim_any s W)
  have H1 := Lib.hid (fun W (h : Tabs W) => cut_any ⟨(Lib.trimPrefix s.data.toList p1B.data.toList).toArray⟩ p2B (by rw [size_list]; exact hz0) W h)
  have H2 := Lib.hid (fun W (h : Tabs W) => cut_any ⟨(cutT s).2.1.toArray⟩ p3B (by rw [size_list]; exact hz2) W h)
  have H3 := Lib.hid (fun W (h : Tabs W) => implParse_any ⟨(cutT s).1.toArray⟩ (by rw [size_list]; exact hz1) W h.1.1 h.1.2)
  have H4 := Lib.hid (fun W (h : Tabs W) => implParse_any ⟨(cutR s).1.toArray⟩ (by rw [size_list]; exact hz3) W h.1.1 h.1.2)
  have H5 := Lib.hid (fun b W (h : W.heap[b]? = some endsO) => idx_any ⟨(cutR s).2.1.toArray⟩ b W h)
  have HR : Hid (readF s = (Lib.idxOfS endsL ⟨(cutR s).2.1.toArray⟩, (readL (cutT s).1).1, (readL (cutR s).1).1)) := Lib.hid rfl
  rw [show Lib.cut (⟨(Lib.trimPrefix s.data.toList p1B.data.toList).toArray⟩ : ByteArray).data.toList p2B.data.toList = cutT s from by simp [cutT]] at H1
  rw [show Lib.cut (⟨(cutT s).2.1.toArray⟩ : ByteArray).data.toList p3B.data.toList = cutR s from by simp [cutR]] at H2
  rw [show (⟨(cutT s).1.toArray⟩ : ByteArray).data.toList = (cutT s).1 from by simp] at H3
  rw [show (⟨(cutR s).1.toArray⟩ : ByteArray).data.toList = (cutR s).1 from by simp] at H4
  generalize readF s = rf at *
  generalize (⟨(Lib.trimPrefix s.data.toList p1B.data.toList).toArray⟩ : ByteArray) = tr at *
  generalize Lib.idxOfS endsL ⟨(cutR s).2.1.toArray⟩ = ix at *
  generalize readL (cutT s).1 = x1 at *
  generalize readL (cutR s).1 = x2 at *
  generalize (⟨(cutT s).1.toArray⟩ : ByteArray) = a1 at *
  generalize (⟨(cutT s).2.1.toArray⟩ : ByteArray) = a2 at *
  generalize (cutT s).2.2 = o1 at *
  generalize (⟨(cutR s).1.toArray⟩ : ByteArray) = b1 at *
  generalize (⟨(cutR s).2.1.toArray⟩ : ByteArray) = b2 at *
  generalize (cutR s).2.2 = o2 at *
  have HB := Lib.hid (below_one w (.cells #[.int .i64 0, .int .i64 0, .int .i64 0] 26))
  have HK := Lib.hid (heap_alloc_new w (.cells #[.int .i64 0, .int .i64 0, .int .i64 0] 26))
  have HT := Lib.hid hT
  clear hz0 hz1 hz2 hz3 hz4 hT
  unfold p1B p2B p3B at *
  go_enter Tryd.func16, Tryd.ntmps16
  go_wp2_with fail
  generalize w.alloc (.cells #[.int .i64 0, .int .i64 0, .int .i64 0] 26) = w0 at *
  refine (H0.out _).mono ?_
  rintro e w0 ⟨rfl, rfl⟩
  go_wp2_with fail
  refine (H1.out _ (HT.out.below HB.out)).mono ?_
  rintro e _ ⟨rfl, n1, rfl⟩
  have HB := Lib.hid (below_drewN HB.out n1)
  have HK : Hid ((w0.drewN n1).heap[w.heap.size]? = _) := Lib.hid HK.out
  generalize w0.drewN n1 = w1 at *
  go_wp2_with fail
  refine (H2.out _ (HT.out.below HB.out)).mono ?_
  rintro e _ ⟨rfl, n2, rfl⟩
  have HB := Lib.hid (below_drewN HB.out n2)
  have HK : Hid ((w1.drewN n2).heap[w.heap.size]? = _) := Lib.hid HK.out
  generalize w1.drewN n2 = w2 at *
  go_wp2_with fail
  refine (H3.out _ (HT.out.below HB.out)).mono ?_
  rintro e w3 ⟨rfl, hb⟩
  have HK := Lib.hid ((hb.block _ (Array.getElem?_eq_some_iff.1 HK.out).1).trans HK.out)
  have HB := Lib.hid (HB.out.trans (hb.mono HB.out.size))
  clear hb
  go_wp2_with fail
  refine (H4.out _ (HT.out.below HB.out)).mono ?_
  rintro e w4 ⟨rfl, hb⟩
  have HK := Lib.hid ((hb.block _ (Array.getElem?_eq_some_iff.1 HK.out).1).trans HK.out)
  have HB := Lib.hid (HB.out.trans (hb.mono HB.out.size))
  clear hb
  go_wp2_with fail
  refine (reas_any _).mono ?_
  rintro e w5 ⟨rfl, hE, hb⟩
  have HK := Lib.hid ((hb.block _ (Array.getElem?_eq_some_iff.1 HK.out).1).trans HK.out)
  have HB := Lib.hid (HB.out.trans (hb.mono HB.out.size))
  have HE := Lib.hid hE
  clear hb hE
  go_wp2_with fail
  refine (H5.out _ _ HE.out).mono ?_
  rintro e w5 ⟨rfl, rfl⟩
  have c0 := cell_of (i := 0) HK.out rfl
  have c1 := cell_of (i := 1) HK.out rfl
  have c2 := cell_of (i := 2) HK.out rfl
  have f0 := free_of HK.out 0
  have f1 := free_of HK.out 1
  have f2 := free_of HK.out 2
  go_wp2_with fail
  have HK := Lib.hid (set3_heap HK.out (.int .i64 ix) (.int .i64 x1.fst) (.int .i64 x2.fst))
  have HB := Lib.hid (set3_below HB.out (.int .i64 ix) (.int .i64 x1.fst) (.int .i64 x2.fst))
  clear c0 c1 c2 f0 f1 f2
  generalize ((w5.setCell ⟨w.heap.size, 0, none⟩ (.int .i64 ix)).setCell ⟨w.heap.size, 1, none⟩ (.int .i64 x1.fst)).setCell ⟨w.heap.size, 2, none⟩ (.int .i64 x2.fst) = w6 at *
  have c0 := cell_of (i := 0) HK.out rfl
  have c1 := cell_of (i := 1) HK.out rfl
  have c2 := cell_of (i := 2) HK.out rfl
  refine bodyPost_ret (v := .agg #[.int .i64 ix, .int .i64 x1.fst, .int .i64 x2.fst]) (by simp [results, Tryd.results16, go_sem, c0, c1, c2]) rfl ⟨by rw [HR.out], HB.out⟩
end Go.Proofs.YtcpelnnadabnpaaDoor
