/-
  What impl.ParseBay returns at every text. No statement of the seat by itself.
-/
import Derived.Test.YtfbeoficgkkamaaDoorPbS
namespace Go.Proofs.YtfbeoficgkkamaaDoor
open Go.RowKit

set_option maxRecDepth 100000 in
set_option maxHeartbeats 4000000 in
theorem implPr_big (s : ByteArray) (hs : 4000 < s.size) (w : World) :
    Calls Tryd.prog 6 #[.string s] w (RetB w (bH s) (bY s) (okI s)) := by
  have HOk : Hid (okI s = false) := Lib.hid (by cases ho : okI s with | false => rfl | true => have := (ok_small ho).1; omega)
  have H0 := Lib.hid (below_one w (.cells #[.int .i64 0, .slice none 0 0] 24))
  have K0 := Lib.hid (heap_alloc_new w (.cells #[.int .i64 0, .slice none 0 0] 24))
  have HSp := Lib.hid (fun W => split_bad s ⟨#[10]⟩ (.inl hs) W)
  go_enter Tryd.func6, Tryd.ntmps6
  go_wp2_with fail
  generalize w.alloc (.cells #[.int .i64 0, .slice none 0 0] 24) = w0 at *
  refine (HSp.out w0).mono ?_
  rintro e w1 ⟨vs, rfl, hrow, hb⟩
  have K1 := (hb.block _ (Array.getElem?_eq_some_iff.1 K0.out).1).trans K0.out
  have H1 := Lib.hid (H0.out.trans (hb.mono H0.out.size))
  have z0 := cell_of (i := 0) K1 rfl
  have z1 := cell_of (i := 1) K1 rfl
  have f0 := fun i => free_of (i := i) K1
  obtain ⟨e7, e8⟩ := res_bay (.int .i64 0) (.slice none 0 0) z0 z1
  clear hrow hb K1
  go_wp2_with fail
  refine bodyPost_ret (v := .tuple #[.agg #[.int .i64 0, .slice none 0 0], .bool false]) (by simp [results, Tryd.results6, go_sem, e7, e8]) rfl ?_
  rw [HOk.out, (ok_no HOk.out).1, (ok_no HOk.out).2]
  exact ⟨none, 0, rfl, OwnY.nil _ _ _ (Nat.le_refl _), (H1.out.setCell (p := ⟨w.heap.size, 0, none⟩) (Nat.le_refl _) _).setCell (p := ⟨w.heap.size, 1, none⟩) (Nat.le_refl _) _⟩
theorem implPr_all (s : ByteArray) (w : World) (hE : ErrVars w) : Calls Tryd.prog 6 #[.string s] w (RetB w (bH s) (bY s) (okI s)) := by
  by_cases hs : s.size ≤ 4000
  · exact implPr_any s hs w hE
  · exact implPr_big s (by omega) w
theorem bY_small (s : ByteArray) : (bY s).length ≤ 1048576 ∧ tot (bY s) ≤ 1048576 := by
  unfold bY
  split
  · rename_i ho
    have h1 := rI_len s
    have h2 := (ok_small ho).1
    omega
  · simp [tot]
end Go.Proofs.YtfbeoficgkkamaaDoor
