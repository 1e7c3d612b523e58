/-
  What spec.DrawIsValidYard, spec.DrawBadlyPlaced and spec.DrawChooseStack draw. No statement of the seat by itself.
-/
import Derived.Test.YthokmklnldoinaaDPut
namespace Go.Proofs.Ythokmklnldoinaa.D
open Go.RowKit

/-- A yard was drawn. -/
def DrawnY (w : World) (e : Ending) (w' : World) : Prop :=
  ∃ a c Y, e = .returned (.agg #[.slice a Y.length c]) ∧ Y.length ≤ 7 ∧ rows5 Y ∧ OwnY w' w.heap.size w'.heap.size (.slice a Y.length c) Y ∧ Below w.heap.size w w'
/-- A yard and a number were drawn. -/
def DrawnYN (w : World) (e : Ending) (w' : World) : Prop :=
  ∃ a c Y, ∃ x : Int, e = .returned (.tuple #[.agg #[.slice a Y.length c], .int .i64 x]) ∧ Y.length ≤ 7 ∧ rows5 Y ∧ OwnY w' w.heap.size w'.heap.size (.slice a Y.length c) Y ∧ Below w.heap.size w w'

set_option maxRecDepth 100000 in
set_option maxHeartbeats 4000000 in
theorem drawIs_any (a : Option Addr) (len cap : Nat) (w : World) (h : CodeArg w a len) : Calls Try.prog 40 #[.slice a len cap] w (DrawnY w) := by
  have hb1 := below_one w (.cells #[.slice none 0 0] 26)
  have H0 := cur_new (w.alloc (.cells #[.slice none 0 0] 26)) a len cap (h.below hb1)
  rw [show (w.alloc (.cells #[.slice none 0 0] 26)).heap.size = w.heap.size + 1 by simp] at H0
  have HC0 := Lib.hid H0
  clear h hb1 H0
  go_enter Try.func40, Try.ntmps40
  go_wp2_with fail
  refine (anyYard_any (w.heap.size + 1) 0 (.slice a len cap) (by decide) _ HC0.out).mono ?_
  rintro e w1 ⟨a1, c1, Y, rfl, hy7, hy5, ho, hc, hg⟩
  have H1 := Lib.hid (DS.start hc hg ho)
  have HY5 := Lib.hid hy5
  have HY7 := Lib.hid hy7
  obtain ⟨k, hk⟩ : ∃ k, Y.length = k := ⟨_, rfl⟩
  have HK := Lib.hid hk
  rw [hk] at H1 ⊢
  clear hc hg ho hy7 hy5 hk
  obtain ⟨hS, c8, f8⟩ := H1.out.finish
  have HS := Lib.hid hS
  have e8 := World.cell?_setCell_same _ _ (.slice a1 k c1) c8
  clear hS
  go_wp2_with fail
  refine bodyPost_ret (v := .agg #[.slice a1 k c1]) (by simp [results, Try.results40, go_sem, e8]) rfl ?_
  exact ⟨a1, c1, Y, by rw [HK.out], HY7.out, HY5.out, by rw [HK.out]; exact HS.out.1, HS.out.2⟩

set_option maxRecDepth 100000 in
set_option maxHeartbeats 4000000 in
theorem drawBad_any (a : Option Addr) (len cap : Nat) (w : World) (h : CodeArg w a len) : Calls Try.prog 12 #[.slice a len cap] w (DrawnY w) := by
  have hb1 := below_one w (.cells #[.slice none 0 0] 26)
  have hj := heap_alloc_new w (.cells #[.slice none 0 0] 26)
  have HJ := Lib.hid hj
  have HB := Lib.hid hb1
  have HD := Lib.hid (drawIs_any a len cap _ (h.below hb1))
  have hz1 : (w.alloc (.cells #[.slice none 0 0] 26)).heap.size = w.heap.size + 1 := by simp
  have HZ1 := Lib.hid hz1
  clear h hb1 hj hz1
  go_enter Try.func12, Try.ntmps12
  go_wp2_with fail
  refine HD.out.mono ?_
  rintro e w1 ⟨a1, c1, Y, rfl, hy7, hy5, ho, hb⟩
  have HO := Lib.hid ho
  have HY5 := Lib.hid hy5
  have HY7 := Lib.hid hy7
  have HBb := Lib.hid (HB.out.trans (hb.mono HB.out.size))
  have j1 := (hb.block w.heap.size (by rw [HZ1.out]; omega)).trans HJ.out
  have hzl : w.heap.size < w1.heap.size := (Array.getElem?_eq_some_iff.1 j1).1
  have c8 : w1.cell? ⟨w.heap.size, 0, none⟩ = some (.slice none 0 0) := cell_of j1 rfl
  have f8 : w1.frozen? ⟨w.heap.size, 0, none⟩ = false := free_of j1
  obtain ⟨k, hk⟩ : ∃ k, Y.length = k := ⟨_, rfl⟩
  have HK := Lib.hid hk
  rw [hk] at HO ⊢
  have e8 := World.cell?_setCell_same _ _ (.slice a1 k c1) c8
  have HZL := Lib.hid hzl
  clear ho hy7 hy5 hb j1 hk hzl
  go_wp2_with fail
  refine bodyPost_ret (v := .agg #[.slice a1 k c1]) (by simp [results, Try.results12, go_sem, e8]) rfl ?_
  have hS : Span w.heap.size (w.heap.size + 1) w1 (w1.setCell ⟨w.heap.size, 0, none⟩ (.slice a1 k c1)) := span_set (Nat.le_refl _) (by omega) _
  have ho := HO.out
  rw [HZ1.out] at ho
  exact ⟨a1, c1, Y, by rw [HK.out], HY7.out, HY5.out, by rw [HK.out]; exact (ho.span hS (.inr (Nat.le_refl _))).mono (by omega) hS.size (Nat.le_refl _), HBb.out.setCell (p := ⟨w.heap.size, 0, none⟩) (Nat.le_refl _) _⟩

set_option maxRecDepth 100000 in
set_option maxHeartbeats 4000000 in
theorem drawCho_any (a : Option Addr) (len cap : Nat) (w : World) (h : CodeArg w a len) : Calls Try.prog 21 #[.slice a len cap] w (DrawnYN w) := by
  have hb1 := below_one w (.cells #[.slice none 0 0] 26)
  have H0 := cur_new (w.alloc (.cells #[.slice none 0 0] 26)) a len cap (h.below hb1)
  rw [show (w.alloc (.cells #[.slice none 0 0] 26)).heap.size = w.heap.size + 1 by simp] at H0
  have HC0 := Lib.hid H0
  clear h hb1 H0
  go_enter Try.func21, Try.ntmps21
  go_wp2_with fail
  refine (anyYard_any (w.heap.size + 1) 0 (.slice a len cap) (by decide) _ HC0.out).mono ?_
  rintro e w3 ⟨a1, c1, Y, rfl, hy7, hy5, ho, hc, hg⟩
  have H3 := Lib.hid (DS.start hc hg ho)
  have HY5 := Lib.hid hy5
  have HY7 := Lib.hid hy7
  obtain ⟨k, hk⟩ : ∃ k, Y.length = k := ⟨_, rfl⟩
  have HK := Lib.hid hk
  rw [hk] at H3 ⊢
  clear hc hg ho hy7 hy5 hk
  have HA := Lib.hid (H3.out.below (below_one w3 (.cells #[.int .i64 1, .int .i64 10, .int .i64 11, .int .i64 12, .int .i64 50, .int .i64 99, .int .i64 3, .int .i64 0, .int .i64 100] 3)))
  have HLI := Lib.hid (listI_new w3 (.cells #[.int .i64 1, .int .i64 10, .int .i64 11, .int .i64 12, .int .i64 50, .int .i64 99, .int .i64 3, .int .i64 0, .int .i64 100] 3) [1, 10, 11, 12, 50, 99, 3, 0, 100] (fun _ => True) rfl (fun _ _ => trivial))
  have hne : w3.heap.size ≠ w.heap.size + 1 := by have := H3.out.2.2.2.2; omega
  go_wp2_with fail
  refine (among_any (w.heap.size + 1) (0 + 160) w3.heap.size 9 9 (fun _ => True) (.slice a len cap) (by decide) (by decide) (by decide) _ HA.out.1 hne HLI.out).mono ?_
  rintro e w4 ⟨z, rfl, -, hc, hg⟩
  have H4 := Lib.hid (HA.out.pick hc hg)
  clear hc hg
  obtain ⟨hS, c8, f8⟩ := H4.out.finish
  have HS := Lib.hid hS
  have e8 := World.cell?_setCell_same _ _ (.slice a1 k c1) c8
  clear hS
  go_wp2_with fail
  refine bodyPost_ret (v := .tuple #[.agg #[.slice a1 k c1], .int .i64 z]) (by simp [results, Try.results21, go_sem, e8]) rfl ?_
  exact ⟨a1, c1, Y, z, by rw [HK.out], HY7.out, HY5.out, by rw [HK.out]; exact HS.out.1, HS.out.2⟩
end Go.Proofs.Ythokmklnldoinaa.D
