/-
  What impl.timetableOf returns. No statement of the seat by itself.
-/
import Derived.Test.YthpiahellpnccaaThirteen
namespace Go.Proofs.Ythpiahellpnccaa
open Go.RowKit

/-- The day of the round voyage on which call j begins, as far as k calls are entered. -/
def tcI (k : Nat) (d : Nat → Int) (j : Nat) : Int := if j < k then sumD d j else 0
/-- A timetable as a value. -/
def ttV (n : Nat) (d : Nat → Int) : Value := .agg #[.int .i64 (tcI n d 0), .int .i64 (tcI n d 1), .int .i64 (tcI n d 2), .int .i64 (tcI n d 3), .int .i64 (tcI n d 4), .int .i64 (tcI n d 5), .int .i64 (tcI n d 6), .int .i64 (tcI n d 7), .int .i64 (tcI n d 8), .int .i64 (tcI n d 9), .int .i64 (tcI n d 10), .int .i64 (tcI n d 11), .int .i64 (sumD d n)]
/-- While the table is filled: k calls are entered. -/
def TabB (wr : World) (T k : Nat) (d : Nat → Int) : Prop := ∃ cur : Array Value, wr.heap[T]? = some (.cells cur 62 (0, 0)) ∧ cur.size = 13 ∧ (∀ j, j < 12 → cur[j]? = some (.int .i64 (tcI k d j))) ∧ cur[12]? = some (.int .i64 (sumD d k))
theorem TabB.cell {wr : World} {T k : Nat} {d : Nat → Int} (h : TabB wr T k d) (j : Nat) (hj : j < 12) : wr.cell? ⟨T, j, none⟩ = some (.int .i64 (tcI k d j)) := by
  obtain ⟨cur, hb, hs, hc, _⟩ := h
  simp [World.cell?, hb, hc j hj]
theorem TabB.last {wr : World} {T k : Nat} {d : Nat → Int} (h : TabB wr T k d) : wr.cell? ⟨T, 12, none⟩ = some (.int .i64 (sumD d k)) := by
  obtain ⟨cur, hb, hs, _, hc⟩ := h
  simp [World.cell?, hb, hc]
theorem TabB.free {wr : World} {T k : Nat} {d : Nat → Int} (h : TabB wr T k d) (j : Nat) : wr.frozen? ⟨T, j, none⟩ = false := by
  obtain ⟨cur, hb, hs, _, hc⟩ := h
  simp [World.frozen?, hb]
theorem TabB.step {wr : World} {T k : Nat} {d : Nat → Int} (h : TabB wr T k d) (hk : k < 12) : TabB ((wr.setCell ⟨T, k, none⟩ (.int .i64 (sumD d k))).setCell ⟨T, 12, none⟩ (.int .i64 (sumD d k + d k))) T (k + 1) d := by
  obtain ⟨cur, hb, hs, hc, hl⟩ := h
  refine ⟨(cur.setIfInBounds k (.int .i64 (sumD d k))).setIfInBounds 12 (.int .i64 (sumD d k + d k)), Lib.heap_setCell_same (Lib.heap_setCell_same hb _) _, by simpa using hs, fun j hj => ?_, ?_⟩
  · rw [Array.getElem?_setIfInBounds_ne (by omega)]
    by_cases e : k = j
    · subst e
      rw [Array.getElem?_setIfInBounds_self_of_lt (by omega)]
      simp [tcI]
    · rw [Array.getElem?_setIfInBounds_ne e, hc j hj]
      unfold tcI
      by_cases h1 : j < k
      · rw [if_pos h1, if_pos (by omega)]
      · rw [if_neg h1, if_neg (by omega)]
  · rw [Array.getElem?_setIfInBounds_self_of_lt (by simpa using by omega)]; rfl

set_option maxRecDepth 100000 in
set_option maxHeartbeats 4000000 in
theorem table_rows (g1 o1 c1 g2 o2 c2 n : Nat) (p d : Nat → Int) (hG : Good n n p d) (w : World) (h2 : IAt w g2 o2 n d) :
    Calls Try.prog 45 #[.agg #[.slice (some ⟨g1, o1, none⟩) n c1, .slice (some ⟨g2, o2, none⟩) n c2]] w fun e w' => e = .returned (ttV n d) ∧ Below w.heap.size w w' := by
  have H2 := Lib.hid h2
  have HG := Lib.hid hG
  have h12 := hG.top
  clear h2 hG
  go_enter Try.func45, Try.ntmps45
  go_wp2_with fail
  obtain ⟨hk0, hk1, hk2, hs, hB0⟩ := three_alloc w (.cells #[.slice (some ⟨g1, o1, none⟩) n c1, .slice (some ⟨g2, o2, none⟩) n c2] 26) (.cells #[.int .i64 0, .int .i64 0, .int .i64 0, .int .i64 0, .int .i64 0, .int .i64 0, .int .i64 0, .int .i64 0, .int .i64 0, .int .i64 0, .int .i64 0, .int .i64 0, .int .i64 0] 62) (.cells #[.int .i64 0, .int .i64 0, .int .i64 0, .int .i64 0, .int .i64 0, .int .i64 0, .int .i64 0, .int .i64 0, .int .i64 0, .int .i64 0, .int .i64 0, .int .i64 0, .int .i64 0] 62)
  have T0 : Hid (TabB (((w.alloc (.cells #[.slice (some ⟨g1, o1, none⟩) n c1, .slice (some ⟨g2, o2, none⟩) n c2] 26)).alloc (.cells #[.int .i64 0, .int .i64 0, .int .i64 0, .int .i64 0, .int .i64 0, .int .i64 0, .int .i64 0, .int .i64 0, .int .i64 0, .int .i64 0, .int .i64 0, .int .i64 0, .int .i64 0] 62)).alloc (.cells #[.int .i64 0, .int .i64 0, .int .i64 0, .int .i64 0, .int .i64 0, .int .i64 0, .int .i64 0, .int .i64 0, .int .i64 0, .int .i64 0, .int .i64 0, .int .i64 0, .int .i64 0] 62)) (w.heap.size + 1 + 1) 0 d) := Lib.hid ⟨_, hk2, rfl, fun j hj => by
    match j, hj with
    | 0, _ => rfl
    | 1, _ => rfl
    | 2, _ => rfl
    | 3, _ => rfl
    | 4, _ => rfl
    | 5, _ => rfl
    | 6, _ => rfl
    | 7, _ => rfl
    | 8, _ => rfl
    | 9, _ => rfl
    | 10, _ => rfl
    | 11, _ => rfl, rfl⟩
  have R0 := Lib.hid hk1
  have B0 := Lib.hid hB0
  have hz : w.heap.size + 1 + 1 < (((w.alloc (.cells #[.slice (some ⟨g1, o1, none⟩) n c1, .slice (some ⟨g2, o2, none⟩) n c2] 26)).alloc (.cells #[.int .i64 0, .int .i64 0, .int .i64 0, .int .i64 0, .int .i64 0, .int .i64 0, .int .i64 0, .int .i64 0, .int .i64 0, .int .i64 0, .int .i64 0, .int .i64 0, .int .i64 0] 62)).alloc (.cells #[.int .i64 0, .int .i64 0, .int .i64 0, .int .i64 0, .int .i64 0, .int .i64 0, .int .i64 0, .int .i64 0, .int .i64 0, .int .i64 0, .int .i64 0, .int .i64 0, .int .i64 0] 62)).heap.size := by omega
  have Z0 := Lib.hid hz
  clear hk0 hk1 hk2 hs hB0 hz
  generalize ((w.alloc (.cells #[.slice (some ⟨g1, o1, none⟩) n c1, .slice (some ⟨g2, o2, none⟩) n c2] 26)).alloc (.cells #[.int .i64 0, .int .i64 0, .int .i64 0, .int .i64 0, .int .i64 0, .int .i64 0, .int .i64 0, .int .i64 0, .int .i64 0, .int .i64 0, .int .i64 0, .int .i64 0, .int .i64 0] 62)).alloc (.cells #[.int .i64 0, .int .i64 0, .int .i64 0, .int .i64 0, .int .i64 0, .int .i64 0, .int .i64 0, .int .i64 0, .int .i64 0, .int .i64 0, .int .i64 0, .int .i64 0, .int .i64 0] 62) = W at *
  go_loopw [9] (fun i wr => ∃ k : Nat, k ≤ n ∧ i = .int .i64 k ∧ Hid (Below w.heap.size w wr) ∧ Hid (TabB wr (w.heap.size + 1 + 1) k d) ∧ Hid (wr.heap[w.heap.size + 1]? = some (.cells #[.int .i64 0, .int .i64 0, .int .i64 0, .int .i64 0, .int .i64 0, .int .i64 0, .int .i64 0, .int .i64 0, .int .i64 0, .int .i64 0, .int .i64 0, .int .i64 0, .int .i64 0] 62 (0, 0)))) (fun i _ => n - (intOf i).toNat)
  case atStart => exact ⟨0, Nat.zero_le _, rfl, B0, T0, R0⟩
  case round =>
    obtain ⟨k, hk, rfl, HB, HT, HR⟩ := hrel
    by_cases hlt : k < n
    · have a2 := (H2.out.below HB.out).2 k hlt
      have hk12 : k < 12 := by omega
      have hki : (k : Int) < (n : Int) := by omega
      have hki2 : (k : Int) < 12 := by omega
      have t1 := HT.out.last
      have t2 := HT.out.cell k hk12
      have f1 := HT.out.free
      have t3 : ∀ v, (wr.setCell ⟨w.heap.size + 1 + 1, k, none⟩ v).cell? ⟨w.heap.size + 1 + 1, 12, none⟩ = some (.int .i64 (sumD d k)) := fun v => by rw [World.cell?_setCell_other _ _ _ _ (by first | (simp; done) | (simp; omega))]; exact t1
      have HT2 := Lib.hid (HT.out.step hk12)
      have hb1 := sumD_bd HG.out k hk
      have hb2 := HG.out.days k hlt
      obtain ⟨m1, m2⟩ := hb1
      obtain ⟨m3, m4⟩ := hb2
      have HR2 : Hid (((wr.setCell ⟨w.heap.size + 1 + 1, k, none⟩ (.int .i64 (sumD d k))).setCell ⟨w.heap.size + 1 + 1, 12, none⟩ (.int .i64 (sumD d k + d k))).heap[w.heap.size + 1]? = some (.cells #[.int .i64 0, .int .i64 0, .int .i64 0, .int .i64 0, .int .i64 0, .int .i64 0, .int .i64 0, .int .i64 0, .int .i64 0, .int .i64 0, .int .i64 0, .int .i64 0, .int .i64 0] 62 (0, 0))) := Lib.hid (by rw [heap_set_other _ _ _ _ _ (by omega), heap_set_other _ _ _ _ _ (by omega)]; exact HR.out)
      have HB2 : Hid (Below w.heap.size w ((wr.setCell ⟨w.heap.size + 1 + 1, k, none⟩ (.int .i64 (sumD d k))).setCell ⟨w.heap.size + 1 + 1, 12, none⟩ (.int .i64 (sumD d k + d k)))) := Lib.hid ((HB.out.setCell (p := ⟨w.heap.size + 1 + 1, k, none⟩) (by first | (simp; done) | (simp; omega)) _).setCell (p := ⟨w.heap.size + 1 + 1, 12, none⟩) (by first | (simp; done) | (simp; omega)) _)
      generalize tcI k d k = y at *
      generalize sumD d k = S at *
      generalize d k = x at *
      go_wp2_with fail
      refine ⟨⟨k + 1, by omega, by go_num, HB2, HT2, HR2⟩, by simp [intOf]; omega⟩
    · obtain rfl : k = n := by omega
      have q0 := HT.out.cell 0 (by decide)
      have q1 := HT.out.cell 1 (by decide)
      have q2 := HT.out.cell 2 (by decide)
      have q3 := HT.out.cell 3 (by decide)
      have q4 := HT.out.cell 4 (by decide)
      have q5 := HT.out.cell 5 (by decide)
      have q6 := HT.out.cell 6 (by decide)
      have q7 := HT.out.cell 7 (by decide)
      have q8 := HT.out.cell 8 (by decide)
      have q9 := HT.out.cell 9 (by decide)
      have q10 := HT.out.cell 10 (by decide)
      have q11 := HT.out.cell 11 (by decide)
      have q12 := HT.out.last
      have f1 : ∀ i, wr.frozen? ⟨w.heap.size + 1, i, none⟩ = false := fun i => free_of HR.out
      have HRE : Hid (∀ j, j < 13 → wr.cell? ⟨w.heap.size + 1, j, none⟩ = some (.int .i64 0)) := Lib.hid fun j hj => cell_of HR.out (by
        match j, hj with
        | 0, _ => rfl
        | 1, _ => rfl
        | 2, _ => rfl
        | 3, _ => rfl
        | 4, _ => rfl
        | 5, _ => rfl
        | 6, _ => rfl
        | 7, _ => rfl
        | 8, _ => rfl
        | 9, _ => rfl
        | 10, _ => rfl
        | 11, _ => rfl
        | 12, _ => rfl)
      have r0 := HRE.out 0 (by decide)
      have r1 := HRE.out 1 (by decide)
      have r2 := HRE.out 2 (by decide)
      have r3 := HRE.out 3 (by decide)
      have r4 := HRE.out 4 (by decide)
      have r5 := HRE.out 5 (by decide)
      have r6 := HRE.out 6 (by decide)
      have r7 := HRE.out 7 (by decide)
      have r8 := HRE.out 8 (by decide)
      have r9 := HRE.out 9 (by decide)
      have r10 := HRE.out 10 (by decide)
      have r11 := HRE.out 11 (by decide)
      have r12 := HRE.out 12 (by decide)
      go_wp2_with fail
      have hfin : (((((((((((((wr.setCell ⟨w.heap.size + 1, 0, none⟩ (.int .i64 (tcI k d 0))).setCell ⟨w.heap.size + 1, 1, none⟩ (.int .i64 (tcI k d 1))).setCell ⟨w.heap.size + 1, 2, none⟩ (.int .i64 (tcI k d 2))).setCell ⟨w.heap.size + 1, 3, none⟩ (.int .i64 (tcI k d 3))).setCell ⟨w.heap.size + 1, 4, none⟩ (.int .i64 (tcI k d 4))).setCell ⟨w.heap.size + 1, 5, none⟩ (.int .i64 (tcI k d 5))).setCell ⟨w.heap.size + 1, 6, none⟩ (.int .i64 (tcI k d 6))).setCell ⟨w.heap.size + 1, 7, none⟩ (.int .i64 (tcI k d 7))).setCell ⟨w.heap.size + 1, 8, none⟩ (.int .i64 (tcI k d 8))).setCell ⟨w.heap.size + 1, 9, none⟩ (.int .i64 (tcI k d 9))).setCell ⟨w.heap.size + 1, 10, none⟩ (.int .i64 (tcI k d 10))).setCell ⟨w.heap.size + 1, 11, none⟩ (.int .i64 (tcI k d 11))).setCell ⟨w.heap.size + 1, 12, none⟩ (.int .i64 (sumD d k))).heap[w.heap.size + 1]? = some (.cells #[.int .i64 (tcI k d 0), .int .i64 (tcI k d 1), .int .i64 (tcI k d 2), .int .i64 (tcI k d 3), .int .i64 (tcI k d 4), .int .i64 (tcI k d 5), .int .i64 (tcI k d 6), .int .i64 (tcI k d 7), .int .i64 (tcI k d 8), .int .i64 (tcI k d 9), .int .i64 (tcI k d 10), .int .i64 (tcI k d 11), .int .i64 (sumD d k)] 62 (0, 0)) := heap13 _ _ _ _ _ _ _ _ _ _ _ _ _ (.int .i64 (tcI k d 0)) (.int .i64 (tcI k d 1)) (.int .i64 (tcI k d 2)) (.int .i64 (tcI k d 3)) (.int .i64 (tcI k d 4)) (.int .i64 (tcI k d 5)) (.int .i64 (tcI k d 6)) (.int .i64 (tcI k d 7)) (.int .i64 (tcI k d 8)) (.int .i64 (tcI k d 9)) (.int .i64 (tcI k d 10)) (.int .i64 (tcI k d 11)) (.int .i64 (sumD d k)) HR.out
      have hbel : Below w.heap.size w (((((((((((((wr.setCell ⟨w.heap.size + 1, 0, none⟩ (.int .i64 (tcI k d 0))).setCell ⟨w.heap.size + 1, 1, none⟩ (.int .i64 (tcI k d 1))).setCell ⟨w.heap.size + 1, 2, none⟩ (.int .i64 (tcI k d 2))).setCell ⟨w.heap.size + 1, 3, none⟩ (.int .i64 (tcI k d 3))).setCell ⟨w.heap.size + 1, 4, none⟩ (.int .i64 (tcI k d 4))).setCell ⟨w.heap.size + 1, 5, none⟩ (.int .i64 (tcI k d 5))).setCell ⟨w.heap.size + 1, 6, none⟩ (.int .i64 (tcI k d 6))).setCell ⟨w.heap.size + 1, 7, none⟩ (.int .i64 (tcI k d 7))).setCell ⟨w.heap.size + 1, 8, none⟩ (.int .i64 (tcI k d 8))).setCell ⟨w.heap.size + 1, 9, none⟩ (.int .i64 (tcI k d 9))).setCell ⟨w.heap.size + 1, 10, none⟩ (.int .i64 (tcI k d 10))).setCell ⟨w.heap.size + 1, 11, none⟩ (.int .i64 (tcI k d 11))).setCell ⟨w.heap.size + 1, 12, none⟩ (.int .i64 (sumD d k))) := below13 (.int .i64 (tcI k d 0)) (.int .i64 (tcI k d 1)) (.int .i64 (tcI k d 2)) (.int .i64 (tcI k d 3)) (.int .i64 (tcI k d 4)) (.int .i64 (tcI k d 5)) (.int .i64 (tcI k d 6)) (.int .i64 (tcI k d 7)) (.int .i64 (tcI k d 8)) (.int .i64 (tcI k d 9)) (.int .i64 (tcI k d 10)) (.int .i64 (tcI k d 11)) (.int .i64 (sumD d k)) (Nat.le_succ _) HB.out
      clear f1 r0 q0 r1 q1 r2 q2 r3 q3 r4 q4 r5 q5 r6 q6 r7 q7 r8 q8 r9 q9 r10 q10 r11 q11 r12 q12
      generalize (((((((((((((wr.setCell ⟨w.heap.size + 1, 0, none⟩ (.int .i64 (tcI k d 0))).setCell ⟨w.heap.size + 1, 1, none⟩ (.int .i64 (tcI k d 1))).setCell ⟨w.heap.size + 1, 2, none⟩ (.int .i64 (tcI k d 2))).setCell ⟨w.heap.size + 1, 3, none⟩ (.int .i64 (tcI k d 3))).setCell ⟨w.heap.size + 1, 4, none⟩ (.int .i64 (tcI k d 4))).setCell ⟨w.heap.size + 1, 5, none⟩ (.int .i64 (tcI k d 5))).setCell ⟨w.heap.size + 1, 6, none⟩ (.int .i64 (tcI k d 6))).setCell ⟨w.heap.size + 1, 7, none⟩ (.int .i64 (tcI k d 7))).setCell ⟨w.heap.size + 1, 8, none⟩ (.int .i64 (tcI k d 8))).setCell ⟨w.heap.size + 1, 9, none⟩ (.int .i64 (tcI k d 9))).setCell ⟨w.heap.size + 1, 10, none⟩ (.int .i64 (tcI k d 10))).setCell ⟨w.heap.size + 1, 11, none⟩ (.int .i64 (tcI k d 11))).setCell ⟨w.heap.size + 1, 12, none⟩ (.int .i64 (sumD d k))) = W9 at *
      have e0 : W9.cell? ⟨w.heap.size + 1, 0, none⟩ = some (.int .i64 (tcI k d 0)) := cell_of hfin rfl
      have e1 : W9.cell? ⟨w.heap.size + 1, 1, none⟩ = some (.int .i64 (tcI k d 1)) := cell_of hfin rfl
      have e2 : W9.cell? ⟨w.heap.size + 1, 2, none⟩ = some (.int .i64 (tcI k d 2)) := cell_of hfin rfl
      have e3 : W9.cell? ⟨w.heap.size + 1, 3, none⟩ = some (.int .i64 (tcI k d 3)) := cell_of hfin rfl
      have e4 : W9.cell? ⟨w.heap.size + 1, 4, none⟩ = some (.int .i64 (tcI k d 4)) := cell_of hfin rfl
      have e5 : W9.cell? ⟨w.heap.size + 1, 5, none⟩ = some (.int .i64 (tcI k d 5)) := cell_of hfin rfl
      have e6 : W9.cell? ⟨w.heap.size + 1, 6, none⟩ = some (.int .i64 (tcI k d 6)) := cell_of hfin rfl
      have e7 : W9.cell? ⟨w.heap.size + 1, 7, none⟩ = some (.int .i64 (tcI k d 7)) := cell_of hfin rfl
      have e8 : W9.cell? ⟨w.heap.size + 1, 8, none⟩ = some (.int .i64 (tcI k d 8)) := cell_of hfin rfl
      have e9 : W9.cell? ⟨w.heap.size + 1, 9, none⟩ = some (.int .i64 (tcI k d 9)) := cell_of hfin rfl
      have e10 : W9.cell? ⟨w.heap.size + 1, 10, none⟩ = some (.int .i64 (tcI k d 10)) := cell_of hfin rfl
      have e11 : W9.cell? ⟨w.heap.size + 1, 11, none⟩ = some (.int .i64 (tcI k d 11)) := cell_of hfin rfl
      have e12 : W9.cell? ⟨w.heap.size + 1, 12, none⟩ = some (.int .i64 (sumD d k)) := cell_of hfin rfl
      exact bodyPost_ret (v := ttV k d) (by simp [results, Try.results45, go_sem, ttV, e0, e1, e2, e3, e4, e5, e6, e7, e8, e9, e10, e11, e12]) rfl ⟨rfl, hbel⟩
end Go.Proofs.Ythpiahellpnccaa
