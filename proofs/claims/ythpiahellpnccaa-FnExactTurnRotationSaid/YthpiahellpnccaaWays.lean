/-
  What the ways of the two packages return: (timetable).way, spec.l3Days. No statement of the seat by itself.
-/
import Derived.Test.YthpiahellpnccaaTable
import Derived.Test.YthpiahellpnccaaGoodI
namespace Go.Proofs.Ythpiahellpnccaa
open Go.RowKit

/-- A number, and nothing older turned. -/
def NumP (w : World) (x : Int) (e : Ending) (w' : World) : Prop := e = .returned (.int .i64 x) ∧ Below w.heap.size w w'

theorem tt_cell (w : World) (n : Nat) (d : Nat → Int) (i : Nat) (hi : i < n) (h12 : n ≤ 12) : (w.alloc (.cells #[.int .i64 (tcI n d 0), .int .i64 (tcI n d 1), .int .i64 (tcI n d 2), .int .i64 (tcI n d 3), .int .i64 (tcI n d 4), .int .i64 (tcI n d 5), .int .i64 (tcI n d 6), .int .i64 (tcI n d 7), .int .i64 (tcI n d 8), .int .i64 (tcI n d 9), .int .i64 (tcI n d 10), .int .i64 (tcI n d 11), .int .i64 (sumD d n)] 62)).cell? ⟨w.heap.size, i, none⟩ = some (.int .i64 (sumD d i)) := by
  refine cell_of (heap_alloc_new w _) ?_
  have e : tcI n d i = sumD d i := by simp [tcI, hi]
  rw [← e]
  match i, (show i < 12 by omega) with
  | 0, _ => rfl
  | 1, _ => rfl
  | 2, _ => rfl
  | 3, _ => rfl
  | 4, _ => rfl
  | 5, _ => rfl
  | 6, _ => rfl
  | 7, _ => rfl
  | 8, _ => rfl
  | 9, _ => rfl
  | 10, _ => rfl
  | 11, _ => rfl

set_option maxRecDepth 100000 in
set_option maxHeartbeats 2000000 in
theorem way_any (n : Nat) (p d : Nat → Int) (hG : Good n n p d) (i k : Nat) (hi : i < n) (hk : k < n) (w : World) :
    Calls Try.prog 46 #[ttV n d, .int .i64 (i : Int), .int .i64 (k : Int)] w (NumP w (wayD n d i k)) := by
  have h12 := hG.top
  have ci := tt_cell w n d i hi h12
  have ck := tt_cell w n d k hk h12
  have cc : (w.alloc (.cells #[.int .i64 (tcI n d 0), .int .i64 (tcI n d 1), .int .i64 (tcI n d 2), .int .i64 (tcI n d 3), .int .i64 (tcI n d 4), .int .i64 (tcI n d 5), .int .i64 (tcI n d 6), .int .i64 (tcI n d 7), .int .i64 (tcI n d 8), .int .i64 (tcI n d 9), .int .i64 (tcI n d 10), .int .i64 (tcI n d 11), .int .i64 (sumD d n)] 62)).cell? ⟨w.heap.size, 12, none⟩ = some (.int .i64 (sumD d n)) := cell_of (heap_alloc_new w _) rfl
  have WM := Lib.hid (wayD_mod hG i k hi hk)
  obtain ⟨s1, s2⟩ := sumD_bd hG i (by omega)
  obtain ⟨s3, s4⟩ := sumD_bd hG k (by omega)
  obtain ⟨s5, s6⟩ := sumD_bd hG n (by omega)
  have s7 := sumD_mono hG n (Nat.le_refl _) i (by omega)
  have hp := hG.pos
  have B0 := Lib.hid (below_one w (.cells #[.int .i64 (tcI n d 0), .int .i64 (tcI n d 1), .int .i64 (tcI n d 2), .int .i64 (tcI n d 3), .int .i64 (tcI n d 4), .int .i64 (tcI n d 5), .int .i64 (tcI n d 6), .int .i64 (tcI n d 7), .int .i64 (tcI n d 8), .int .i64 (tcI n d 9), .int .i64 (tcI n d 10), .int .i64 (tcI n d 11), .int .i64 (sumD d n)] 62))
  have C0 := Lib.hid ci
  have C1 := Lib.hid ck
  have C2 := Lib.hid cc
  clear hG ci ck cc
  unfold ttV
  go_enter Try.func46, Try.ntmps46
  go_wp2_with fail
  have ci := C0.out
  have ck := C1.out
  have cc := C2.out
  generalize w.alloc (.cells #[.int .i64 (tcI n d 0), .int .i64 (tcI n d 1), .int .i64 (tcI n d 2), .int .i64 (tcI n d 3), .int .i64 (tcI n d 4), .int .i64 (tcI n d 5), .int .i64 (tcI n d 6), .int .i64 (tcI n d 7), .int .i64 (tcI n d 8), .int .i64 (tcI n d 9), .int .i64 (tcI n d 10), .int .i64 (tcI n d 11), .int .i64 (sumD d n)] 62) = W at *
  generalize hX : sumD d i = X at *
  generalize hY : sumD d k = Y at *
  generalize hN : sumD d n = N at *
  have b1 : (i : Int) < 12 := by omega
  have b2 : (k : Int) < 12 := by omega
  have e1 : IntKind.i64.wrap (Y - X) = Y - X := IntWalk.i64_in _ (by omega)
  have e2 : IntKind.i64.wrap (Y - X + N) = Y - X + N := IntWalk.i64_in _ (by omega)
  have e3 : (Y - X + N).tmod N = (Y - X + N) % N := Int.tmod_eq_emod_of_nonneg (by omega)
  have hne : (N == 0) = false := by simp; omega
  clear hX hY hN
  go_quiet (fail)
  clear e1 e2 e3
  go_wp2_with fail
  go_ret
  exact ⟨ret_i (by rw [← WM.out, Int.add_emod_right]), below_drewN B0.out _⟩

set_option maxRecDepth 100000 in
set_option maxHeartbeats 2000000 in
theorem l3Days_rows (v1 : Value) (g2 o2 c2 n : Nat) (p d : Nat → Int) (hG : Good n n p d) (i k : Nat) (hi : i < n) (hk : k < n) (w : World) (h2 : IAt w g2 o2 n d) :
    Calls Try.prog 48 #[.agg #[v1, .slice (some ⟨g2, o2, none⟩) n c2], .int .i64 (i : Int), .int .i64 (k : Int)] w (NumP w (wayD n d i k)) := by
  have HG := Lib.hid hG
  have H2 := Lib.hid h2
  have h12 := hG.top
  clear hG h2
  go_enter Try.func48, Try.ntmps48
  go_wp2_with fail
  have B := Lib.hid (below_one w (.cells #[v1, .slice (some ⟨g2, o2, none⟩) n c2] 26))
  have r1 : (w.alloc (.cells #[v1, .slice (some ⟨g2, o2, none⟩) n c2] 26)).cell? ⟨w.heap.size, 1, none⟩ = some (.slice (some ⟨g2, o2, none⟩) n c2) := by simp
  have I2 := Lib.hid (H2.out.below B.out)
  generalize (w.alloc (.cells #[v1, .slice (some ⟨g2, o2, none⟩) n c2] 26)) = W at *
  go_loop [1, 7] (fun a s => ∃ j : Nat, j < n ∧ a = .int .i64 j ∧ ∃ S : Int, s = .int .i64 S ∧ 0 ≤ S ∧ Hid (S + wayD n d j k = wayD n d i k)) (fun a _ => stepsTo n (intOf a).toNat k)
  case atStart => exact ⟨i, hi, rfl, 0, rfl, by decide, Lib.hid (by omega)⟩
  case round =>
    obtain ⟨j, hj, rfl, S, rfl, hS0, HS⟩ := hrel
    by_cases hjk : j = k
    · subst hjk
      have HE : Hid (S = wayD n d i j) := Lib.hid (by have := HS.out; rw [wayD_self] at this; omega)
      go_wp2_with fail
      go_ret
      exact ⟨ret_i HE.out, B.out⟩
    · have hne : ((j : Int) != (k : Int)) = true := by simp; omega
      have a2 := I2.out.2 j hj
      have hw := wayD_step (n := n) (d := d) j k hj hk hjk
      have ht : (j + 1) % n < n := Nat.mod_lt _ (by omega)
      have HS2 : Hid (S + d j + wayD n d ((j + 1) % n) k = wayD n d i k) := Lib.hid (by have := HS.out; omega)
      have HM := Lib.hid (stepsTo_step hj hk hjk)
      have hb1 := wayD_bd HG.out ((j + 1) % n) k ht hk
      have hb2 := wayD_bd HG.out i k hi hk
      have hb3 := sumD_bd HG.out n (Nat.le_refl _)
      have hb4 := HG.out.days j hj
      have hb5 : 0 ≤ S + d j ∧ S + d j ≤ 480 := by have := HS2.out; omega
      obtain ⟨y1, y2⟩ := hb5
      obtain ⟨y3, y4⟩ := hb4
      have HN := Lib.hid (next_ix j n)
      clear hw hb1 hb2 hb3 hjk
      generalize d j = x at *
      go_wp2_with fail
      exact ⟨⟨(j + 1) % n, ht, val_i HN.out, S + x, rfl, y1, HS2⟩, by rw [HN.out]; exact HM.out⟩

/-- Whether a rotation is good and has a call. -/
def askB (n m : Nat) (p d : Nat → Int) (i : Int) : Bool := rotB n m p d && (decide (0 ≤ i) && decide (i < (n : Int)))
theorem askB_no {n m : Nat} {p d : Nat → Int} (i : Int) (h : rotB n m p d = false) : askB n m p d i = false := by simp [askB, h]
theorem askB_out {n m : Nat} {p d : Nat → Int} {i : Int} (h : i < 0 ∨ (n : Int) ≤ i) : askB n m p d i = false := by
  unfold askB; simp; omega
theorem askB_in {n m : Nat} {p d : Nat → Int} {i : Int} (h : rotB n m p d = true) (h0 : 0 ≤ i) (h1 : i < (n : Int)) : askB n m p d i = true := by simp [askB, h, h0, h1]
theorem askB_iff {n m : Nat} {p d : Nat → Int} {i : Int} : askB n m p d i = true ↔ rotB n m p d = true ∧ 0 ≤ i ∧ i < (n : Int) := by simp [askB]

set_option maxRecDepth 100000 in
set_option maxHeartbeats 2000000 in
theorem specAsked_any (v : Value) (n m : Nat) (p d : Nat → Int) (i : Int) (hn : n ≤ maxLen) (hm : m ≤ maxLen) (w : World) (h : ArgR w v n m p d) :
    Calls Try.prog 47 #[v, .int .i64 i] w (BoolP w (askB n m p d i)) := by
  have HV := Lib.hid h
  obtain ⟨v1, v2, rfl, h1, -⟩ := h
  obtain ⟨a1, c1, rfl⟩ := h1.form
  clear h1
  cases hr : rotB n m p d with
  | false =>
    have HN := Lib.hid (askB_no i hr)
    have HR := Lib.hid hr
    clear hr
    go_enter Try.func47, Try.ntmps47
    go_wp2_with fail
    refine (specGood_any _ n m p d hn hm _ (HV.out.below (below_one w _))).mono ?_
    rw [HR.out]
    rintro e w1 ⟨rfl, hb⟩
    have B := Lib.hid ((below_one w (.cells #[.slice a1 n c1, v2] 26)).trans (hb.mono (by simp)))
    clear hb
    go_wp2_with fail
    go_ret
    exact ⟨by rw [HN.out]; rfl, B.out⟩
  | true =>
    have hG := good_of hr
    have g1 := hG.pos
    have g2 := hG.top
    have HR := Lib.hid hr
    have HB : Hid (askB n m p d i = inB 0 ((n : Int) - 1) i) := Lib.hid (by
      unfold askB inB; rw [hr, Bool.true_and, Bool.eq_iff_iff]; simp; omega)
    clear hr hG
    go_enter Try.func47, Try.ntmps47
    go_wp2_with fail
    refine (specGood_any _ n m p d hn hm _ (HV.out.below (below_one w _))).mono ?_
    rw [HR.out]
    rintro e w1 ⟨rfl, hb⟩
    have B := Lib.hid ((below_one w (.cells #[.slice a1 n c1, v2] 26)).trans (hb.mono (by simp)))
    have c0 : w1.cell? ⟨w.heap.size, 0, none⟩ = some (.slice a1 n c1) := (hb.cell (p := ⟨w.heap.size, 0, none⟩) (by simp)).trans (by simp)
    clear hb
    go_wp2_with fail
    refine (l1In_is _ _ _ _).mono ?_
    rintro e w2 ⟨rfl, rfl⟩
    go_wp2_with fail
    go_ret
    exact ⟨by rw [HB.out]; rfl, B.out⟩

set_option maxRecDepth 100000 in
set_option maxHeartbeats 2000000 in
theorem implAsked_any (v : Value) (n m : Nat) (p d : Nat → Int) (i : Int) (hn : n ≤ maxLen) (hm : m ≤ maxLen) (w : World) (h : ArgR w v n m p d) :
    Calls Try.prog 44 #[v, .int .i64 i] w (BoolP w (askB n m p d i)) := by
  have HV := Lib.hid h
  obtain ⟨v1, v2, rfl, h1, -⟩ := h
  obtain ⟨a1, c1, rfl⟩ := h1.form
  clear h1
  cases hr : rotB n m p d with
  | false =>
    have HN := Lib.hid (askB_no i hr)
    have HR := Lib.hid hr
    clear hr
    go_enter Try.func44, Try.ntmps44
    go_wp2_with fail
    refine (implGood_any _ n m p d hn hm _ (HV.out.below (below_one w _))).mono ?_
    rw [HR.out]
    rintro e w1 ⟨rfl, hb⟩
    have B := Lib.hid ((below_one w (.cells #[.slice a1 n c1, v2] 26)).trans (hb.mono (by simp)))
    clear hb
    go_wp2_with fail
    go_ret
    exact ⟨by rw [HN.out]; rfl, B.out⟩
  | true =>
    have hG := good_of hr
    have g1 := hG.pos
    have g2 := hG.top
    have HR := Lib.hid hr
    have HB : Hid (askB n m p d i = (decide (0 ≤ i) && decide (i < (n : Int)))) := Lib.hid (by
      unfold askB; rw [hr, Bool.true_and])
    clear hr hG
    by_cases hi0 : 0 ≤ i
    · go_enter Try.func44, Try.ntmps44
      go_wp2_with fail
      refine (implGood_any _ n m p d hn hm _ (HV.out.below (below_one w _))).mono ?_
      rw [HR.out]
      rintro e w1 ⟨rfl, hb⟩
      have B := Lib.hid ((below_one w (.cells #[.slice a1 n c1, v2] 26)).trans (hb.mono (by simp)))
      have c0 : w1.cell? ⟨w.heap.size, 0, none⟩ = some (.slice a1 n c1) := (hb.cell (p := ⟨w.heap.size, 0, none⟩) (by simp)).trans (by simp)
      clear hb
      go_wp2_with fail
      go_ret
      exact ⟨by rw [HB.out]; simp [hi0], B.out⟩
    · have hi1 : decide (0 ≤ i) = false := by simp; omega
      clear hi0
      go_enter Try.func44, Try.ntmps44
      go_wp2_with fail
      refine (implGood_any _ n m p d hn hm _ (HV.out.below (below_one w _))).mono ?_
      rw [HR.out]
      rintro e w1 ⟨rfl, hb⟩
      have B := Lib.hid ((below_one w (.cells #[.slice a1 n c1, v2] 26)).trans (hb.mono (by simp)))
      have c0 : w1.cell? ⟨w.heap.size, 0, none⟩ = some (.slice a1 n c1) := (hb.cell (p := ⟨w.heap.size, 0, none⟩) (by simp)).trans (by simp)
      clear hb
      go_wp2_with fail
      go_ret
      exact ⟨by rw [HB.out]; simp [hi1], B.out⟩
end Go.Proofs.Ythpiahellpnccaa
