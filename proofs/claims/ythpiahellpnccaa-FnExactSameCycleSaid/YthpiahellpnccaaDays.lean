/-
  What the two CycleDays and the two DaysBetween return. No statement of the seat by itself.
-/
import Derived.Test.YthpiahellpnccaaWays
namespace Go.Proofs.Ythpiahellpnccaa
open Go.RowKit

/-- A number and a yes or no, and nothing older turned. -/
def PairP (w : World) (x : Int) (b : Bool) (e : Ending) (w' : World) : Prop := e = .returned (.tuple #[.int .i64 x, .bool b]) ∧ Below w.heap.size w w'
theorem run_cycle (x0 x1 x2 x3 x4 x5 x6 x7 x8 x9 x10 x11 x12 : Value) (W : World) : (Instr.field 62 (.agg #[x0, x1, x2, x3, x4, x5, x6, x7, x8, x9, x10, x11, x12]) 1).run Try.prog W = .ok x12 W := by kernel_rfl
/-- What CycleDays answers. -/
def cycleV (n m : Nat) (p d : Nat → Int) : Int := if rotB n m p d = true then sumD d n else 0
theorem cycleV_yes {n m : Nat} {p d : Nat → Int} (h : rotB n m p d = true) : cycleV n m p d = sumD d n := by simp [cycleV, h]
theorem cycleV_no {n m : Nat} {p d : Nat → Int} (h : rotB n m p d = false) : cycleV n m p d = 0 := by simp [cycleV, h]

set_option maxRecDepth 100000 in
set_option maxHeartbeats 2000000 in
theorem specCycle_any (v : Value) (n m : Nat) (p d : Nat → Int) (hn : n ≤ maxLen) (hm : m ≤ maxLen) (w : World) (h : ArgR w v n m p d) :
    Calls Try.prog 32 #[v] w (PairP w (cycleV n m p d) (rotB n m p d)) := by
  have HV := Lib.hid h
  cases hr : rotB n m p d with
  | false =>
    obtain ⟨v1, v2, rfl, h1, -⟩ := h
    clear h1
    have HN := Lib.hid (cycleV_no hr)
    have HR := Lib.hid hr
    clear hr
    go_enter Try.func32, Try.ntmps32
    go_wp2_with fail
    refine (specGood_any _ n m p d hn hm _ (HV.out.below (below_one w _))).mono ?_
    rw [HR.out]
    rintro e w1 ⟨rfl, hb⟩
    have B := Lib.hid ((below_one w (.cells #[v1, v2] 26)).trans (hb.mono (by simp)))
    clear hb
    go_wp2_with fail
    go_ret2
    exact ⟨by rw [HN.out]; rfl, B.out⟩
  | true =>
    have hG := good_of hr
    obtain ⟨v1, v2, rfl, -, h2⟩ := h
    have e0 := hG.same
    subst e0
    obtain ⟨g2, o2, c2, rfl, i2⟩ := h2.rows (by have := hG.pos; omega)
    have h12 := hG.top
    have HG := Lib.hid hG
    have I := Lib.hid i2
    have HN := Lib.hid (cycleV_yes hr)
    have HR := Lib.hid hr
    clear hr hG h2 i2
    go_enter Try.func32, Try.ntmps32
    go_wp2_with fail
    refine (specGood_any _ m m p d hn hm _ (HV.out.below (below_one w _))).mono ?_
    rw [HR.out]
    rintro e w1 ⟨rfl, hb⟩
    have B := Lib.hid ((below_one w (.cells #[v1, .slice (some ⟨g2, o2, none⟩) m c2] 26)).trans (hb.mono (by simp)))
    have c1 : w1.cell? ⟨w.heap.size, 1, none⟩ = some (.slice (some ⟨g2, o2, none⟩) m c2) := (hb.cell (p := ⟨w.heap.size, 1, none⟩) (by simp)).trans (by simp)
    have I1 := Lib.hid (I.out.below B.out)
    clear hb
    go_wp2_with fail
    go_loop [4, 5] (fun s i => ∃ k : Nat, k ≤ m ∧ i = .int .i64 k ∧ s = .int .i64 (sumD d k)) (fun _ i => m - (intOf i).toNat)
    case atStart => exact ⟨0, Nat.zero_le _, rfl, rfl⟩
    case round =>
      obtain ⟨k, hk, rfl, rfl⟩ := hrel
      by_cases hlt : k < m
      · have a2 := I1.out.2 k hlt
        obtain ⟨s1, s2⟩ := sumD_bd HG.out k hk
        obtain ⟨s3, s4⟩ := HG.out.days k hlt
        have HS : Hid (sumD d (k + 1) = sumD d k + d k) := Lib.hid rfl
        generalize d k = x at *
        generalize sumD d k = S at *
        go_wp2_with fail
        go_round
        case rel => exact ⟨k + 1, by omega, by go_num, val_i HS.out.symm⟩
        case measure => simp [intOf]; omega
      · obtain rfl : k = m := by omega
        go_wp2_with fail
        go_ret2
        exact ⟨by rw [HN.out]; rfl, B.out⟩

set_option maxRecDepth 100000 in
set_option maxHeartbeats 2000000 in
theorem implCycle_any (v : Value) (n m : Nat) (p d : Nat → Int) (hn : n ≤ maxLen) (hm : m ≤ maxLen) (w : World) (h : ArgR w v n m p d) :
    Calls Try.prog 16 #[v] w (PairP w (cycleV n m p d) (rotB n m p d)) := by
  have HV := Lib.hid h
  cases hr : rotB n m p d with
  | false =>
    obtain ⟨v1, v2, rfl, h1, -⟩ := h
    clear h1
    have HN := Lib.hid (cycleV_no hr)
    have HR := Lib.hid hr
    clear hr
    go_enter Try.func16, Try.ntmps16
    go_wp2_with fail
    refine (implGood_any _ n m p d hn hm _ (HV.out.below (below_one w _))).mono ?_
    rw [HR.out]
    rintro e w1 ⟨rfl, hb⟩
    have B := Lib.hid ((below_one w (.cells #[v1, v2] 26)).trans (hb.mono (by simp)))
    clear hb
    go_wp2_with fail
    go_ret2
    exact ⟨by rw [HN.out]; rfl, B.out⟩
  | true =>
    have hG := good_of hr
    obtain ⟨v1, v2, rfl, h1, h2⟩ := h
    have e0 := hG.same
    subst e0
    obtain ⟨g1, o1, c1', rfl, i1⟩ := h1.rows (by have := hG.pos; omega)
    obtain ⟨g2, o2, c2, rfl, i2⟩ := h2.rows (by have := hG.pos; omega)
    have HG := Lib.hid hG
    have I := Lib.hid i2
    have HN := Lib.hid (cycleV_yes hr)
    have HR := Lib.hid hr
    clear hr hG h1 h2 i1 i2
    go_enter Try.func16, Try.ntmps16
    go_wp2_with fail
    refine (implGood_any _ m m p d hn hm _ (HV.out.below (below_one w _))).mono ?_
    rw [HR.out]
    rintro e w1 ⟨rfl, hb⟩
    have B := Lib.hid ((below_one w (.cells #[.slice (some ⟨g1, o1, none⟩) m c1', .slice (some ⟨g2, o2, none⟩) m c2] 26)).trans (hb.mono (by simp)))
    have c0 : w1.cell? ⟨w.heap.size, 0, none⟩ = some (.slice (some ⟨g1, o1, none⟩) m c1') := (hb.cell (p := ⟨w.heap.size, 0, none⟩) (by simp)).trans (by simp)
    have c1 : w1.cell? ⟨w.heap.size, 1, none⟩ = some (.slice (some ⟨g2, o2, none⟩) m c2) := (hb.cell (p := ⟨w.heap.size, 1, none⟩) (by simp)).trans (by simp)
    clear hb
    go_wp2_with fail
    refine (table_rows g1 o1 c1' g2 o2 c2 m p d HG.out _ (I.out.below B.out)).mono ?_
    rintro e w2 ⟨rfl, hb2⟩
    have B2 : Hid (Below w.heap.size w w2) := Lib.hid (B.out.trans (hb2.mono B.out.size))
    clear hb2
    unfold ttV
    have hfd : ∀ W, (Instr.field 62 (.agg #[.int .i64 (tcI m d 0), .int .i64 (tcI m d 1), .int .i64 (tcI m d 2), .int .i64 (tcI m d 3), .int .i64 (tcI m d 4), .int .i64 (tcI m d 5), .int .i64 (tcI m d 6), .int .i64 (tcI m d 7), .int .i64 (tcI m d 8), .int .i64 (tcI m d 9), .int .i64 (tcI m d 10), .int .i64 (tcI m d 11), .int .i64 (sumD d m)]) 1).run Try.prog W = .ok (.int .i64 (sumD d m)) W := fun W => run_cycle _ _ _ _ _ _ _ _ _ _ _ _ _ W
    go_wp2_with fail
    go_ret2
    exact ⟨by rw [HN.out]; rfl, B2.out⟩

/-- What DaysBetween answers. -/
def daysV (n m : Nat) (p d : Nat → Int) (i k : Int) : Int := if (askB n m p d i && askB n m p d k) = true then wayD n d i.toNat k.toNat else 0
theorem daysV_no {n m : Nat} {p d : Nat → Int} {i k : Int} (h : (askB n m p d i && askB n m p d k) = false) : daysV n m p d i k = 0 := by simp [daysV, h]
theorem daysV_yes {n m : Nat} {p d : Nat → Int} {i k : Int} (h1 : askB n m p d i = true) (h2 : askB n m p d k = true) : daysV n m p d i k = wayD n d i.toNat k.toNat := by simp [daysV, h1, h2]

set_option maxRecDepth 100000 in
set_option maxHeartbeats 2000000 in
theorem specDays_any (v : Value) (n m : Nat) (p d : Nat → Int) (i k : Int) (hn : n ≤ maxLen) (hm : m ≤ maxLen) (w : World) (h : ArgR w v n m p d) :
    Calls Try.prog 15 #[v, .int .i64 i, .int .i64 k] w (PairP w (daysV n m p d i k) (askB n m p d i && askB n m p d k)) := by
  have HV := Lib.hid h
  cases hi : askB n m p d i with
  | false =>
    obtain ⟨v1, v2, rfl, h1, -⟩ := h
    clear h1
    have HN := Lib.hid (daysV_no (i := i) (k := k) (by rw [hi]; rfl))
    have HR := Lib.hid hi
    clear hi
    go_enter Try.func15, Try.ntmps15
    go_wp2_with fail
    refine (specAsked_any _ n m p d i hn hm _ (HV.out.below (below_one w _))).mono ?_
    rw [HR.out]
    rintro e w1 ⟨rfl, hb⟩
    have B := Lib.hid ((below_one w (.cells #[v1, v2] 26)).trans (hb.mono (by simp)))
    clear hb
    go_wp2_with fail
    go_ret2
    exact ⟨by rw [HN.out]; rfl, B.out⟩
  | true =>
    cases hk : askB n m p d k with
    | false =>
      obtain ⟨v1, v2, rfl, h1, -⟩ := h
      clear h1
      have HN := Lib.hid (daysV_no (i := i) (k := k) (by rw [hi, hk]; rfl))
      have HR := Lib.hid hi
      have HK := Lib.hid hk
      clear hi hk
      go_enter Try.func15, Try.ntmps15
      go_wp2_with fail
      refine (specAsked_any _ n m p d i hn hm _ (HV.out.below (below_one w _))).mono ?_
      rw [HR.out]
      rintro e w1 ⟨rfl, hb⟩
      have B := Lib.hid ((below_one w (.cells #[v1, v2] 26)).trans (hb.mono (by simp)))
      have c0 : w1.cell? ⟨w.heap.size, 0, none⟩ = some v1 := (hb.cell (p := ⟨w.heap.size, 0, none⟩) (by simp)).trans (by simp)
      have c1 : w1.cell? ⟨w.heap.size, 1, none⟩ = some v2 := (hb.cell (p := ⟨w.heap.size, 1, none⟩) (by simp)).trans (by simp)
      clear hb
      go_wp2_with fail
      refine (specAsked_any _ n m p d k hn hm _ (HV.out.below B.out)).mono ?_
      rw [HK.out]
      rintro e w2 ⟨rfl, hb2⟩
      have B2 : Hid (Below w.heap.size w w2) := Lib.hid (B.out.trans (hb2.mono B.out.size))
      clear hb2
      go_wp2_with fail
      go_ret2
      exact ⟨by rw [HN.out]; rfl, B2.out⟩
    | true =>
      obtain ⟨hr, i0, i1⟩ := askB_iff.1 hi
      obtain ⟨-, k0, k1⟩ := askB_iff.1 hk
      have hG := good_of hr
      obtain ⟨v1, v2, rfl, h1, h2⟩ := h
      have e0 := hG.same
      subst e0
      obtain ⟨g1, o1, c1', rfl, i1'⟩ := h1.rows (by have := hG.pos; omega)
      obtain ⟨g2, o2, c2, rfl, i2⟩ := h2.rows (by have := hG.pos; omega)
      have HG := Lib.hid hG
      have I := Lib.hid i2
      have HN := Lib.hid (daysV_yes hi hk)
      have HR := Lib.hid hi
      have HK := Lib.hid hk
      clear hr hG h1 h2 i1' i2 hi hk
      go_enter Try.func15, Try.ntmps15
      go_wp2_with fail
      refine (specAsked_any _ m m p d i hn hm _ (HV.out.below (below_one w _))).mono ?_
      rw [HR.out]
      rintro e w1 ⟨rfl, hb⟩
      have B := Lib.hid ((below_one w (.cells #[.slice (some ⟨g1, o1, none⟩) m c1', .slice (some ⟨g2, o2, none⟩) m c2] 26)).trans (hb.mono (by simp)))
      have c0 : w1.cell? ⟨w.heap.size, 0, none⟩ = some (.slice (some ⟨g1, o1, none⟩) m c1') := (hb.cell (p := ⟨w.heap.size, 0, none⟩) (by simp)).trans (by simp)
      have c1 : w1.cell? ⟨w.heap.size, 1, none⟩ = some (.slice (some ⟨g2, o2, none⟩) m c2) := (hb.cell (p := ⟨w.heap.size, 1, none⟩) (by simp)).trans (by simp)
      have hz : w.heap.size < w1.heap.size := by have := hb.size; simp at this; omega
      clear hb
      go_wp2_with fail
      refine (specAsked_any _ m m p d k hn hm _ (HV.out.below B.out)).mono ?_
      rw [HK.out]
      rintro e w2 ⟨rfl, hb2⟩
      have B2 : Hid (Below w.heap.size w w2) := Lib.hid (B.out.trans (hb2.mono B.out.size))
      have d0 := (hb2.cell (p := ⟨w.heap.size, 0, none⟩) hz).trans c0
      have d1 := (hb2.cell (p := ⟨w.heap.size, 1, none⟩) hz).trans c1
      clear hb2 c0 c1
      have ei : i = ((i.toNat : Nat) : Int) := by omega
      have ek : k = ((k.toNat : Nat) : Int) := by omega
      have hit : i.toNat < m := by omega
      have hkt : k.toNat < m := by omega
      generalize i.toNat = a at *
      generalize k.toNat = b at *
      subst ei ek
      go_wp2_with fail
      refine (l3Days_rows _ g2 o2 c2 m p d HG.out a b hit hkt _ (I.out.below B2.out)).mono ?_
      rintro e w3 ⟨rfl, hb3⟩
      have BF : Hid (Below w.heap.size w w3) := Lib.hid (B2.out.trans (hb3.mono B2.out.size))
      clear hb3
      go_wp2_with fail
      go_ret2
      exact ⟨by rw [HN.out]; rfl, BF.out⟩

set_option maxRecDepth 100000 in
set_option maxHeartbeats 2000000 in
theorem implDays_any (v : Value) (n m : Nat) (p d : Nat → Int) (i k : Int) (hn : n ≤ maxLen) (hm : m ≤ maxLen) (w : World) (h : ArgR w v n m p d) :
    Calls Try.prog 14 #[v, .int .i64 i, .int .i64 k] w (PairP w (daysV n m p d i k) (askB n m p d i && askB n m p d k)) := by
  have HV := Lib.hid h
  cases hi : askB n m p d i with
  | false =>
    obtain ⟨v1, v2, rfl, h1, -⟩ := h
    clear h1
    have HN := Lib.hid (daysV_no (i := i) (k := k) (by rw [hi]; rfl))
    have HR := Lib.hid hi
    clear hi
    go_enter Try.func14, Try.ntmps14
    go_wp2_with fail
    refine (implAsked_any _ n m p d i hn hm _ (HV.out.below (below_one w _))).mono ?_
    rw [HR.out]
    rintro e w1 ⟨rfl, hb⟩
    have B := Lib.hid ((below_one w (.cells #[v1, v2] 26)).trans (hb.mono (by simp)))
    clear hb
    go_wp2_with fail
    go_ret2
    exact ⟨by rw [HN.out]; rfl, B.out⟩
  | true =>
    cases hk : askB n m p d k with
    | false =>
      obtain ⟨v1, v2, rfl, h1, -⟩ := h
      clear h1
      have HN := Lib.hid (daysV_no (i := i) (k := k) (by rw [hi, hk]; rfl))
      have HR := Lib.hid hi
      have HK := Lib.hid hk
      clear hi hk
      go_enter Try.func14, Try.ntmps14
      go_wp2_with fail
      refine (implAsked_any _ n m p d i hn hm _ (HV.out.below (below_one w _))).mono ?_
      rw [HR.out]
      rintro e w1 ⟨rfl, hb⟩
      have B := Lib.hid ((below_one w (.cells #[v1, v2] 26)).trans (hb.mono (by simp)))
      have c0 : w1.cell? ⟨w.heap.size, 0, none⟩ = some v1 := (hb.cell (p := ⟨w.heap.size, 0, none⟩) (by simp)).trans (by simp)
      have c1 : w1.cell? ⟨w.heap.size, 1, none⟩ = some v2 := (hb.cell (p := ⟨w.heap.size, 1, none⟩) (by simp)).trans (by simp)
      clear hb
      go_wp2_with fail
      refine (implAsked_any _ n m p d k hn hm _ (HV.out.below B.out)).mono ?_
      rw [HK.out]
      rintro e w2 ⟨rfl, hb2⟩
      have B2 : Hid (Below w.heap.size w w2) := Lib.hid (B.out.trans (hb2.mono B.out.size))
      clear hb2
      go_wp2_with fail
      go_ret2
      exact ⟨by rw [HN.out]; rfl, B2.out⟩
    | true =>
      obtain ⟨hr, i0, i1⟩ := askB_iff.1 hi
      obtain ⟨-, k0, k1⟩ := askB_iff.1 hk
      have hG := good_of hr
      obtain ⟨v1, v2, rfl, h1, h2⟩ := h
      have e0 := hG.same
      subst e0
      obtain ⟨g1, o1, c1', rfl, i1'⟩ := h1.rows (by have := hG.pos; omega)
      obtain ⟨g2, o2, c2, rfl, i2⟩ := h2.rows (by have := hG.pos; omega)
      have HG := Lib.hid hG
      have I := Lib.hid i2
      have HN := Lib.hid (daysV_yes hi hk)
      have HR := Lib.hid hi
      have HK := Lib.hid hk
      clear hr hG h1 h2 i1' i2 hi hk
      go_enter Try.func14, Try.ntmps14
      go_wp2_with fail
      refine (implAsked_any _ m m p d i hn hm _ (HV.out.below (below_one w _))).mono ?_
      rw [HR.out]
      rintro e w1 ⟨rfl, hb⟩
      have B := Lib.hid ((below_one w (.cells #[.slice (some ⟨g1, o1, none⟩) m c1', .slice (some ⟨g2, o2, none⟩) m c2] 26)).trans (hb.mono (by simp)))
      have c0 : w1.cell? ⟨w.heap.size, 0, none⟩ = some (.slice (some ⟨g1, o1, none⟩) m c1') := (hb.cell (p := ⟨w.heap.size, 0, none⟩) (by simp)).trans (by simp)
      have c1 : w1.cell? ⟨w.heap.size, 1, none⟩ = some (.slice (some ⟨g2, o2, none⟩) m c2) := (hb.cell (p := ⟨w.heap.size, 1, none⟩) (by simp)).trans (by simp)
      have hz : w.heap.size < w1.heap.size := by have := hb.size; simp at this; omega
      clear hb
      go_wp2_with fail
      refine (implAsked_any _ m m p d k hn hm _ (HV.out.below B.out)).mono ?_
      rw [HK.out]
      rintro e w2 ⟨rfl, hb2⟩
      have B2 : Hid (Below w.heap.size w w2) := Lib.hid (B.out.trans (hb2.mono B.out.size))
      have d0 := (hb2.cell (p := ⟨w.heap.size, 0, none⟩) hz).trans c0
      have d1 := (hb2.cell (p := ⟨w.heap.size, 1, none⟩) hz).trans c1
      clear hb2 c0 c1
      have ei : i = ((i.toNat : Nat) : Int) := by omega
      have ek : k = ((k.toNat : Nat) : Int) := by omega
      have hit : i.toNat < m := by omega
      have hkt : k.toNat < m := by omega
      generalize i.toNat = a at *
      generalize k.toNat = b at *
      subst ei ek
      go_wp2_with fail
      refine (table_rows g1 o1 c1' g2 o2 c2 m p d HG.out _ (I.out.below B2.out)).mono ?_
      rintro e w3 ⟨rfl, hb3⟩
      have B3 : Hid (Below w.heap.size w w3) := Lib.hid (B2.out.trans (hb3.mono B2.out.size))
      clear hb3
      go_wp2_with fail
      refine (way_any m p d HG.out a b hit hkt _).mono ?_
      rintro e w4 ⟨rfl, hb4⟩
      have BF : Hid (Below w.heap.size w w4) := Lib.hid (B3.out.trans (hb4.mono B3.out.size))
      clear hb4
      go_wp2_with fail
      go_ret2
      exact ⟨by rw [HN.out]; rfl, BF.out⟩
end Go.Proofs.Ythpiahellpnccaa
