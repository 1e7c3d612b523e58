/-
  What the two NextCall return. No statement of the seat by itself.
-/
import Derived.Test.YthpiahellpnccaaDays
namespace Go.Proofs.Ythpiahellpnccaa
open Go.RowKit

/-- Two numbers and a yes or no, and nothing older turned. -/
def TripP (w : World) (x y : Int) (b : Bool) (e : Ending) (w' : World) : Prop := e = .returned (.tuple #[.int .i64 x, .int .i64 y, .bool b]) ∧ Below w.heap.size w w'
/-- A call as a number, -1 for none. -/
def optI : Option Nat → Int
  | some k => (k : Int)
  | none => -1
/-- The call that NextCall answers. -/
def nextO (n m : Nat) (p d : Nat → Int) (i port : Int) : Option Nat := if askB n m p d i = true then nextC n p i.toNat port else none
def nextK (n m : Nat) (p d : Nat → Int) (i port : Int) : Int := match nextO n m p d i port with
  | some k => (k : Int)
  | none => 0
def nextD (n m : Nat) (p d : Nat → Int) (i port : Int) : Int := match nextO n m p d i port with
  | some k => wayD n d i.toNat k
  | none => 0
def nextB (n m : Nat) (p d : Nat → Int) (i port : Int) : Bool := (nextO n m p d i port).isSome
theorem nextO_no {n m : Nat} {p d : Nat → Int} {i port : Int} (h : askB n m p d i = false) : nextO n m p d i port = none := by simp [nextO, h]
theorem nextO_yes {n m : Nat} {p d : Nat → Int} {i port : Int} (h : askB n m p d i = true) : nextO n m p d i port = nextC n p i.toNat port := by simp [nextO, h]
theorem next_none {n m : Nat} {p d : Nat → Int} {i port : Int} (h : nextO n m p d i port = none) : nextK n m p d i port = 0 ∧ nextD n m p d i port = 0 ∧ nextB n m p d i port = false := by simp [nextK, nextD, nextB, h]
theorem next_some {n m : Nat} {p d : Nat → Int} {i port : Int} {k : Nat} (h : nextO n m p d i port = some k) : nextK n m p d i port = (k : Int) ∧ nextD n m p d i port = wayD n d i.toNat k ∧ nextB n m p d i port = true := by simp [nextK, nextD, nextB, h]
theorem mod_two (i j n : Nat) : ((i : Int) + (j : Int)) % (n : Int) = ((i + j) % n : Nat) := by rw [Int.natCast_emod, Int.natCast_add]

set_option maxRecDepth 100000 in
set_option maxHeartbeats 2000000 in
theorem l3Next_rows (v2 : Value) (g1 o1 c1 n : Nat) (p : Nat → Int) (i : Nat) (port : Int) (h0 : 1 ≤ n) (h12 : n ≤ 12) (hi : i < n) (w : World) (h1 : IAt w g1 o1 n p) :
    Calls Try.prog 51 #[.agg #[.slice (some ⟨g1, o1, none⟩) n c1, v2], .int .i64 (i : Int), .int .i64 port] w (NumP w (optI (nextC n p i port))) := by
  have H1 := Lib.hid h1
  clear h1
  go_enter Try.func51, Try.ntmps51
  go_wp2_with fail
  have B := Lib.hid (below_one w (.cells #[.slice (some ⟨g1, o1, none⟩) n c1, v2] 26))
  have r0 : (w.alloc (.cells #[.slice (some ⟨g1, o1, none⟩) n c1, v2] 26)).cell? ⟨w.heap.size, 0, none⟩ = some (.slice (some ⟨g1, o1, none⟩) n c1) := by simp
  have I1 := Lib.hid (H1.out.below B.out)
  generalize (w.alloc (.cells #[.slice (some ⟨g1, o1, none⟩) n c1, v2] 26)) = W at *
  go_loop [7] (fun s => ∃ j : Nat, j ≤ n ∧ s = .int .i64 j ∧ Hid (∀ t, t < j → p ((i + t) % n) ≠ port)) (fun s => n - (intOf s).toNat)
  case atStart => exact ⟨0, Nat.zero_le _, rfl, Lib.hid fun t ht => by omega⟩
  case round =>
    obtain ⟨j, hj, rfl, HJ⟩ := hrel
    by_cases hlt : j < n
    · have HM := Lib.hid (mod_two i j n)
      have ht : (i + j) % n < n := Nat.mod_lt _ (by omega)
      have a1 := I1.out.2 _ ht
      by_cases hp : p ((i + j) % n) = port
      · have HX : Hid (optI (nextC n p i port) = ((i + j) % n : Nat)) := Lib.hid (by rw [nextC_hit hlt hp HJ.out]; rfl)
        have hpb : (p ((i + j) % n) == port) = true := by simpa using hp
        clear hp HJ
        generalize (i + j) % n = t at *
        generalize p t = x at *
        have hm := HM.out
        go_wp2_with fail
        go_ret
        exact ⟨by rw [HX.out]; rfl, B.out⟩
      · have HJ2 : Hid (∀ t, t < j + 1 → p ((i + t) % n) ≠ port) := Lib.hid fun t ht => by
          by_cases e : t = j
          · subst e; exact hp
          · exact HJ.out t (by omega)
        have hpb : (p ((i + j) % n) == port) = false := by simpa using hp
        clear hp HJ
        generalize (i + j) % n = t at *
        generalize p t = x at *
        have hm := HM.out
        go_wp2_with fail
        clear hm
        go_round
        case rel => exact ⟨j + 1, by omega, by go_num, HJ2⟩
        case measure => simp [intOf]; omega
    · obtain rfl : j = n := by omega
      have HX : Hid (optI (nextC j p i port) = -1) := Lib.hid (by rw [nextC_miss HJ.out]; rfl)
      go_wp2_with fail
      go_ret
      exact ⟨by rw [HX.out]; rfl, B.out⟩

set_option maxRecDepth 100000 in
set_option maxHeartbeats 2000000 in
theorem specNext_any (v : Value) (n m : Nat) (p d : Nat → Int) (i port : Int) (hn : n ≤ maxLen) (hm : m ≤ maxLen) (w : World) (h : ArgR w v n m p d) :
    Calls Try.prog 22 #[v, .int .i64 i, .int .i64 port] w (TripP w (nextK n m p d i port) (nextD n m p d i port) (nextB n m p d i port)) := by
  have HV := Lib.hid h
  cases hi : askB n m p d i with
  | false =>
    obtain ⟨v1, v2, rfl, h1, -⟩ := h
    clear h1
    have HN := Lib.hid (next_none (nextO_no (port := port) hi))
    have HR := Lib.hid hi
    clear hi
    go_enter Try.func22, Try.ntmps22
    go_wp2_with fail
    refine (specAsked_any _ n m p d i hn hm _ (HV.out.below (below_one w _))).mono ?_
    rw [HR.out]
    rintro e w1 ⟨rfl, hb⟩
    have B := Lib.hid ((below_one w (.cells #[v1, v2] 26)).trans (hb.mono (by simp)))
    clear hb
    go_wp2_with fail
    go_ret3
    exact ⟨by rw [HN.out.1, HN.out.2.1, HN.out.2.2]; rfl, B.out⟩
  | true =>
    obtain ⟨hr, i0, i1⟩ := askB_iff.1 hi
    have hG := good_of hr
    obtain ⟨v1, v2, rfl, h1, h2⟩ := h
    have e0 := hG.same
    subst e0
    obtain ⟨g1, o1, c1', rfl, i1'⟩ := h1.rows (by have := hG.pos; omega)
    obtain ⟨g2, o2, c2, rfl, i2⟩ := h2.rows (by have := hG.pos; omega)
    have h0 := hG.pos
    have h12 := hG.top
    have HG := Lib.hid hG
    have I1 := Lib.hid i1'
    have I2 := Lib.hid i2
    have HO := Lib.hid (nextO_yes (port := port) hi)
    have HR := Lib.hid hi
    clear hr hG h1 h2 i1' i2 hi
    go_enter Try.func22, Try.ntmps22
    go_wp2_with fail
    refine (specAsked_any _ m m p d i hn hm _ (HV.out.below (below_one w _))).mono ?_
    rw [HR.out]
    rintro e w1 ⟨rfl, hb⟩
    have B := Lib.hid ((below_one w (.cells #[.slice (some ⟨g1, o1, none⟩) m c1', .slice (some ⟨g2, o2, none⟩) m c2] 26)).trans (hb.mono (by simp)))
    have c0 : w1.cell? ⟨w.heap.size, 0, none⟩ = some (.slice (some ⟨g1, o1, none⟩) m c1') := (hb.cell (p := ⟨w.heap.size, 0, none⟩) (by simp)).trans (by simp)
    have c1 : w1.cell? ⟨w.heap.size, 1, none⟩ = some (.slice (some ⟨g2, o2, none⟩) m c2) := (hb.cell (p := ⟨w.heap.size, 1, none⟩) (by simp)).trans (by simp)
    have hz : w.heap.size < w1.heap.size := by have := hb.size; simp at this; omega
    clear hb
    have ei : i = ((i.toNat : Nat) : Int) := by omega
    have hit : i.toNat < m := by omega
    have HO2 : Hid (∀ o, nextC m p i.toNat port = o → nextO m m p d i port = o) := Lib.hid fun o h => HO.out.trans h
    have HW2 : Hid (∀ k, nextO m m p d i port = some k → nextD m m p d i port = wayD m d i.toNat k) := Lib.hid fun k h => (next_some h).2.1
    have HA2 : Hid (∀ k, nextO m m p d i port = some k → nextK m m p d i port = (k : Int) ∧ nextB m m p d i port = true) := Lib.hid fun k h => ⟨(next_some h).1, (next_some h).2.2⟩
    have HE2 : Hid (nextO m m p d i port = none → nextK m m p d i port = 0 ∧ nextD m m p d i port = 0 ∧ nextB m m p d i port = false) := Lib.hid next_none
    generalize nextO m m p d i port = O at *
    generalize nextK m m p d i port = K at *
    generalize nextD m m p d i port = D at *
    generalize nextB m m p d i port = Bo at *
    generalize i.toNat = a at *
    subst ei
    go_wp2_with fail
    refine (l3Next_rows _ g1 o1 c1' m p a port h0 h12 hit _ (I1.out.below B.out)).mono ?_
    cases hc : nextC m p a port with
    | none =>
      have HX := Lib.hid (HE2.out (HO2.out _ hc))
      clear hc
      simp only [optI]
      rintro e w2 ⟨rfl, hb2⟩
      have B2 : Hid (Below w.heap.size w w2) := Lib.hid (B.out.trans (hb2.mono B.out.size))
      clear hb2
      go_wp2_with fail
      go_ret3
      exact ⟨by rw [HX.out.1, HX.out.2.1, HX.out.2.2]; rfl, B2.out⟩
    | some k =>
      have HX := Lib.hid (HA2.out k (HO2.out _ hc))
      have HD := Lib.hid (HW2.out k (HO2.out _ hc))
      obtain ⟨hk, -⟩ := nextC_some hc
      clear hc
      simp only [optI]
      rintro e w2 ⟨rfl, hb2⟩
      have B2 : Hid (Below w.heap.size w w2) := Lib.hid (B.out.trans (hb2.mono B.out.size))
      have d0 := (hb2.cell (p := ⟨w.heap.size, 0, none⟩) hz).trans c0
      have d1 := (hb2.cell (p := ⟨w.heap.size, 1, none⟩) hz).trans c1
      clear hb2 c0 c1
      go_wp2_with fail
      refine (l3Days_rows _ g2 o2 c2 m p d HG.out a k hit hk _ (I2.out.below B2.out)).mono ?_
      rintro e w3 ⟨rfl, hb3⟩
      have B3 : Hid (Below w.heap.size w w3) := Lib.hid (B2.out.trans (hb3.mono B2.out.size))
      clear hb3
      go_wp2_with fail
      go_ret3
      exact ⟨by rw [HX.out.1, HD.out, HX.out.2]; rfl, B3.out⟩

set_option maxRecDepth 100000 in
set_option maxHeartbeats 2000000 in
theorem implNext_any (v : Value) (n m : Nat) (p d : Nat → Int) (i port : Int) (hn : n ≤ maxLen) (hm : m ≤ maxLen) (w : World) (h : ArgR w v n m p d) :
    Calls Try.prog 20 #[v, .int .i64 i, .int .i64 port] w (TripP w (nextK n m p d i port) (nextD n m p d i port) (nextB n m p d i port)) := by
  have HV := Lib.hid h
  cases hi : askB n m p d i with
  | false =>
    obtain ⟨v1, v2, rfl, h1, -⟩ := h
    clear h1
    have HN := Lib.hid (next_none (nextO_no (port := port) hi))
    have HR := Lib.hid hi
    clear hi
    go_enter Try.func20, Try.ntmps20
    go_wp2_with fail
    refine (implAsked_any _ n m p d i hn hm _ (HV.out.below (below_one w _))).mono ?_
    rw [HR.out]
    rintro e w1 ⟨rfl, hb⟩
    have B := Lib.hid ((below_one w (.cells #[v1, v2] 26)).trans (hb.mono (by simp)))
    clear hb
    go_wp2_with fail
    go_ret3
    exact ⟨by rw [HN.out.1, HN.out.2.1, HN.out.2.2]; rfl, B.out⟩
  | true =>
    obtain ⟨hr, i0, i1⟩ := askB_iff.1 hi
    have hG := good_of hr
    obtain ⟨v1, v2, rfl, h1, h2⟩ := h
    have e0 := hG.same
    subst e0
    obtain ⟨g1, o1, c1', rfl, i1'⟩ := h1.rows (by have := hG.pos; omega)
    obtain ⟨g2, o2, c2, rfl, i2⟩ := h2.rows (by have := hG.pos; omega)
    have h0 := hG.pos
    have h12 := hG.top
    have HG := Lib.hid hG
    have I1 := Lib.hid i1'
    have I2 := Lib.hid i2
    have HO := Lib.hid (nextO_yes (port := port) hi)
    have HR := Lib.hid hi
    clear hr hG h1 h2 i1' i2 hi
    go_enter Try.func20, Try.ntmps20
    go_wp2_with fail
    refine (implAsked_any _ m m p d i hn hm _ (HV.out.below (below_one w _))).mono ?_
    rw [HR.out]
    rintro e w1 ⟨rfl, hb⟩
    have B := Lib.hid ((below_one w (.cells #[.slice (some ⟨g1, o1, none⟩) m c1', .slice (some ⟨g2, o2, none⟩) m c2] 26)).trans (hb.mono (by simp)))
    have c0 : w1.cell? ⟨w.heap.size, 0, none⟩ = some (.slice (some ⟨g1, o1, none⟩) m c1') := (hb.cell (p := ⟨w.heap.size, 0, none⟩) (by simp)).trans (by simp)
    have c1 : w1.cell? ⟨w.heap.size, 1, none⟩ = some (.slice (some ⟨g2, o2, none⟩) m c2) := (hb.cell (p := ⟨w.heap.size, 1, none⟩) (by simp)).trans (by simp)
    have hz : w.heap.size < w1.heap.size := by have := hb.size; simp at this; omega
    clear hb
    have ei : i = ((i.toNat : Nat) : Int) := by omega
    have hit : i.toNat < m := by omega
    have HO2 : Hid (∀ o, nextC m p i.toNat port = o → nextO m m p d i port = o) := Lib.hid fun o h => HO.out.trans h
    have HW2 : Hid (∀ k, nextO m m p d i port = some k → nextD m m p d i port = wayD m d i.toNat k) := Lib.hid fun k h => (next_some h).2.1
    have HA2 : Hid (∀ k, nextO m m p d i port = some k → nextK m m p d i port = (k : Int) ∧ nextB m m p d i port = true) := Lib.hid fun k h => ⟨(next_some h).1, (next_some h).2.2⟩
    have HE2 : Hid (nextO m m p d i port = none → nextK m m p d i port = 0 ∧ nextD m m p d i port = 0 ∧ nextB m m p d i port = false) := Lib.hid next_none
    generalize nextO m m p d i port = O at *
    generalize nextK m m p d i port = K at *
    generalize nextD m m p d i port = D at *
    generalize nextB m m p d i port = Bo at *
    generalize i.toNat = a at *
    subst ei
    have J1 := Lib.hid (I1.out.below B.out)
    go_wp2_with fail
    go_loop [18] (fun s => ∃ j : Nat, j ≤ m ∧ s = .int .i64 j ∧ Hid (∀ t, t < j → p ((a + t) % m) ≠ port)) (fun s => m - (intOf s).toNat)
    case atStart => exact ⟨0, Nat.zero_le _, rfl, Lib.hid fun t ht => by omega⟩
    case round =>
      obtain ⟨j, hj, rfl, HJ⟩ := hrel
      by_cases hlt : j < m
      · have HM := Lib.hid (mod_two a j m)
        have ht : (a + j) % m < m := Nat.mod_lt _ (by omega)
        have a1 := J1.out.2 _ ht
        by_cases hp : p ((a + j) % m) = port
        · have hc := nextC_hit hlt hp HJ.out
          have HX := Lib.hid (HA2.out _ (HO2.out _ hc))
          have HD := Lib.hid (HW2.out _ (HO2.out _ hc))
          have hpb : (p ((a + j) % m) == port) = true := by simpa using hp
          clear hp HJ hc
          generalize (a + j) % m = t at *
          generalize p t = x at *
          have hm := HM.out
          go_wp2_with fail
          refine (table_rows g1 o1 c1' g2 o2 c2 m p d HG.out _ (I2.out.below B.out)).mono ?_
          rintro e w3 ⟨rfl, hb3⟩
          have B3 : Hid (Below w.heap.size w w3) := Lib.hid (B.out.trans (hb3.mono B.out.size))
          clear hb3
          go_wp2_with fail
          refine (way_any m p d HG.out a t hit ht _).mono ?_
          rintro e w4 ⟨rfl, hb4⟩
          have B4 : Hid (Below w.heap.size w w4) := Lib.hid (B3.out.trans (hb4.mono B3.out.size))
          clear hb4
          go_wp2_with fail
          go_ret3
          exact ⟨by rw [HX.out.1, HD.out, HX.out.2]; rfl, B4.out⟩
        · have HJ2 : Hid (∀ t, t < j + 1 → p ((a + t) % m) ≠ port) := Lib.hid fun t ht => by
            by_cases e : t = j
            · subst e; exact hp
            · exact HJ.out t (by omega)
          have hpb : (p ((a + j) % m) == port) = false := by simpa using hp
          clear hp HJ
          generalize (a + j) % m = t at *
          generalize p t = x at *
          have hm := HM.out
          go_wp2_with fail
          clear hm
          go_round
          case rel => exact ⟨j + 1, by omega, by go_num, HJ2⟩
          case measure => simp [intOf]; omega
      · obtain rfl : j = m := by omega
        have HX := Lib.hid (HE2.out (HO2.out _ (nextC_miss HJ.out)))
        go_wp2_with fail
        go_ret3
        exact ⟨by rw [HX.out.1, HX.out.2.1, HX.out.2.2]; rfl, B.out⟩
end Go.Proofs.Ythpiahellpnccaa
