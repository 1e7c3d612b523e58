/-
  What the two BestLoading return where they fail, and what impl.BestLoading returns. No statement of the seat by itself.
-/
import Derived.Test.YthpiahellpnccaaBest
namespace Go.Proofs.Ythpiahellpnccaa
open Go.RowKit

set_option maxRecDepth 100000 in
set_option maxHeartbeats 2000000 in
theorem specBest_bad (v : Value) (n m : Nat) (p d : Nat → Int) (fro to : Int) (hn : n ≤ maxLen) (hm : m ≤ maxLen) (w : World) (h : ArgR w v n m p d) (hr : rotB n m p d = false) :
    Calls Try.prog 19 #[v, .int .i64 fro, .int .i64 to] w (TripP w 0 0 false) := by
  have HV := Lib.hid h
  obtain ⟨v1, v2, rfl, -, -⟩ := h
  have HR := Lib.hid hr
  clear hr
  go_enter Try.func19, Try.ntmps19
  go_wp2_with fail
  refine (specGood_any _ n m p d hn hm _ (HV.out.below (below_one w _))).mono ?_
  rw [HR.out]
  rintro e w1 ⟨rfl, hb⟩
  have B := Lib.hid ((below_one w (.cells #[v1, v2] 26)).trans (hb.mono (by simp)))
  clear hb
  go_wp2_with fail
  go_ret3
  exact ⟨rfl, B.out⟩
set_option maxRecDepth 100000 in
set_option maxHeartbeats 2000000 in
theorem specBest_same (v : Value) (n m : Nat) (p d : Nat → Int) (to : Int) (hn : n ≤ maxLen) (hm : m ≤ maxLen) (w : World) (h : ArgR w v n m p d) (hr : rotB n m p d = true) :
    Calls Try.prog 19 #[v, .int .i64 to, .int .i64 to] w (TripP w 0 0 false) := by
  have HV := Lib.hid h
  obtain ⟨v1, v2, rfl, -, -⟩ := h
  have HR := Lib.hid hr
  clear hr
  go_enter Try.func19, Try.ntmps19
  go_wp2_with fail
  refine (specGood_any _ n m p d hn hm _ (HV.out.below (below_one w _))).mono ?_
  rw [HR.out]
  rintro e w1 ⟨rfl, hb⟩
  have B := Lib.hid ((below_one w (.cells #[v1, v2] 26)).trans (hb.mono (by simp)))
  clear hb
  go_wp2_with fail
  go_ret3
  exact ⟨rfl, B.out⟩

set_option maxRecDepth 100000 in
set_option maxHeartbeats 2000000 in
theorem implBest_bad (v : Value) (n m : Nat) (p d : Nat → Int) (fro to : Int) (hn : n ≤ maxLen) (hm : m ≤ maxLen) (w : World) (h : ArgR w v n m p d) (hr : rotB n m p d = false) :
    Calls Try.prog 18 #[v, .int .i64 fro, .int .i64 to] w (TripP w 0 0 false) := by
  have HV := Lib.hid h
  obtain ⟨v1, v2, rfl, -, -⟩ := h
  have HR := Lib.hid hr
  clear hr
  go_enter Try.func18, Try.ntmps18
  go_wp2_with fail
  refine (implGood_any _ n m p d hn hm _ (HV.out.below (below_one w _))).mono ?_
  rw [HR.out]
  rintro e w1 ⟨rfl, hb⟩
  have B := Lib.hid ((below_one w (.cells #[v1, v2] 26)).trans (hb.mono (by simp)))
  clear hb
  go_wp2_with fail
  go_ret3
  exact ⟨rfl, B.out⟩
set_option maxRecDepth 100000 in
set_option maxHeartbeats 2000000 in
theorem implBest_same (v : Value) (n m : Nat) (p d : Nat → Int) (to : Int) (hn : n ≤ maxLen) (hm : m ≤ maxLen) (w : World) (h : ArgR w v n m p d) (hr : rotB n m p d = true) :
    Calls Try.prog 18 #[v, .int .i64 to, .int .i64 to] w (TripP w 0 0 false) := by
  have HV := Lib.hid h
  obtain ⟨v1, v2, rfl, -, -⟩ := h
  have HR := Lib.hid hr
  clear hr
  go_enter Try.func18, Try.ntmps18
  go_wp2_with fail
  refine (implGood_any _ n m p d hn hm _ (HV.out.below (below_one w _))).mono ?_
  rw [HR.out]
  rintro e w1 ⟨rfl, hb⟩
  have B := Lib.hid ((below_one w (.cells #[v1, v2] 26)).trans (hb.mono (by simp)))
  clear hb
  go_wp2_with fail
  go_ret3
  exact ⟨rfl, B.out⟩

set_option maxRecDepth 100000 in
set_option maxHeartbeats 2000000 in
theorem specBest_none (g1 o1 c1 g2 o2 c2 n : Nat) (p d : Nat → Int) (fro to : Int) (hr : rotB n n p d = true) (hft : fro ≠ to) (hto : nextC n p 0 to = none) (w : World) (h1 : IAt w g1 o1 n p) (h2 : IAt w g2 o2 n d) :
    Calls Try.prog 19 #[.agg #[.slice (some ⟨g1, o1, none⟩) n c1, .slice (some ⟨g2, o2, none⟩) n c2], .int .i64 fro, .int .i64 to] w (TripP w 0 0 false) := by
  have hG := good_of hr
  have HV : Hid (ArgR w (.agg #[.slice (some ⟨g1, o1, none⟩) n c1, .slice (some ⟨g2, o2, none⟩) n c2]) n n p d) := Lib.hid ⟨_, _, rfl, .inr ⟨_, _, _, rfl, h1⟩, .inr ⟨_, _, _, rfl, h2⟩⟩
  have h0 := hG.pos
  have h12 := hG.top
  have hnm : n ≤ maxLen := by unfold maxLen; omega
  have HG := Lib.hid hG
  have I1 := Lib.hid h1
  have I2 := Lib.hid h2
  have HR := Lib.hid hr
  have HT := Lib.hid hto
  have hfb : (fro == to) = false := by simpa using hft
  clear hr hG h1 h2 hto hft
  go_enter Try.func19, Try.ntmps19
  go_wp2_with fail
  refine (specGood_any _ n n p d hnm hnm _ (HV.out.below (below_one w _))).mono ?_
  rw [HR.out]
  rintro e w1 ⟨rfl, hb⟩
  have B := Lib.hid ((below_one w (.cells #[.slice (some ⟨g1, o1, none⟩) n c1, .slice (some ⟨g2, o2, none⟩) n c2] 26)).trans (hb.mono (by simp)))
  have c0 : w1.cell? ⟨w.heap.size, 0, none⟩ = some (.slice (some ⟨g1, o1, none⟩) n c1) := (hb.cell (p := ⟨w.heap.size, 0, none⟩) (by simp)).trans (by simp)
  have c1' : w1.cell? ⟨w.heap.size, 1, none⟩ = some (.slice (some ⟨g2, o2, none⟩) n c2) := (hb.cell (p := ⟨w.heap.size, 1, none⟩) (by simp)).trans (by simp)
  have hz : w.heap.size < w1.heap.size := by have := hb.size; simp at this; omega
  clear hb
  go_wp2_with fail
  refine (l3Next_rows _ g1 o1 c1 n p 0 to h0 h12 (by omega) _ (I1.out.below B.out)).mono ?_
  rw [HT.out]
  simp only [optI]
  rintro e w2 ⟨rfl, hb2⟩
  have B2 : Hid (Below w.heap.size w w2) := Lib.hid (B.out.trans (hb2.mono B.out.size))
  clear hb2
  go_wp2_with fail
  go_ret3
  exact ⟨rfl, B2.out⟩

/-- NextCall at a call that there is. -/
theorem implNext_at (g1 o1 c1 g2 o2 c2 n : Nat) (p d : Nat → Int) (to : Int) (k : Nat) (hr : rotB n n p d = true) (hk : k < n) (w : World) (h1 : IAt w g1 o1 n p) (h2 : IAt w g2 o2 n d) :
    Calls Try.prog 20 #[.agg #[.slice (some ⟨g1, o1, none⟩) n c1, .slice (some ⟨g2, o2, none⟩) n c2], .int .i64 (k : Int), .int .i64 to] w (TripP w (optZ (nextC n p k to)) (distTo n p d to k) (nextC n p k to).isSome) := by
  have h12 := (good_of hr).top
  have hnm : n ≤ maxLen := by unfold maxLen; omega
  have ha : askB n n p d (k : Int) = true := askB_in hr (by omega) (by omega)
  have := implNext_any (.agg #[.slice (some ⟨g1, o1, none⟩) n c1, .slice (some ⟨g2, o2, none⟩) n c2]) n n p d k to hnm hnm w ⟨_, _, rfl, .inr ⟨_, _, _, rfl, h1⟩, .inr ⟨_, _, _, rfl, h2⟩⟩
  have ho : nextO n n p d (k : Int) to = nextC n p k to := nextO_yes ha
  have e1 : nextK n n p d (k : Int) to = optZ (nextC n p k to) := by unfold nextK; rw [ho]; cases nextC n p k to <;> rfl
  have e2 : nextD n n p d (k : Int) to = distTo n p d to k := by unfold nextD distTo; rw [ho]; cases nextC n p k to <;> rfl
  have e3 : nextB n n p d (k : Int) to = (nextC n p k to).isSome := by unfold nextB; rw [ho]
  rw [e1, e2, e3] at this
  exact this

set_option maxRecDepth 100000 in
set_option maxHeartbeats 2000000 in
theorem implBest_none (g1 o1 c1 g2 o2 c2 n : Nat) (p d : Nat → Int) (fro to : Int) (hr : rotB n n p d = true) (hft : fro ≠ to) (hto : nextC n p 0 to = none) (w : World) (h1 : IAt w g1 o1 n p) (h2 : IAt w g2 o2 n d) :
    Calls Try.prog 18 #[.agg #[.slice (some ⟨g1, o1, none⟩) n c1, .slice (some ⟨g2, o2, none⟩) n c2], .int .i64 fro, .int .i64 to] w (TripP w 0 0 false) := by
  have hG := good_of hr
  have HV : Hid (ArgR w (.agg #[.slice (some ⟨g1, o1, none⟩) n c1, .slice (some ⟨g2, o2, none⟩) n c2]) n n p d) := Lib.hid ⟨_, _, rfl, .inr ⟨_, _, _, rfl, h1⟩, .inr ⟨_, _, _, rfl, h2⟩⟩
  have h0 := hG.pos
  have h12 := hG.top
  have hnm : n ≤ maxLen := by unfold maxLen; omega
  have HG := Lib.hid hG
  have I1 := Lib.hid h1
  have I2 := Lib.hid h2
  have HR := Lib.hid hr
  have HT := Lib.hid hto
  have hfb : (fro == to) = false := by simpa using hft
  clear hr hG h1 h2 hto hft
  go_enter Try.func18, Try.ntmps18
  go_wp2_with fail
  refine (implGood_any _ n n p d hnm hnm _ (HV.out.below (below_one w _))).mono ?_
  rw [HR.out]
  rintro e w1 ⟨rfl, hb⟩
  have B := Lib.hid ((below_one w (.cells #[.slice (some ⟨g1, o1, none⟩) n c1, .slice (some ⟨g2, o2, none⟩) n c2] 26)).trans (hb.mono (by simp)))
  have c0 : w1.cell? ⟨w.heap.size, 0, none⟩ = some (.slice (some ⟨g1, o1, none⟩) n c1) := (hb.cell (p := ⟨w.heap.size, 0, none⟩) (by simp)).trans (by simp)
  have c1' : w1.cell? ⟨w.heap.size, 1, none⟩ = some (.slice (some ⟨g2, o2, none⟩) n c2) := (hb.cell (p := ⟨w.heap.size, 1, none⟩) (by simp)).trans (by simp)
  have hz : w.heap.size < w1.heap.size := by have := hb.size; simp at this; omega
  clear hb
  have J1 := Lib.hid (I1.out.below B.out)
  go_wp2_with fail
  go_loop [9, 10, 11, 28] (fun b l f i => b = .int .i64 0 ∧ l = .int .i64 0 ∧ f = .bool false ∧ ∃ k : Nat, k ≤ n ∧ i = .int .i64 k) (fun _ _ _ i => n - (intOf i).toNat)
  case atStart => exact ⟨rfl, rfl, rfl, 0, Nat.zero_le _, rfl⟩
  case round =>
    obtain ⟨rfl, rfl, rfl, k, hk, rfl⟩ := hrel
    by_cases hlt : k < n
    · have a1 := J1.out.2 k hlt
      by_cases hp : p k = fro
      · have hpb : (p k != fro) = false := by simpa using hp
        have hkn := nextC_none_any (j := k) (by omega) hlt HT.out
        have HK : Hid (Calls Try.prog 20 #[.agg #[.slice (some ⟨g1, o1, none⟩) n c1, .slice (some ⟨g2, o2, none⟩) n c2], .int .i64 (k : Int), .int .i64 to] w1 (TripP w1 0 (distTo n p d to k) false)) := Lib.hid (by
          have := implNext_at g1 o1 c1 g2 o2 c2 n p d to k HR.out hlt w1 J1.out (I2.out.below B.out)
          rw [hkn] at this
          exact this)
        clear hp hkn
        generalize p k = x at *
        generalize distTo n p d to k = y at *
        go_wp2_with fail
        refine HK.out.mono ?_
        rintro e w3 ⟨rfl, hb3⟩
        have B3 : Hid (Below w.heap.size w w3) := Lib.hid (B.out.trans (hb3.mono B.out.size))
        clear hb3
        go_wp2_with fail
        go_ret3
        exact ⟨rfl, B3.out⟩
      · have hpb : (p k != fro) = true := by simpa using hp
        clear hp
        generalize p k = x at *
        go_wp2_with fail
        go_round
        case rel => exact ⟨rfl, rfl, rfl, k + 1, by omega, by go_num⟩
        case measure => simp [intOf]; omega
    · obtain rfl : k = n := by omega
      go_wp2_with fail
      go_ret3
      exact ⟨rfl, B.out⟩

/-- The state of impl.BestLoading's loop. -/
def BestT (n : Nat) (p d : Nat → Int) (fro to : Int) (k : Nat) (b l f : Value) : Prop := ∃ o, bestF n p d fro to k = o ∧ b = .int .i64 (optZ o) ∧ l = .int .i64 (optD n p d to o) ∧ f = .bool o.isSome

set_option maxRecDepth 100000 in
set_option maxHeartbeats 4000000 in
theorem implBest_rows (g1 o1 c1 g2 o2 c2 n : Nat) (p d : Nat → Int) (fro to : Int) (hr : rotB n n p d = true) (hft : fro ≠ to) (hto : nextC n p 0 to ≠ none) (w : World) (h1 : IAt w g1 o1 n p) (h2 : IAt w g2 o2 n d) :
    Calls Try.prog 18 #[.agg #[.slice (some ⟨g1, o1, none⟩) n c1, .slice (some ⟨g2, o2, none⟩) n c2], .int .i64 fro, .int .i64 to] w (TripP w (optZ (bestF n p d fro to n)) (optD n p d to (bestF n p d fro to n)) (bestF n p d fro to n).isSome) := by
  have hG := good_of hr
  have HV : Hid (ArgR w (.agg #[.slice (some ⟨g1, o1, none⟩) n c1, .slice (some ⟨g2, o2, none⟩) n c2]) n n p d) := Lib.hid ⟨_, _, rfl, .inr ⟨_, _, _, rfl, h1⟩, .inr ⟨_, _, _, rfl, h2⟩⟩
  have h0 := hG.pos
  have h12 := hG.top
  have hnm : n ≤ maxLen := by unfold maxLen; omega
  have HG := Lib.hid hG
  have I1 := Lib.hid h1
  have I2 := Lib.hid h2
  have HR := Lib.hid hr
  have HT := Lib.hid hto
  have hfb : (fro == to) = false := by simpa using hft
  have HP : Hid (∀ o, bestF n p d fro to n = o → optZ (bestF n p d fro to n) = optZ o ∧ optD n p d to (bestF n p d fro to n) = optD n p d to o ∧ (bestF n p d fro to n).isSome = o.isSome) := Lib.hid fun o h => by rw [h]; exact ⟨rfl, rfl, rfl⟩
  generalize optZ (bestF n p d fro to n) = Z at *
  generalize optD n p d to (bestF n p d fro to n) = D at *
  generalize (bestF n p d fro to n).isSome = S at *
  clear hr hG h1 h2 hto hft
  go_enter Try.func18, Try.ntmps18
  go_wp2_with fail
  refine (implGood_any _ n n p d hnm hnm _ (HV.out.below (below_one w _))).mono ?_
  rw [HR.out]
  rintro e w1 ⟨rfl, hb⟩
  have B := Lib.hid ((below_one w (.cells #[.slice (some ⟨g1, o1, none⟩) n c1, .slice (some ⟨g2, o2, none⟩) n c2] 26)).trans (hb.mono (by simp)))
  have c0 : w1.cell? ⟨w.heap.size, 0, none⟩ = some (.slice (some ⟨g1, o1, none⟩) n c1) := (hb.cell (p := ⟨w.heap.size, 0, none⟩) (by simp)).trans (by simp)
  have c1' : w1.cell? ⟨w.heap.size, 1, none⟩ = some (.slice (some ⟨g2, o2, none⟩) n c2) := (hb.cell (p := ⟨w.heap.size, 1, none⟩) (by simp)).trans (by simp)
  have hz : w.heap.size < w1.heap.size := by have := hb.size; simp at this; omega
  clear hb
  have D0 := Lib.hid c0
  have D1 := Lib.hid c1'
  clear c1'
  go_wp2_with fail
  clear c0
  go_loopw [9, 10, 11, 28] (fun b l f i wr => ∃ k : Nat, k ≤ n ∧ i = .int .i64 k ∧ BestT n p d fro to k b l f ∧ Hid (Below w1.heap.size w1 wr)) (fun _ _ _ i _ => n - (intOf i).toNat)
  case atStart => exact ⟨0, Nat.zero_le _, rfl, ⟨none, rfl, rfl, rfl, rfl⟩, Lib.hid (Below.refl _ _)⟩
  case round =>
    obtain ⟨k, hk, rfl, ⟨o, hO, rfl, rfl, rfl⟩, HB⟩ := hrel
    have HO := Lib.hid hO
    clear hO
    have s0 := (HB.out.cell (p := ⟨w.heap.size, 0, none⟩) hz).trans D0.out
    have s1 := (HB.out.cell (p := ⟨w.heap.size, 1, none⟩) hz).trans D1.out
    have BW : Hid (Below w.heap.size w wr) := Lib.hid (B.out.trans (HB.out.mono B.out.size))
    by_cases hlt : k < n
    · have a1 := (I1.out.below BW.out).2 k hlt
      by_cases hp : p k = fro
      · have hpb : (p k != fro) = false := by simpa using hp
        obtain ⟨q, hq, hqn⟩ := distTo_in HT.out h0 hlt
        have HK : Hid (Calls Try.prog 20 #[.agg #[.slice (some ⟨g1, o1, none⟩) n c1, .slice (some ⟨g2, o2, none⟩) n c2], .int .i64 (k : Int), .int .i64 to] wr (TripP wr (q : Int) (distTo n p d to k) true)) := Lib.hid (by
          have := implNext_at g1 o1 c1 g2 o2 c2 n p d to k HR.out hlt wr (I1.out.below BW.out) (I2.out.below BW.out)
          rw [hq] at this
          exact this)
        obtain ⟨bd2, bd3⟩ := distTo_bd HG.out to k hlt
        cases o with
        | none =>
          have HF : Hid (BestT n p d fro to (k + 1) (.int .i64 (k : Int)) (.int .i64 (distTo n p d to k)) (.bool true)) := Lib.hid ⟨some k, bestF_first hp HO.out, rfl, rfl, rfl⟩
          clear hp hq
          simp only [optZ, optD, Option.isSome] at *
          generalize p k = x at *
          generalize distTo n p d to k = y at *
          go_wp2_with fail
          refine HK.out.mono ?_
          rintro e w3 ⟨rfl, hb3⟩
          have B5 := Lib.hid (HB.out.trans (hb3.mono HB.out.size))
          clear hb3
          go_wp2_with fail
          exact ⟨⟨k + 1, by omega, by go_num, HF.out, B5⟩, by simp [intOf]; omega⟩
        | some b =>
          have hbk := bestF_lt k b HO.out
          obtain ⟨bd5, bd6⟩ := distTo_bd HG.out to b (by omega)
          simp only [optZ, optD, Option.isSome] at *
          by_cases hl : distTo n p d to k < distTo n p d to b
          · have HF : Hid (BestT n p d fro to (k + 1) (.int .i64 (k : Int)) (.int .i64 (distTo n p d to k)) (.bool true)) := Lib.hid ⟨some k, bestF_less hp HO.out hl, rfl, rfl, rfl⟩
            clear hp hq
            generalize p k = x at *
            generalize distTo n p d to k = y at *
            generalize distTo n p d to b = yb at *
            go_wp2_with fail
            refine HK.out.mono ?_
            rintro e w3 ⟨rfl, hb3⟩
            have B5 := Lib.hid (HB.out.trans (hb3.mono HB.out.size))
            clear hb3
            go_wp2_with fail
            exact ⟨⟨k + 1, by omega, by go_num, HF.out, B5⟩, by simp [intOf]; omega⟩
          · have HF : Hid (BestT n p d fro to (k + 1) (.int .i64 (b : Int)) (.int .i64 (distTo n p d to b)) (.bool true)) := Lib.hid ⟨some b, bestF_more hp HO.out hl, rfl, rfl, rfl⟩
            clear hp hq
            generalize p k = x at *
            generalize distTo n p d to k = y at *
            generalize distTo n p d to b = yb at *
            go_wp2_with fail
            refine HK.out.mono ?_
            rintro e w3 ⟨rfl, hb3⟩
            have B5 := Lib.hid (HB.out.trans (hb3.mono HB.out.size))
            clear hb3
            go_wp2_with fail
            exact ⟨⟨k + 1, by omega, by go_num, HF.out, B5⟩, by simp [intOf]; omega⟩
      · have hpb : (p k != fro) = true := by simpa using hp
        have HF : Hid (∀ b l f, b = .int .i64 (optZ o) → l = .int .i64 (optD n p d to o) → f = .bool o.isSome → BestT n p d fro to (k + 1) b l f) := Lib.hid fun b l f hb hl hf => ⟨o, (bestF_skip hp).trans HO.out, hb, hl, hf⟩
        clear hp
        generalize p k = x at *
        generalize optZ o = bi at *
        generalize optD n p d to o = li at *
        generalize o.isSome = fi at *
        go_wp2_with fail
        exact ⟨⟨k + 1, by omega, by go_num, HF.out _ _ _ rfl rfl rfl, HB⟩, by simp [intOf]; omega⟩
    · obtain rfl : k = n := by omega
      have HX := Lib.hid (HP.out o HO.out)
      generalize optZ o = bi at *
      generalize optD k p d to o = li at *
      generalize o.isSome = fi at *
      go_wp2_with fail
      go_ret3
      exact ⟨by rw [HX.out.1, HX.out.2.1, HX.out.2.2]; rfl, BW.out⟩

theorem best_any (F : Nat) (n m : Nat) (p d : Nat → Int) (fro to : Int) (v : Value) (w : World) (h : ArgR w v n m p d)
    (hbad : rotB n m p d = false → Calls Try.prog F #[v, .int .i64 fro, .int .i64 to] w (TripP w 0 0 false))
    (hsame : rotB n m p d = true → fro = to → Calls Try.prog F #[v, .int .i64 fro, .int .i64 to] w (TripP w 0 0 false))
    (hnone : ∀ g1 o1 c1 g2 o2 c2, rotB n n p d = true → fro ≠ to → nextC n p 0 to = none → IAt w g1 o1 n p → IAt w g2 o2 n d → Calls Try.prog F #[.agg #[.slice (some ⟨g1, o1, none⟩) n c1, .slice (some ⟨g2, o2, none⟩) n c2], .int .i64 fro, .int .i64 to] w (TripP w 0 0 false))
    (hrows : ∀ g1 o1 c1 g2 o2 c2, rotB n n p d = true → fro ≠ to → nextC n p 0 to ≠ none → IAt w g1 o1 n p → IAt w g2 o2 n d → Calls Try.prog F #[.agg #[.slice (some ⟨g1, o1, none⟩) n c1, .slice (some ⟨g2, o2, none⟩) n c2], .int .i64 fro, .int .i64 to] w (TripP w (optZ (bestF n p d fro to n)) (optD n p d to (bestF n p d fro to n)) (bestF n p d fro to n).isSome)) :
    Calls Try.prog F #[v, .int .i64 fro, .int .i64 to] w (TripP w (optZ (bestO n m p d fro to)) (optD n p d to (bestO n m p d fro to)) (bestO n m p d fro to).isSome) := by
  cases hr : rotB n m p d with
  | false =>
    have e : bestO n m p d fro to = none := by simp [bestO, hr]
    rw [e]; exact hbad hr
  | true =>
    by_cases hft : fro = to
    · have e : bestO n m p d fro to = none := by simp [bestO, hft]
      rw [e]; exact hsame hr hft
    · have hG := good_of hr
      have e0 := hG.same
      subst e0
      obtain ⟨v1, v2, rfl, h1, h2⟩ := h
      obtain ⟨g1, o1, c1, rfl, i1⟩ := h1.rows (by have := hG.pos; omega)
      obtain ⟨g2, o2, c2, rfl, i2⟩ := h2.rows (by have := hG.pos; omega)
      by_cases hto : nextC m p 0 to = none
      · have e : bestO m m p d fro to = none := by simp [bestO, hto]
        rw [e]; exact hnone g1 o1 c1 g2 o2 c2 hr hft hto i1 i2
      · have e : bestO m m p d fro to = bestF m p d fro to m := by unfold bestO; rw [if_pos ⟨hr, hft, hto⟩]
        rw [e]; exact hrows g1 o1 c1 g2 o2 c2 hr hft hto i1 i2
theorem specBest_any (v : Value) (n m : Nat) (p d : Nat → Int) (fro to : Int) (hn : n ≤ maxLen) (hm : m ≤ maxLen) (w : World) (h : ArgR w v n m p d) :
    Calls Try.prog 19 #[v, .int .i64 fro, .int .i64 to] w (TripP w (optZ (bestO n m p d fro to)) (optD n p d to (bestO n m p d fro to)) (bestO n m p d fro to).isSome) :=
  best_any 19 n m p d fro to v w h (fun hr => specBest_bad v n m p d fro to hn hm w h hr) (fun hr e => by subst e; exact specBest_same v n m p d fro hn hm w h hr) (fun g1 o1 c1 g2 o2 c2 hr hft hto h1 h2 => specBest_none g1 o1 c1 g2 o2 c2 n p d fro to hr hft hto w h1 h2) (fun g1 o1 c1 g2 o2 c2 hr hft hto h1 h2 => specBest_rows g1 o1 c1 g2 o2 c2 n p d fro to hr hft hto w h1 h2)
theorem implBest_any (v : Value) (n m : Nat) (p d : Nat → Int) (fro to : Int) (hn : n ≤ maxLen) (hm : m ≤ maxLen) (w : World) (h : ArgR w v n m p d) :
    Calls Try.prog 18 #[v, .int .i64 fro, .int .i64 to] w (TripP w (optZ (bestO n m p d fro to)) (optD n p d to (bestO n m p d fro to)) (bestO n m p d fro to).isSome) :=
  best_any 18 n m p d fro to v w h (fun hr => implBest_bad v n m p d fro to hn hm w h hr) (fun hr e => by subst e; exact implBest_same v n m p d fro hn hm w h hr) (fun g1 o1 c1 g2 o2 c2 hr hft hto h1 h2 => implBest_none g1 o1 c1 g2 o2 c2 n p d fro to hr hft hto w h1 h2) (fun g1 o1 c1 g2 o2 c2 hr hft hto h1 h2 => implBest_rows g1 o1 c1 g2 o2 c2 n p d fro to hr hft hto w h1 h2)
end Go.Proofs.Ythpiahellpnccaa
