/-
  Whether weights, rules and columns are valid, in the program and in the reference. No statement of the seat by itself.
-/
import Derived.Test.YtalobfpmmembiaaLsM
import Derived.Test.YtalobfpmmembiaaZNum
import Derived.Test.YtalobfpmmembiaaRet
namespace Go.Proofs.Ytalobfpmmembiaa
open Go.RowKit

theorem isW_any (n : Int) (w : World) : Calls Try.prog 83 #[.int .i64 n] w fun e w' => e = .returned (.bool (okW n)) ∧ Below w.heap.size w w' := by
  by_cases h1 : 1 ≤ n
  · by_cases h2 : n ≤ 32000
    · rw [show okW n = true by simp [okW]; omega]
      go_enter Try.func83, Try.ntmps83
      go_wp2
      go_ret
      exact ⟨by simp, Below.refl _ _⟩
    · rw [show okW n = false by simp [okW]; omega]
      have h3 : decide (n ≤ 32000) = false := by simp; omega
      clear h2
      go_enter Try.func83, Try.ntmps83
      go_wp2
      go_ret
      exact ⟨by simp, Below.refl _ _⟩
  · rw [show okW n = false by simp [okW]; omega]
    have h2 : decide (1 ≤ n) = false := by simp; omega
    clear h1
    go_enter Try.func83, Try.ntmps83
    go_wp2
    go_ret
    exact ⟨by simp, Below.refl _ _⟩
theorem enters_isW : Enters Try.prog 83 := enters_of Try.func83 (by kernel_rfl) rfl

set_option maxRecDepth 100000 in
set_option maxHeartbeats 2000000 in
theorem areWeights_any (v : Value) (l : List Int) (m : Nat) (_hn : l.length ≤ 2000000) (hm : m ≤ 1000) (w : World) (h : IL w v l) :
    Calls Try.prog 55 #[v, .int .i64 (m : Int)] w (BoolP w (goodW l m)) := by
  by_cases hlm : l.length ≤ m
  case neg =>
    rw [goodW_long (by omega)]
    obtain ⟨a, c, rfl⟩ := h.form
    have hd : decide ((l.length : Int) ≤ (m : Int)) = false := by simp; omega
    clear h
    generalize l.length = n at *
    go_enter Try.func55, Try.ntmps55
    go_wp2_with fail
    go_ret
    exact ⟨rfl, Below.refl _ _⟩
  have H := Lib.hid (areAll_any _ #[] enters_isW v l (wAt l) (by omega) w h fun i x W hx _ => by rw [wAt_get hx]; exact isW_any x W)
  have HL := Lib.hid (numsW_len (wAt l) l.length)
  rw [goodW_nums hlm]
  obtain ⟨a, c, rfl⟩ := h.form
  have hd : decide ((l.length : Int) ≤ (m : Int)) = true := by simp; omega
  clear h
  generalize numsW (wAt l) l.length = S at *
  generalize l.length = n at *
  go_enter Try.func55, Try.ntmps55
  go_wp2_with fail
  refine H.out.mono ?_
  rintro e w1 ⟨rfl, hb⟩
  have HB := Lib.hid hb
  clear hb
  go_wp2_with fail
  go_ret
  exact ⟨rfl, HB.out⟩

set_option maxHeartbeats 1000000 in
theorem implValidC_any (v : Value) (l : List Int) (hn : l.length ≤ 2000000) (w : World) (h : IL w v l) :
    Calls Try.prog 19 #[v] w (BoolP w (goodW l 4)) := by
  have H := Lib.hid (areWeights_any v l 4 hn (by decide) w h)
  clear h
  go_enter Try.func19, Try.ntmps19
  go_wp2_with fail
  refine H.out.mono ?_
  rintro e w1 ⟨rfl, hb⟩
  have HB := Lib.hid hb
  clear hb
  go_wp2_with fail
  go_ret
  exact ⟨rfl, HB.out⟩

set_option maxRecDepth 100000 in
set_option maxHeartbeats 2000000 in
theorem l12Weights_any (v : Value) (l : List Int) (m : Nat) (hn : l.length ≤ 1048576) (_hm : m ≤ 1000) (w : World) (h : IL w v l) :
    Calls Try.prog 72 #[v, .int .i64 (m : Int)] w (BoolP w (goodW l m)) := by
  obtain ⟨a, cap, rfl, hc⟩ := h
  obtain ⟨n, hl⟩ : ∃ n, l.length = n := ⟨_, rfl⟩
  have HN := Lib.hid hl
  have HC := Lib.hid hc
  rw [hl] at hn ⊢
  clear hc hl
  go_enter Try.func72, Try.ntmps72
  go_wp2_with fail
  go_loop [5] (fun i => ∃ k : Nat, k ≤ n ∧ i = .int .i64 k ∧ Hid (∀ (j : Nat) (y : Int), j < k → l[j]? = some y → 1 ≤ y ∧ y ≤ 32000)) (fun i => n - (intOf i).toNat)
  case atStart => exact ⟨0, Nat.zero_le _, rfl, Lib.hid fun j y hj => by omega⟩
  case round =>
    obtain ⟨k, hk, rfl, HK⟩ := hrel
    by_cases hlt : k < n
    · obtain ⟨g, off, rfl, hg, hcc⟩ := HC.out (by have := HN.out; omega)
      obtain ⟨y, hy⟩ := get_at HN.out hlt
      have o1 := hcc k y hy
      clear hcc
      by_cases hr : 1 ≤ y ∧ y ≤ 32000
      · have HY := Lib.hid (fun W => l1In_yes y 1 32000 W hr.1 hr.2)
        have HK2 : Hid (∀ (j : Nat) (z : Int), j < k + 1 → l[j]? = some z → 1 ≤ z ∧ z ≤ 32000) := Lib.hid fun j z hj hz => by
          by_cases e : j = k
          · subst e; rw [hy] at hz; cases hz; exact hr
          · exact HK.out j z (by omega) hz
        clear hr hy
        go_wp2_with fail
        refine (HY.out _).mono ?_
        rintro e w1 ⟨rfl, rfl⟩
        go_wp2_with fail
        go_round
        case rel => exact ⟨k + 1, by omega, by go_num, HK2⟩
        case measure => simp [intOf]; omega
      · have HY := Lib.hid (fun W => l1In_no y 1 32000 W (by omega))
        have HF : Hid (goodW l m = false) := Lib.hid (goodW_at hy hr)
        clear hr hy
        go_wp2_with fail
        refine (HY.out _).mono ?_
        rintro e w1 ⟨rfl, rfl⟩
        go_wp2_with fail
        go_ret
        exact ⟨by rw [HF.out]; rfl, Below.refl _ _⟩
    · obtain rfl : k = n := by omega
      have HF : Hid (goodW l m = decide (k ≤ m)) := Lib.hid (by
        by_cases hkm : k ≤ m
        · rw [decide_eq_true hkm, goodW_iff]
          exact ⟨by rw [HN.out]; exact hkm, fun x hx => by
            obtain ⟨j, hj⟩ := List.getElem?_of_mem hx
            exact HK.out j x (by have := lt_of_get hj; have := HN.out; omega) hj⟩
        · rw [decide_eq_false hkm, goodW_long (by rw [HN.out]; omega)])
      go_wp2_with fail
      go_ret
      exact ⟨by rw [HF.out]; rfl, Below.refl _ _⟩

set_option maxHeartbeats 1000000 in
theorem l12Good_any (v : Value) (l : List Int) (hn : l.length ≤ 1048576) (w : World) (h : IL w v l) :
    Calls Try.prog 52 #[v] w (BoolP w (goodW l 4)) := by
  have H := Lib.hid (l12Weights_any v l 4 hn (by decide) w h)
  clear h
  go_enter Try.func52, Try.ntmps52
  go_wp2_with fail
  refine H.out.mono ?_
  rintro e w1 ⟨rfl, hb⟩
  have HB := Lib.hid hb
  clear hb
  go_wp2_with fail
  go_ret
  exact ⟨rfl, HB.out⟩
set_option maxHeartbeats 1000000 in
theorem specValidC_any (v : Value) (l : List Int) (hn : l.length ≤ 1048576) (w : World) (h : IL w v l) :
    Calls Try.prog 38 #[v] w (BoolP w (goodW l 4)) := by
  have H := Lib.hid (l12Good_any v l hn w h)
  clear h
  go_enter Try.func38, Try.ntmps38
  go_wp2_with fail
  refine H.out.mono ?_
  rintro e w1 ⟨rfl, hb⟩
  have HB := Lib.hid hb
  clear hb
  go_wp2_with fail
  go_ret
  exact ⟨rfl, HB.out⟩

set_option maxRecDepth 100000 in
set_option maxHeartbeats 2000000 in
theorem implRules_any (a b c : Int) (w : World) : Calls Try.prog 49 #[.agg #[.int .i64 a, .int .i64 b, .int .i64 c]] w (BoolP w (okX a b c)) := by
  have B0 := Lib.hid (below_one w (.cells #[.int .i64 a, .int .i64 b, .int .i64 c] 26))
  by_cases q0 : 1 ≤ a
  case neg =>
    rw [okX_not (by omega)]
    have d0 : decide (1 ≤ a) = false := decide_eq_false q0
    clear q0
    go_enter Try.func49, Try.ntmps49
    go_wp2_with fail
    go_ret
    exact ⟨by first | rfl | simp, B0.out⟩
  by_cases q1 : a ≤ 200000
  case neg =>
    rw [okX_not (by omega)]
    have d1 : decide (a ≤ 200000) = false := decide_eq_false q1
    clear q1
    go_enter Try.func49, Try.ntmps49
    go_wp2_with fail
    go_ret
    exact ⟨by first | rfl | simp, B0.out⟩
  by_cases q2 : 0 ≤ b
  case neg =>
    rw [okX_not (by omega)]
    have d2 : decide (0 ≤ b) = false := decide_eq_false q2
    clear q2
    go_enter Try.func49, Try.ntmps49
    go_wp2_with fail
    go_ret
    exact ⟨by first | rfl | simp, B0.out⟩
  by_cases q3 : b ≤ 100
  case neg =>
    rw [okX_not (by omega)]
    have d3 : decide (b ≤ 100) = false := decide_eq_false q3
    clear q3
    go_enter Try.func49, Try.ntmps49
    go_wp2_with fail
    go_ret
    exact ⟨by first | rfl | simp, B0.out⟩
  by_cases q4 : 1 ≤ c
  case neg =>
    rw [okX_not (by omega)]
    have d4 : decide (1 ≤ c) = false := decide_eq_false q4
    clear q4
    go_enter Try.func49, Try.ntmps49
    go_wp2_with fail
    go_ret
    exact ⟨by first | rfl | simp, B0.out⟩
  by_cases q5 : c ≤ 100000
  case neg =>
    rw [okX_not (by omega)]
    have d5 : decide (c ≤ 100000) = false := decide_eq_false q5
    clear q5
    go_enter Try.func49, Try.ntmps49
    go_wp2_with fail
    go_ret
    exact ⟨by first | rfl | simp, B0.out⟩
  rw [okX_iff.2 ⟨⟨q0, q1⟩, ⟨q2, q3⟩, q4, q5⟩]
  have d5 : decide (c ≤ 100000) = true := decide_eq_true q5
  go_enter Try.func49, Try.ntmps49
  go_wp2_with fail
  go_ret
  exact ⟨by first | rfl | simp, B0.out⟩

set_option maxRecDepth 100000 in
set_option maxHeartbeats 2000000 in
theorem specRules_any (a b c : Int) (w : World) : Calls Try.prog 53 #[.agg #[.int .i64 a, .int .i64 b, .int .i64 c]] w (BoolP w (okX a b c)) := by
  have B0 := Lib.hid (below_one w (.cells #[.int .i64 a, .int .i64 b, .int .i64 c] 26))
  by_cases q0 : 1 ≤ a ∧ a ≤ 200000
  case neg =>
    rw [okX_not (by omega)]
    have I0 := Lib.hid (fun W => l1In_no a 1 200000 W (by omega))
    clear q0
    go_enter Try.func53, Try.ntmps53
    go_wp2_with fail
    refine (I0.out _).mono ?_
    rintro e w1 ⟨rfl, rfl⟩
    go_wp2_with fail
    go_ret
    exact ⟨by first | rfl | simp, B0.out⟩
  have I0 := Lib.hid (fun W => l1In_yes a 1 200000 W q0.1 q0.2)
  by_cases q1 : 0 ≤ b ∧ b ≤ 100
  case neg =>
    rw [okX_not (by omega)]
    have I1 := Lib.hid (fun W => l1In_no b 0 100 W (by omega))
    clear q1
    go_enter Try.func53, Try.ntmps53
    go_wp2_with fail
    refine (I0.out _).mono ?_
    rintro e w1 ⟨rfl, rfl⟩
    go_wp2_with fail
    refine (I1.out _).mono ?_
    rintro e w1 ⟨rfl, rfl⟩
    go_wp2_with fail
    go_ret
    exact ⟨by first | rfl | simp, B0.out⟩
  have I1 := Lib.hid (fun W => l1In_yes b 0 100 W q1.1 q1.2)
  by_cases q2 : 1 ≤ c ∧ c ≤ 100000
  case neg =>
    rw [okX_not (by omega)]
    have I2 := Lib.hid (fun W => l1In_no c 1 100000 W (by omega))
    clear q2
    go_enter Try.func53, Try.ntmps53
    go_wp2_with fail
    refine (I0.out _).mono ?_
    rintro e w1 ⟨rfl, rfl⟩
    go_wp2_with fail
    refine (I1.out _).mono ?_
    rintro e w1 ⟨rfl, rfl⟩
    go_wp2_with fail
    refine (I2.out _).mono ?_
    rintro e w1 ⟨rfl, rfl⟩
    go_wp2_with fail
    go_ret
    exact ⟨by first | rfl | simp, B0.out⟩
  have I2 := Lib.hid (fun W => l1In_yes c 1 100000 W q2.1 q2.2)
  rw [okX_iff.2 ⟨q0, q1, q2⟩]
  clear q0 q1 q2
  go_enter Try.func53, Try.ntmps53
  go_wp2_with fail
  refine (I0.out _).mono ?_
  rintro e w1 ⟨rfl, rfl⟩
  go_wp2_with fail
  refine (I1.out _).mono ?_
  rintro e w1 ⟨rfl, rfl⟩
  go_wp2_with fail
  refine (I2.out _).mono ?_
  rintro e w1 ⟨rfl, rfl⟩
  go_wp2_with fail
  go_ret
  exact ⟨by first | rfl | simp, B0.out⟩
end Go.Proofs.Ytalobfpmmembiaa
