/-
  Sums of weights, a column's weight, in the program and in the reference. No statement of the seat by itself.
-/
import Derived.Test.YtalobfpmmembiaaMLa
import Derived.Test.YtalobfpmmembiaaZNum
import Derived.Test.YtalobfpmmembiaaRet
import Derived.Test.YtalobfpmmembiaaHeights
namespace Go.Proofs.Ytalobfpmmembiaa
open Go.RowKit

theorem isW_any (n : Int) (w : World) : Calls Try.prog 83 #[.int .i64 n] w fun e w' => e = .returned (.bool (okW n)) ∧ Below w.heap.size w w' := by
  by_cases h1 : 1 ≤ n
  · by_cases h2 : n ≤ 32000
    · rw [show okW n = true by simp [okW]; omega]
      go_enter Try.func83, Try.ntmps83
      go_wp2
      go_ret
      exact ⟨by simp, Below.refl _ _⟩
    · rw [show okW n = false by simp [okW]; omega]
      have h3 : decide (n ≤ 32000) = false := by simp; omega
      clear h2
      go_enter Try.func83, Try.ntmps83
      go_wp2
      go_ret
      exact ⟨by simp, Below.refl _ _⟩
  · rw [show okW n = false by simp [okW]; omega]
    have h2 : decide (1 ≤ n) = false := by simp; omega
    clear h1
    go_enter Try.func83, Try.ntmps83
    go_wp2
    go_ret
    exact ⟨by simp, Below.refl _ _⟩
theorem enters_isW : Enters Try.prog 83 := enters_of Try.func83 (by kernel_rfl) rfl

set_option maxRecDepth 100000 in
set_option maxHeartbeats 2000000 in
theorem areWeights_any (v : Value) (l : List Int) (m : Nat) (_hn : l.length ≤ 2000000) (hm : m ≤ 1000) (w : World) (h : IL w v l) :
    Calls Try.prog 55 #[v, .int .i64 (m : Int)] w (BoolP w (goodW l m)) := by
  by_cases hlm : l.length ≤ m
  case neg =>
    rw [goodW_long (by omega)]
    obtain ⟨a, c, rfl⟩ := h.form
    have hd : decide ((l.length : Int) ≤ (m : Int)) = false := by simp; omega
    clear h
    generalize l.length = n at *
    go_enter Try.func55, Try.ntmps55
    go_wp2_with fail
    go_ret
    exact ⟨rfl, Below.refl _ _⟩
  have H := Lib.hid (areAll_any _ #[] enters_isW v l (wAt l) (by omega) w h fun i x W hx _ => by rw [wAt_get hx]; exact isW_any x W)
  have HL := Lib.hid (numsW_len (wAt l) l.length)
  rw [goodW_nums hlm]
  obtain ⟨a, c, rfl⟩ := h.form
  have hd : decide ((l.length : Int) ≤ (m : Int)) = true := by simp; omega
  clear h
  generalize numsW (wAt l) l.length = S at *
  generalize l.length = n at *
  go_enter Try.func55, Try.ntmps55
  go_wp2_with fail
  refine H.out.mono ?_
  rintro e w1 ⟨rfl, hb⟩
  have HB := Lib.hid hb
  clear hb
  go_wp2_with fail
  go_ret
  exact ⟨rfl, HB.out⟩

set_option maxHeartbeats 1000000 in
theorem implValidC_any (v : Value) (l : List Int) (hn : l.length ≤ 2000000) (w : World) (h : IL w v l) :
    Calls Try.prog 19 #[v] w (BoolP w (goodW l 4)) := by
  have H := Lib.hid (areWeights_any v l 4 hn (by decide) w h)
  clear h
  go_enter Try.func19, Try.ntmps19
  go_wp2_with fail
  refine H.out.mono ?_
  rintro e w1 ⟨rfl, hb⟩
  have HB := Lib.hid hb
  clear hb
  go_wp2_with fail
  go_ret
  exact ⟨rfl, HB.out⟩

set_option maxRecDepth 100000 in
set_option maxHeartbeats 2000000 in
theorem l12Weights_any (v : Value) (l : List Int) (m : Nat) (hn : l.length ≤ 1048576) (_hm : m ≤ 1000) (w : World) (h : IL w v l) :
    Calls Try.prog 72 #[v, .int .i64 (m : Int)] w (BoolP w (goodW l m)) := by
  obtain ⟨a, cap, rfl, hc⟩ := h
  obtain ⟨n, hl⟩ : ∃ n, l.length = n := ⟨_, rfl⟩
  have HN := Lib.hid hl
  have HC := Lib.hid hc
  rw [hl] at hn ⊢
  clear hc hl
  go_enter Try.func72, Try.ntmps72
  go_wp2_with fail
  go_loop [5] (fun i => ∃ k : Nat, k ≤ n ∧ i = .int .i64 k ∧ Hid (∀ (j : Nat) (y : Int), j < k → l[j]? = some y → 1 ≤ y ∧ y ≤ 32000)) (fun i => n - (intOf i).toNat)
  case atStart => exact ⟨0, Nat.zero_le _, rfl, Lib.hid fun j y hj => by omega⟩
  case round =>
    obtain ⟨k, hk, rfl, HK⟩ := hrel
    by_cases hlt : k < n
    · obtain ⟨g, off, rfl, hg, hcc⟩ := HC.out (by have := HN.out; omega)
      obtain ⟨y, hy⟩ := get_at HN.out hlt
      have o1 := hcc k y hy
      clear hcc
      by_cases hr : 1 ≤ y ∧ y ≤ 32000
      · have HY := Lib.hid (fun W => l1In_yes y 1 32000 W hr.1 hr.2)
        have HK2 : Hid (∀ (j : Nat) (z : Int), j < k + 1 → l[j]? = some z → 1 ≤ z ∧ z ≤ 32000) := Lib.hid fun j z hj hz => by
          by_cases e : j = k
          · subst e; rw [hy] at hz; cases hz; exact hr
          · exact HK.out j z (by omega) hz
        clear hr hy
        go_wp2_with fail
        refine (HY.out _).mono ?_
        rintro e w1 ⟨rfl, rfl⟩
        go_wp2_with fail
        go_round
        case rel => exact ⟨k + 1, by omega, by go_num, HK2⟩
        case measure => simp [intOf]; omega
      · have HY := Lib.hid (fun W => l1In_no y 1 32000 W (by omega))
        have HF : Hid (goodW l m = false) := Lib.hid (goodW_at hy hr)
        clear hr hy
        go_wp2_with fail
        refine (HY.out _).mono ?_
        rintro e w1 ⟨rfl, rfl⟩
        go_wp2_with fail
        go_ret
        exact ⟨by rw [HF.out]; rfl, Below.refl _ _⟩
    · obtain rfl : k = n := by omega
      have HF : Hid (goodW l m = decide (k ≤ m)) := Lib.hid (by
        by_cases hkm : k ≤ m
        · rw [decide_eq_true hkm, goodW_iff]
          exact ⟨by rw [HN.out]; exact hkm, fun x hx => by
            obtain ⟨j, hj⟩ := List.getElem?_of_mem hx
            exact HK.out j x (by have := lt_of_get hj; have := HN.out; omega) hj⟩
        · rw [decide_eq_false hkm, goodW_long (by rw [HN.out]; omega)])
      go_wp2_with fail
      go_ret
      exact ⟨by rw [HF.out]; rfl, Below.refl _ _⟩

set_option maxHeartbeats 1000000 in
theorem l12Good_any (v : Value) (l : List Int) (hn : l.length ≤ 1048576) (w : World) (h : IL w v l) :
    Calls Try.prog 52 #[v] w (BoolP w (goodW l 4)) := by
  have H := Lib.hid (l12Weights_any v l 4 hn (by decide) w h)
  clear h
  go_enter Try.func52, Try.ntmps52
  go_wp2_with fail
  refine H.out.mono ?_
  rintro e w1 ⟨rfl, hb⟩
  have HB := Lib.hid hb
  clear hb
  go_wp2_with fail
  go_ret
  exact ⟨rfl, HB.out⟩
set_option maxHeartbeats 1000000 in
theorem specValidC_any (v : Value) (l : List Int) (hn : l.length ≤ 1048576) (w : World) (h : IL w v l) :
    Calls Try.prog 38 #[v] w (BoolP w (goodW l 4)) := by
  have H := Lib.hid (l12Good_any v l hn w h)
  clear h
  go_enter Try.func38, Try.ntmps38
  go_wp2_with fail
  refine H.out.mono ?_
  rintro e w1 ⟨rfl, hb⟩
  have HB := Lib.hid hb
  clear hb
  go_wp2_with fail
  go_ret
  exact ⟨rfl, HB.out⟩

set_option maxRecDepth 100000 in
set_option maxHeartbeats 2000000 in
theorem implRules_any (a b c : Int) (w : World) : Calls Try.prog 49 #[.agg #[.int .i64 a, .int .i64 b, .int .i64 c]] w (BoolP w (okX a b c)) := by
  have B0 := Lib.hid (below_one w (.cells #[.int .i64 a, .int .i64 b, .int .i64 c] 26))
  by_cases q0 : 1 ≤ a
  case neg =>
    rw [okX_not (by omega)]
    have d0 : decide (1 ≤ a) = false := decide_eq_false q0
    clear q0
    go_enter Try.func49, Try.ntmps49
    go_wp2_with fail
    go_ret
    exact ⟨by first | rfl | simp, B0.out⟩
  by_cases q1 : a ≤ 200000
  case neg =>
    rw [okX_not (by omega)]
    have d1 : decide (a ≤ 200000) = false := decide_eq_false q1
    clear q1
    go_enter Try.func49, Try.ntmps49
    go_wp2_with fail
    go_ret
    exact ⟨by first | rfl | simp, B0.out⟩
  by_cases q2 : 0 ≤ b
  case neg =>
    rw [okX_not (by omega)]
    have d2 : decide (0 ≤ b) = false := decide_eq_false q2
    clear q2
    go_enter Try.func49, Try.ntmps49
    go_wp2_with fail
    go_ret
    exact ⟨by first | rfl | simp, B0.out⟩
  by_cases q3 : b ≤ 100
  case neg =>
    rw [okX_not (by omega)]
    have d3 : decide (b ≤ 100) = false := decide_eq_false q3
    clear q3
    go_enter Try.func49, Try.ntmps49
    go_wp2_with fail
    go_ret
    exact ⟨by first | rfl | simp, B0.out⟩
  by_cases q4 : 1 ≤ c
  case neg =>
    rw [okX_not (by omega)]
    have d4 : decide (1 ≤ c) = false := decide_eq_false q4
    clear q4
    go_enter Try.func49, Try.ntmps49
    go_wp2_with fail
    go_ret
    exact ⟨by first | rfl | simp, B0.out⟩
  by_cases q5 : c ≤ 100000
  case neg =>
    rw [okX_not (by omega)]
    have d5 : decide (c ≤ 100000) = false := decide_eq_false q5
    clear q5
    go_enter Try.func49, Try.ntmps49
    go_wp2_with fail
    go_ret
    exact ⟨by first | rfl | simp, B0.out⟩
  rw [okX_iff.2 ⟨⟨q0, q1⟩, ⟨q2, q3⟩, q4, q5⟩]
  have d5 : decide (c ≤ 100000) = true := decide_eq_true q5
  go_enter Try.func49, Try.ntmps49
  go_wp2_with fail
  go_ret
  exact ⟨by first | rfl | simp, B0.out⟩

set_option maxRecDepth 100000 in
set_option maxHeartbeats 2000000 in
theorem specRules_any (a b c : Int) (w : World) : Calls Try.prog 53 #[.agg #[.int .i64 a, .int .i64 b, .int .i64 c]] w (BoolP w (okX a b c)) := by
  have B0 := Lib.hid (below_one w (.cells #[.int .i64 a, .int .i64 b, .int .i64 c] 26))
  by_cases q0 : 1 ≤ a ∧ a ≤ 200000
  case neg =>
    rw [okX_not (by omega)]
    have I0 := Lib.hid (fun W => l1In_no a 1 200000 W (by omega))
    clear q0
    go_enter Try.func53, Try.ntmps53
    go_wp2_with fail
    refine (I0.out _).mono ?_
    rintro e w1 ⟨rfl, rfl⟩
    go_wp2_with fail
    go_ret
    exact ⟨by first | rfl | simp, B0.out⟩
  have I0 := Lib.hid (fun W => l1In_yes a 1 200000 W q0.1 q0.2)
  by_cases q1 : 0 ≤ b ∧ b ≤ 100
  case neg =>
    rw [okX_not (by omega)]
    have I1 := Lib.hid (fun W => l1In_no b 0 100 W (by omega))
    clear q1
    go_enter Try.func53, Try.ntmps53
    go_wp2_with fail
    refine (I0.out _).mono ?_
    rintro e w1 ⟨rfl, rfl⟩
    go_wp2_with fail
    refine (I1.out _).mono ?_
    rintro e w1 ⟨rfl, rfl⟩
    go_wp2_with fail
    go_ret
    exact ⟨by first | rfl | simp, B0.out⟩
  have I1 := Lib.hid (fun W => l1In_yes b 0 100 W q1.1 q1.2)
  by_cases q2 : 1 ≤ c ∧ c ≤ 100000
  case neg =>
    rw [okX_not (by omega)]
    have I2 := Lib.hid (fun W => l1In_no c 1 100000 W (by omega))
    clear q2
    go_enter Try.func53, Try.ntmps53
    go_wp2_with fail
    refine (I0.out _).mono ?_
    rintro e w1 ⟨rfl, rfl⟩
    go_wp2_with fail
    refine (I1.out _).mono ?_
    rintro e w1 ⟨rfl, rfl⟩
    go_wp2_with fail
    refine (I2.out _).mono ?_
    rintro e w1 ⟨rfl, rfl⟩
    go_wp2_with fail
    go_ret
    exact ⟨by first | rfl | simp, B0.out⟩
  have I2 := Lib.hid (fun W => l1In_yes c 1 100000 W q2.1 q2.2)
  rw [okX_iff.2 ⟨q0, q1, q2⟩]
  clear q0 q1 q2
  go_enter Try.func53, Try.ntmps53
  go_wp2_with fail
  refine (I0.out _).mono ?_
  rintro e w1 ⟨rfl, rfl⟩
  go_wp2_with fail
  refine (I1.out _).mono ?_
  rintro e w1 ⟨rfl, rfl⟩
  go_wp2_with fail
  refine (I2.out _).mono ?_
  rintro e w1 ⟨rfl, rfl⟩
  go_wp2_with fail
  go_ret
  exact ⟨by first | rfl | simp, B0.out⟩

theorem enters_id : Enters Try.prog 81 := enters_of Try.func81 (by kernel_rfl) rfl
theorem id_any (x : Int) (w : World) : Calls Try.prog 81 #[.int .i64 x] w fun e w' => e = .returned (.int .i64 x) ∧ w = w' := by
  go_enter Try.func81, Try.ntmps81
  go_wp2_with fail
  go_ret
  exact ⟨rfl, rfl⟩
theorem mem_get {l : List Int} {k : Nat} {x : Int} (h : l[k]? = some x) : x ∈ l := List.mem_of_getElem? h
theorem sum_take_small {l : List Int} (hl : l.length ≤ 8) (hb : ∀ x ∈ l, 0 ≤ x ∧ x ≤ 1000000000) (k : Nat) : 0 ≤ (l.take k).sum ∧ (l.take k).sum ≤ 8000000000 := by
  have := sum_small 1000000000 8 (l.take k) (by simp; omega) (by decide) (fun x hx => hb x (List.mem_of_mem_take hx))
  omega

set_option maxRecDepth 100000 in
set_option maxHeartbeats 4000000 in
theorem sumI_any (v : Value) (l : List Int) (hl : l.length ≤ 8) (hb : ∀ x ∈ l, 0 ≤ x ∧ x ≤ 1000000000) (w : World) (h : IL w v l) :
    Calls Try.prog 80 #[v, .func (.func 81) #[] #[]] w fun e w' => e = .returned (.int .i64 l.sum) ∧ w = w' := by
  obtain ⟨n, hn⟩ : ∃ n, l.length = n := ⟨_, rfl⟩
  have HN := Lib.hid hn
  have HM := Lib.hid hb
  obtain ⟨a, c, rfl, hc⟩ := h
  have HC := Lib.hid hc
  have HT := Lib.hid (sum_take_small hl hb)
  have hE := enters_id
  rw [hn] at hl ⊢
  clear hc hn hb
  go_enter Try.func80, Try.ntmps80
  go_wp2_with fail
  go_loop [5, 10] (fun s i => ∃ (k : Nat) (t : Int), k ≤ n ∧ i = .int .i64 k ∧ s = .int .i64 t ∧ Hid (t = (l.take k).sum)) (fun _ i => n - (intOf i).toNat)
  case atStart => exact ⟨0, 0, Nat.zero_le _, rfl, rfl, Lib.hid rfl⟩
  case round =>
    obtain ⟨k, t, hk, rfl, rfl, HS⟩ := hrel
    by_cases hlt : k < n
    · obtain ⟨g, off, rfl, hg, hcc⟩ := HC.out (by have := HN.out; omega)
      obtain ⟨x, hx⟩ := get_at HN.out hlt
      have o1 := hcc k x hx
      have HE := Lib.hid (id_any x)
      have HK2 := Lib.hid (sum_take hx)
      obtain ⟨m1, m2⟩ := HM.out x (mem_get hx)
      obtain ⟨q1, q2⟩ := HT.out k
      rw [← HS.out] at q1 q2
      clear hcc hx
      go_wp2_with fail
      refine (HE.out _).mono ?_
      rintro e w1 ⟨rfl, rfl⟩
      go_wp2_with fail
      go_round
      case rel => exact ⟨k + 1, t + x, by omega, by go_num, by go_num, Lib.hid (by rw [HK2.out, HS.out])⟩
      case measure => simp [intOf]; omega
    · obtain rfl : k = n := by omega
      go_wp2_with fail
      go_ret
      exact ⟨ret_i (by rw [HS.out, List.take_of_length_le (by have := HN.out; omega)]), rfl⟩

set_option maxHeartbeats 1000000 in
theorem totalOf_any (v : Value) (l : List Int) (hl : l.length ≤ 8) (hb : ∀ x ∈ l, 0 ≤ x ∧ x ≤ 1000000000) (w : World) (h : IL w v l) :
    Calls Try.prog 51 #[v] w fun e w' => e = .returned (.int .i64 l.sum) ∧ w = w' := by
  have H := Lib.hid (sumI_any v l hl hb w h)
  clear h hb
  generalize l.sum = s at *
  go_enter Try.func51, Try.ntmps51
  go_wp2_with fail
  refine H.out.mono ?_
  rintro e w1 ⟨rfl, rfl⟩
  go_wp2_with fail
  go_ret
  exact ⟨rfl, rfl⟩

set_option maxRecDepth 100000 in
set_option maxHeartbeats 2000000 in
theorem l12Sum_any (v : Value) (l : List Int) (j : Nat) (hl : l.length ≤ 8) (hj : j ≤ l.length) (hb : ∀ x ∈ l, 0 ≤ x ∧ x ≤ 1000000000) (w : World) (h : IL w v l) :
    Calls Try.prog 63 #[v, .int .i64 (j : Int)] w fun e w' => e = .returned (.int .i64 (l.drop j).sum) ∧ w = w' := by
  obtain ⟨n, hn⟩ : ∃ n, l.length = n := ⟨_, rfl⟩
  have HN := Lib.hid hn
  have HM := Lib.hid hb
  obtain ⟨a, c, rfl, hc⟩ := h
  have HC := Lib.hid hc
  have HT := Lib.hid (sum_take_small hl hb)
  have HD : Hid ((l.drop j).sum = l.sum - (l.take j).sum) := Lib.hid drop_sum
  rw [hn] at hl hj ⊢
  clear hc hn hb
  go_enter Try.func63, Try.ntmps63
  go_wp2_with fail
  go_loop [5, 6] (fun s i => ∃ (k : Nat) (t : Int), j ≤ k ∧ k ≤ n ∧ i = .int .i64 k ∧ s = .int .i64 t ∧ Hid (t = (l.take k).sum - (l.take j).sum) ∧ Hid (0 ≤ t)) (fun _ i => n - (intOf i).toNat)
  case atStart => exact ⟨j, 0, Nat.le_refl _, hj, rfl, rfl, Lib.hid (by omega), Lib.hid (by omega)⟩
  case round =>
    obtain ⟨k, t, hjk, hk, rfl, rfl, HS, HP⟩ := hrel
    by_cases hlt : k < n
    · obtain ⟨g, off, rfl, hg, hcc⟩ := HC.out (by have := HN.out; omega)
      obtain ⟨x, hx⟩ := get_at HN.out hlt
      have o1 := hcc k x hx
      have HK2 := Lib.hid (sum_take hx)
      obtain ⟨m1, m2⟩ := HM.out x (mem_get hx)
      have q1 := HP.out
      have q2 : t ≤ 8000000000 := by have := HS.out; have := HT.out k; have := HT.out j; omega
      clear hcc hx
      go_wp2_with fail
      go_round
      case rel => exact ⟨k + 1, t + x, by omega, by omega, by go_num, by go_num, Lib.hid (by rw [HK2.out, HS.out]; omega), Lib.hid (by omega)⟩
      case measure => simp [intOf]; omega
    · obtain rfl : k = n := by omega
      have HE : Hid ((l.take k).sum = l.sum) := Lib.hid (by rw [List.take_of_length_le (by have := HN.out; omega)])
      go_wp2_with fail
      go_ret
      exact ⟨ret_i (by rw [HS.out, HD.out, HE.out]), rfl⟩

set_option maxHeartbeats 1000000 in
theorem quot_any (a b : Int) (h0 : 0 ≤ a) (h1 : a ≤ 1000000000) (h2 : 1 ≤ b) (h3 : b ≤ 1000000) (w : World) :
    Calls Try.prog 56 #[.int .i64 a, .int .i64 b] w fun e w' => e = .returned (.int .i64 ((a + b - 1) / b)) ∧ w = w' := by
  have hq : (a + b - 1).tdiv b = (a + b - 1) / b := Int.tdiv_eq_ediv_of_nonneg (by omega)
  have hb0 : ¬ b = 0 := by omega
  have hb1 : ¬ b = -1 := by omega
  have hr0 : 0 ≤ (a + b - 1) / b := Int.ediv_nonneg (by omega) (by omega)
  have hr1 : (a + b - 1) / b ≤ a + b - 1 := Int.ediv_le_self _ (by omega)
  obtain ⟨q, hqq⟩ : ∃ q, (a + b - 1) / b = q := ⟨_, rfl⟩
  rw [hqq] at hq hr0 hr1 ⊢
  clear hqq
  go_enter Try.func56, Try.ntmps56
  go_wp2_with fail
  go_ret
  exact ⟨rfl, rfl⟩
theorem goodW_small {l : List Int} {m : Nat} (h : goodW l m = true) : ∀ x ∈ l, 0 ≤ x ∧ x ≤ 1000000000 := fun x hx => by have := (goodW_iff.1 h).2 x hx; omega
theorem goodW_sum {l : List Int} {m : Nat} (h : goodW l m = true) (hm : m ≤ 8) (k : Nat) : 0 ≤ (l.drop k).sum ∧ (l.drop k).sum ≤ 256000 := by
  obtain ⟨h1, h2⟩ := goodW_iff.1 h
  have := sum_small 32000 8 (l.drop k) (by simp; omega) (by decide) (fun x hx => by have := h2 x (List.mem_of_mem_drop hx); omega)
  omega

/-- A sum, whether it is small enough, and whether it worked. -/
def RetW (w : World) (s : Int) (b ok : Bool) : Ending → World → Prop := RetP w (.tuple #[.int .i64 s, .bool b, .bool ok])

set_option maxRecDepth 100000 in
set_option maxHeartbeats 4000000 in
theorem implCw_any (v : Value) (l : List Int) (a b c : Int) (hn : l.length ≤ 2000000) (w : World) (h : IL w v l) :
    Calls Try.prog 37 #[v, .agg #[.int .i64 a, .int .i64 b, .int .i64 c]] w (RetW w (cwS l a b c) (cwB l a b c) (goodC l a b c)) := by
  have B0 := Lib.hid (below_one w (.cells #[.int .i64 a, .int .i64 b, .int .i64 c] 26))
  have HG := Lib.hid (implValidC_any v l hn _ (h.below B0.out))
  have c0 : (w.alloc (.cells #[.int .i64 a, .int .i64 b, .int .i64 c] 26)).cell? ⟨w.heap.size, 0, none⟩ = some (.int .i64 a) := by simp
  have c1 : (w.alloc (.cells #[.int .i64 a, .int .i64 b, .int .i64 c] 26)).cell? ⟨w.heap.size, 1, none⟩ = some (.int .i64 b) := by simp
  have c2 : (w.alloc (.cells #[.int .i64 a, .int .i64 b, .int .i64 c] 26)).cell? ⟨w.heap.size, 2, none⟩ = some (.int .i64 c) := by simp
  have C0 := Lib.hid c0
  have C1 := Lib.hid c1
  have C2 := Lib.hid c2
  have ZA : Hid (w.heap.size < (w.alloc (.cells #[.int .i64 a, .int .i64 b, .int .i64 c] 26)).heap.size) := Lib.hid (by simp)
  have HV := Lib.hid (h.below B0.out)
  obtain ⟨p, cap, rfl⟩ := h.form
  clear h
  cases hg : goodW l 4 with
  | false =>
    rw [hg] at HG
    rw [show goodC l a b c = false by simp [goodC, hg], show cwS l a b c = 0 by simp [cwS, goodC, hg], show cwB l a b c = false by simp [cwB, goodC, hg]]
    clear hg
    go_enter Try.func37, Try.ntmps37
    go_wp2_with fail
    refine HG.out.mono ?_
    rintro e w1 ⟨rfl, hb⟩
    have HB := Lib.hid (B0.out.trans (hb.mono B0.out.size))
    clear hb c0 c1 c2
    go_wp2_with fail
    refine bodyPost_ret (v := .tuple #[.int .i64 0, .bool false, .bool false]) (by simp [results, Try.results37, go_sem]) rfl ⟨rfl, HB.out⟩
  | true =>
    rw [hg] at HG
    have HR := Lib.hid (implRules_any a b c)
    cases hx : okX a b c with
    | false =>
      rw [hx] at HR
      rw [show goodC l a b c = false by simp [goodC, hx], show cwS l a b c = 0 by simp [cwS, goodC, hx], show cwB l a b c = false by simp [cwB, goodC, hx]]
      clear hg hx
      go_enter Try.func37, Try.ntmps37
      go_wp2_with fail
      refine HG.out.mono ?_
      rintro e w1 ⟨rfl, hb⟩
      clear c0 c1 c2
      have c0 := (hb.cell (p := ⟨w.heap.size, 0, none⟩) ZA.out).trans C0.out
      have c1 := (hb.cell (p := ⟨w.heap.size, 1, none⟩) ZA.out).trans C1.out
      have c2 := (hb.cell (p := ⟨w.heap.size, 2, none⟩) ZA.out).trans C2.out
      have HB := Lib.hid (B0.out.trans (hb.mono B0.out.size))
      clear hb
      go_wp2_with fail
      refine (HR.out _).mono ?_
      rintro e w2 ⟨rfl, hb⟩
      have HB2 := Lib.hid (HB.out.trans (hb.mono HB.out.size))
      clear hb c0 c1 c2
      go_wp2_with fail
      refine bodyPost_ret (v := .tuple #[.int .i64 0, .bool false, .bool false]) (by simp [results, Try.results37, go_sem]) rfl ⟨rfl, HB2.out⟩
    | true =>
      rw [hx] at HR
      rw [show goodC l a b c = true by simp [goodC, hg, hx], show cwS l a b c = l.sum by simp [cwS, goodC, hg, hx], show cwB l a b c = decide (l.sum ≤ a) by simp [cwB, goodC, hg, hx]]
      have HT := Lib.hid (fun W hW => totalOf_any (.slice p l.length cap) l (by have := goodW_len hg; omega) (goodW_small hg) W hW)
      clear hg hx
      generalize l.sum = s at *
      go_enter Try.func37, Try.ntmps37
      go_wp2_with fail
      refine HG.out.mono ?_
      rintro e w1 ⟨rfl, hb⟩
      clear c0 c1 c2
      have c0 := (hb.cell (p := ⟨w.heap.size, 0, none⟩) ZA.out).trans C0.out
      have c1 := (hb.cell (p := ⟨w.heap.size, 1, none⟩) ZA.out).trans C1.out
      have c2 := (hb.cell (p := ⟨w.heap.size, 2, none⟩) ZA.out).trans C2.out
      have D0 := Lib.hid c0
      have Z1 := Lib.hid (Nat.lt_of_lt_of_le ZA.out hb.size)
      have HB := Lib.hid (B0.out.trans (hb.mono B0.out.size))
      have HV1 := Lib.hid (HV.out.below hb)
      clear hb
      go_wp2_with fail
      refine (HR.out _).mono ?_
      rintro e w2 ⟨rfl, hb⟩
      clear c0 c1 c2
      have c0 := (hb.cell (p := ⟨w.heap.size, 0, none⟩) Z1.out).trans D0.out
      have HB2 := Lib.hid (HB.out.trans (hb.mono HB.out.size))
      have HV2 := Lib.hid (HV1.out.below hb)
      clear hb
      go_wp2_with fail
      refine (HT.out _ HV2.out).mono ?_
      rintro e w3 ⟨rfl, rfl⟩
      go_wp2_with fail
      go_quiet (fail)
      have HB3 := Lib.hid (below_drewN HB2.out nq)
      go_wp2_with fail
      refine bodyPost_ret (v := .tuple #[.int .i64 s, .bool (decide (s ≤ a)), .bool true]) (by simp [results, Try.results37, go_sem]) rfl ⟨rfl, HB3.out⟩

set_option maxRecDepth 100000 in
set_option maxHeartbeats 4000000 in
theorem specCw_any (v : Value) (l : List Int) (a b c : Int) (hn : l.length ≤ 1048576) (w : World) (h : IL w v l) :
    Calls Try.prog 41 #[v, .agg #[.int .i64 a, .int .i64 b, .int .i64 c]] w (RetW w (cwS l a b c) (cwB l a b c) (goodC l a b c)) := by
  have B0 := Lib.hid (below_one w (.cells #[.int .i64 a, .int .i64 b, .int .i64 c] 26))
  have HG := Lib.hid (l12Good_any v l hn _ (h.below B0.out))
  have c0 : (w.alloc (.cells #[.int .i64 a, .int .i64 b, .int .i64 c] 26)).cell? ⟨w.heap.size, 0, none⟩ = some (.int .i64 a) := by simp
  have c1 : (w.alloc (.cells #[.int .i64 a, .int .i64 b, .int .i64 c] 26)).cell? ⟨w.heap.size, 1, none⟩ = some (.int .i64 b) := by simp
  have c2 : (w.alloc (.cells #[.int .i64 a, .int .i64 b, .int .i64 c] 26)).cell? ⟨w.heap.size, 2, none⟩ = some (.int .i64 c) := by simp
  have C0 := Lib.hid c0
  have C1 := Lib.hid c1
  have C2 := Lib.hid c2
  have ZA : Hid (w.heap.size < (w.alloc (.cells #[.int .i64 a, .int .i64 b, .int .i64 c] 26)).heap.size) := Lib.hid (by simp)
  have HV := Lib.hid (h.below B0.out)
  obtain ⟨p, cap, rfl⟩ := h.form
  clear h
  cases hg : goodW l 4 with
  | false =>
    rw [hg] at HG
    rw [show goodC l a b c = false by simp [goodC, hg], show cwS l a b c = 0 by simp [cwS, goodC, hg], show cwB l a b c = false by simp [cwB, goodC, hg]]
    clear hg
    go_enter Try.func41, Try.ntmps41
    go_wp2_with fail
    refine HG.out.mono ?_
    rintro e w1 ⟨rfl, hb⟩
    have HB := Lib.hid (B0.out.trans (hb.mono B0.out.size))
    clear hb c0 c1 c2
    go_wp2_with fail
    refine bodyPost_ret (v := .tuple #[.int .i64 0, .bool false, .bool false]) (by simp [results, Try.results41, go_sem]) rfl ⟨rfl, HB.out⟩
  | true =>
    rw [hg] at HG
    have HR := Lib.hid (specRules_any a b c)
    cases hx : okX a b c with
    | false =>
      rw [hx] at HR
      rw [show goodC l a b c = false by simp [goodC, hx], show cwS l a b c = 0 by simp [cwS, goodC, hx], show cwB l a b c = false by simp [cwB, goodC, hx]]
      clear hg hx
      go_enter Try.func41, Try.ntmps41
      go_wp2_with fail
      refine HG.out.mono ?_
      rintro e w1 ⟨rfl, hb⟩
      clear c0 c1 c2
      have c0 := (hb.cell (p := ⟨w.heap.size, 0, none⟩) ZA.out).trans C0.out
      have c1 := (hb.cell (p := ⟨w.heap.size, 1, none⟩) ZA.out).trans C1.out
      have c2 := (hb.cell (p := ⟨w.heap.size, 2, none⟩) ZA.out).trans C2.out
      have HB := Lib.hid (B0.out.trans (hb.mono B0.out.size))
      clear hb
      go_wp2_with fail
      refine (HR.out _).mono ?_
      rintro e w2 ⟨rfl, hb⟩
      have HB2 := Lib.hid (HB.out.trans (hb.mono HB.out.size))
      clear hb c0 c1 c2
      go_wp2_with fail
      refine bodyPost_ret (v := .tuple #[.int .i64 0, .bool false, .bool false]) (by simp [results, Try.results41, go_sem]) rfl ⟨rfl, HB2.out⟩
    | true =>
      rw [hx] at HR
      rw [show goodC l a b c = true by simp [goodC, hg, hx], show cwS l a b c = l.sum by simp [cwS, goodC, hg, hx], show cwB l a b c = decide (l.sum ≤ a) by simp [cwB, goodC, hg, hx]]
      have HT := Lib.hid (fun W hW => l12Sum_any (.slice p l.length cap) l 0 (by have := goodW_len hg; omega) (Nat.zero_le _) (goodW_small hg) W hW)
      rw [List.drop_zero] at HT
      clear hg hx
      generalize l.sum = s at *
      go_enter Try.func41, Try.ntmps41
      go_wp2_with fail
      refine HG.out.mono ?_
      rintro e w1 ⟨rfl, hb⟩
      clear c0 c1 c2
      have c0 := (hb.cell (p := ⟨w.heap.size, 0, none⟩) ZA.out).trans C0.out
      have c1 := (hb.cell (p := ⟨w.heap.size, 1, none⟩) ZA.out).trans C1.out
      have c2 := (hb.cell (p := ⟨w.heap.size, 2, none⟩) ZA.out).trans C2.out
      have D0 := Lib.hid c0
      have Z1 := Lib.hid (Nat.lt_of_lt_of_le ZA.out hb.size)
      have HB := Lib.hid (B0.out.trans (hb.mono B0.out.size))
      have HV1 := Lib.hid (HV.out.below hb)
      clear hb
      go_wp2_with fail
      refine (HR.out _).mono ?_
      rintro e w2 ⟨rfl, hb⟩
      clear c0 c1 c2
      have c0 := (hb.cell (p := ⟨w.heap.size, 0, none⟩) Z1.out).trans D0.out
      have HB2 := Lib.hid (HB.out.trans (hb.mono HB.out.size))
      have HV2 := Lib.hid (HV1.out.below hb)
      clear hb
      go_wp2_with fail
      refine (HT.out _ HV2.out).mono ?_
      rintro e w3 ⟨rfl, rfl⟩
      go_wp2_with fail
      go_quiet (fail)
      have HB3 := Lib.hid (below_drewN HB2.out nq)
      go_wp2_with fail
      refine bodyPost_ret (v := .tuple #[.int .i64 s, .bool (decide (s ≤ a)), .bool true]) (by simp [results, Try.results41, go_sem]) rfl ⟨rfl, HB3.out⟩
end Go.Proofs.Ytalobfpmmembiaa
