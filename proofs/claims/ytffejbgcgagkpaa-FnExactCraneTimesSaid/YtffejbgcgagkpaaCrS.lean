/-
  Sums and the greatest of work, what DivisionBound answers, in the program and in the reference. No statement of the seat by itself.
-/
import Derived.Test.YtffejbgcgagkpaaCrG
namespace Go.Proofs.Ytffejbgcgagkpaa
open Go.RowKit

theorem flipC {f : Nat} {args : Array Value} {w : World} {r : Ending} (h : Calls Try.prog f args w fun e w' => e = r ∧ w = w') : Calls Try.prog f args w fun e w' => e = r ∧ w' = w := h.mono fun _ _ ⟨a, b⟩ => ⟨a, b.symm⟩
theorem below3 {w W w' : World} (g : Below W.heap.size W w') (h : Below w.heap.size w W) : Below w.heap.size w w' := h.trans (g.mono h.size)
theorem enters_idC : Enters Try.prog 83 := enters_of Try.func83 (by kernel_rfl) rfl
theorem idC_any (x : Int) (w : World) : Calls Try.prog 83 #[.int .i64 x] w fun e w' => e = .returned (.int .i64 x) ∧ w = w' := by
  go_enter Try.func83, Try.ntmps83
  go_wp2_with fail
  go_ret
  exact ⟨rfl, rfl⟩
theorem memC_get {l : List Int} {k : Nat} {x : Int} (h : l[k]? = some x) : x ∈ l := List.mem_of_getElem? h
theorem sumC_take_small {l : List Int} (hl : l.length ≤ 1000) (hb : ∀ x ∈ l, 0 ≤ x ∧ x ≤ 1000000) (k : Nat) : 0 ≤ (l.take k).sum ∧ (l.take k).sum ≤ 1000000000 := by
  have := sumC_small 1000000 1000 (l.take k) (by simp; omega) (by decide) (fun x hx => hb x (List.mem_of_mem_take hx))
  omega

set_option maxRecDepth 100000 in
set_option maxHeartbeats 4000000 in
theorem sumT_any (v : Value) (l : List Int) (hl : l.length ≤ 1000) (hb : ∀ x ∈ l, 0 ≤ x ∧ x ≤ 1000000) (w : World) (h : IL w v l) :
    Calls Try.prog 82 #[v, .func (.func 83) #[] #[]] w fun e w' => e = .returned (.int .i64 l.sum) ∧ w = w' := by
  obtain ⟨n, hn⟩ : ∃ n, l.length = n := ⟨_, rfl⟩
  have HN := Lib.hid hn
  have HM := Lib.hid hb
  obtain ⟨a, c, rfl, hc⟩ := h
  have HC := Lib.hid hc
  have HT := Lib.hid (sumC_take_small hl hb)
  have hE := enters_idC
  rw [hn] at hl ⊢
  clear hc hn hb
  go_enter Try.func82, Try.ntmps82
  go_wp2_with fail
  go_loop [5, 10] (fun s i => ∃ (k : Nat) (t : Int), k ≤ n ∧ i = .int .i64 k ∧ s = .int .i64 t ∧ Hid (t = (l.take k).sum)) (fun _ i => n - (intOf i).toNat)
  case atStart => exact ⟨0, 0, Nat.zero_le _, rfl, rfl, Lib.hid rfl⟩
  case round =>
    obtain ⟨k, t, hk, rfl, rfl, HS⟩ := hrel
    by_cases hlt : k < n
    · obtain ⟨g, off, rfl, hg, hcc⟩ := HC.out (by have := HN.out; omega)
      obtain ⟨x, hx⟩ := get_at HN.out hlt
      have o1 := hcc k x hx
      have HE := Lib.hid (idC_any x)
      have HK2 := Lib.hid (sumC_take hx)
      obtain ⟨m1, m2⟩ := HM.out x (memC_get hx)
      obtain ⟨q1, q2⟩ := HT.out k
      rw [← HS.out] at q1 q2
      clear hcc hx
      go_wp2_with fail
      refine (HE.out _).mono ?_
      rintro e w1 ⟨rfl, rfl⟩
      go_wp2_with fail
      go_round
      case rel => exact ⟨k + 1, t + x, by omega, by go_num, by go_num, Lib.hid (by rw [HK2.out, HS.out])⟩
      case measure => simp [intOf]; omega
    · obtain rfl : k = n := by omega
      go_wp2_with fail
      go_ret
      exact ⟨ret_i (by rw [HS.out, List.take_of_length_le (by have := HN.out; omega)]), rfl⟩

set_option maxHeartbeats 1000000 in
theorem totalT_any (v : Value) (l : List Int) (hl : l.length ≤ 1000) (hb : ∀ x ∈ l, 0 ≤ x ∧ x ≤ 1000000) (w : World) (h : IL w v l) :
    Calls Try.prog 55 #[v] w fun e w' => e = .returned (.int .i64 l.sum) ∧ w = w' := by
  have H := Lib.hid (sumT_any v l hl hb w h)
  clear h hb
  generalize l.sum = s at *
  go_enter Try.func55, Try.ntmps55
  go_wp2_with fail
  refine H.out.mono ?_
  rintro e w1 ⟨rfl, rfl⟩
  go_wp2_with fail
  go_ret
  exact ⟨rfl, rfl⟩

set_option maxRecDepth 100000 in
set_option maxHeartbeats 4000000 in
theorem maxC_any (v : Value) (l : List Int) (h0 : 1 ≤ l.length) (hl : l.length ≤ 1000) (hb : ∀ x ∈ l, 0 ≤ x) (w : World) (h : IL w v l) :
    Calls Try.prog 48 #[v] w fun e w' => e = .returned (.int .i64 (mxC l)) ∧ w = w' := by
  obtain ⟨n, hn⟩ : ∃ n, l.length = n := ⟨_, rfl⟩
  have HN := Lib.hid hn
  obtain ⟨a, c, rfl, hc⟩ := h
  obtain ⟨g, off, rfl, hg, hcc⟩ := hc (by omega)
  obtain ⟨x0, hx0⟩ := get_at (Y := l) rfl (show 0 < l.length by omega)
  have HC := Lib.hid hcc
  have o0 : w.cell? ⟨g, off, none⟩ = some (.int .i64 x0) := by simpa using hcc 0 x0 hx0
  have HX : Hid (x0 = mxC (l.take 1)) := Lib.hid (by
    rw [mxC_take hx0, List.take_zero]
    have := hb x0 (memC_get hx0)
    simp only [mxC]
    omega)
  rw [hn] at hl h0 ⊢
  clear hc hn hb hcc hx0
  go_enter Try.func48, Try.ntmps48
  go_wp2_with fail
  clear o0
  go_loop [3, 4] (fun s i => ∃ (k : Nat) (t : Int), 1 ≤ k ∧ k ≤ n ∧ i = .int .i64 k ∧ s = .int .i64 t ∧ Hid (t = mxC (l.take k))) (fun _ i => n - (intOf i).toNat)
  case atStart => exact ⟨1, x0, Nat.le_refl _, h0, rfl, rfl, HX⟩
  case round =>
    obtain ⟨k, t, h1k, hk, rfl, rfl, HS⟩ := hrel
    by_cases hlt : k < n
    · obtain ⟨x, hx⟩ := get_at HN.out hlt
      have o1 := HC.out k x hx
      have HK2 : Hid (mxC (l.take (k + 1)) = max t x) := Lib.hid (by rw [mxC_take hx, HS.out])
      clear hx
      by_cases hq : x ≤ t
      · have hm : max t x = t := by omega
        have HK3 : Hid (t = mxC (l.take (k + 1))) := Lib.hid (by rw [HK2.out, hm])
        have hnl : ¬ t < x := by omega
        clear hm
        go_wp2_with fail
        go_round
        case rel => exact ⟨k + 1, t, by omega, by omega, by go_num, rfl, HK3⟩
        case measure => simp [intOf]; omega
      · have hm : max t x = x := by omega
        have HK3 : Hid (x = mxC (l.take (k + 1))) := Lib.hid (by rw [HK2.out, hm])
        have hnl : t < x := by omega
        clear hm hq
        go_wp2_with fail
        go_round
        case rel => exact ⟨k + 1, x, by omega, by omega, by go_num, rfl, HK3⟩
        case measure => simp [intOf]; omega
    · obtain rfl : k = n := by omega
      go_wp2_with fail
      go_ret
      exact ⟨ret_i (by rw [HS.out, List.take_of_length_le (by have := HN.out; omega)]), rfl⟩

set_option maxRecDepth 100000 in
set_option maxHeartbeats 1000000 in
theorem mostC_any (a b : Int) (w : World) : Calls Try.prog 68 #[.int .i64 a, .int .i64 b] w fun e w' => e = .returned (.int .i64 (max a b)) ∧ w = w' := by
  by_cases h : b < a
  · rw [show max a b = a by omega]
    go_enter Try.func68, Try.ntmps68
    go_wp2_with fail
    go_ret
    exact ⟨rfl, rfl⟩
  · rw [show max a b = b by omega]
    go_enter Try.func68, Try.ntmps68
    go_wp2_with fail
    go_ret
    exact ⟨rfl, rfl⟩

set_option maxRecDepth 100000 in
set_option maxHeartbeats 4000000 in
theorem l13Greatest_any (v : Value) (l : List Int) (hl : l.length ≤ 1000) (w : World) (h : IL w v l) :
    Calls Try.prog 69 #[v] w fun e w' => e = .returned (.int .i64 (mxC l)) ∧ w = w' := by
  obtain ⟨n, hn⟩ : ∃ n, l.length = n := ⟨_, rfl⟩
  have HN := Lib.hid hn
  obtain ⟨a, c, rfl, hc⟩ := h
  have HC := Lib.hid hc
  rw [hn] at hl ⊢
  clear hc hn
  go_enter Try.func69, Try.ntmps69
  go_wp2_with fail
  go_loop [3, 4] (fun s i => ∃ (k : Nat) (t : Int), k ≤ n ∧ i = .int .i64 k ∧ s = .int .i64 t ∧ Hid (t = mxC (l.take k))) (fun _ i => n - (intOf i).toNat)
  case atStart => exact ⟨0, 0, Nat.zero_le _, rfl, rfl, Lib.hid (by simp [mxC])⟩
  case round =>
    obtain ⟨k, t, hk, rfl, rfl, HS⟩ := hrel
    by_cases hlt : k < n
    · obtain ⟨g, off, rfl, hg, hcc⟩ := HC.out (by have := HN.out; omega)
      obtain ⟨x, hx⟩ := get_at HN.out hlt
      have o1 := hcc k x hx
      have HE := Lib.hid (mostC_any t x)
      have HK2 : Hid (max t x = mxC (l.take (k + 1))) := Lib.hid (by rw [mxC_take hx, HS.out])
      clear hcc hx
      generalize max t x = y at *
      go_wp2_with fail
      refine (HE.out _).mono ?_
      rintro e w1 ⟨rfl, rfl⟩
      go_wp2_with fail
      go_round
      case rel => exact ⟨k + 1, y, by omega, by go_num, rfl, HK2⟩
      case measure => simp [intOf]; omega
    · obtain rfl : k = n := by omega
      go_wp2_with fail
      go_ret
      exact ⟨ret_i (by rw [HS.out, List.take_of_length_le (by have := HN.out; omega)]), rfl⟩

set_option maxHeartbeats 1000000 in
theorem quotC_any (a b : Int) (h0 : 0 ≤ a) (h1 : a ≤ 1000000000) (h2 : 1 ≤ b) (h3 : b ≤ 1000000) (w : World) :
    Calls Try.prog 58 #[.int .i64 a, .int .i64 b] w fun e w' => e = .returned (.int .i64 ((a + b - 1) / b)) ∧ w = w' := by
  have hq : (a + b - 1).tdiv b = (a + b - 1) / b := Int.tdiv_eq_ediv_of_nonneg (by omega)
  have hb0 : ¬ b = 0 := by omega
  have hb1 : ¬ b = -1 := by omega
  have hr0 : 0 ≤ (a + b - 1) / b := Int.ediv_nonneg (by omega) (by omega)
  have hr1 : (a + b - 1) / b ≤ a + b - 1 := Int.ediv_le_self _ (by omega)
  obtain ⟨q, hqq⟩ : ∃ q, (a + b - 1) / b = q := ⟨_, rfl⟩
  rw [hqq] at hq hr0 hr1 ⊢
  clear hqq
  go_enter Try.func58, Try.ntmps58
  go_wp2_with fail
  go_ret
  exact ⟨rfl, rfl⟩
theorem wkB_small {l : List Int} (h : wkB l = true) : l.length ≤ 1000 ∧ (∀ x ∈ l, 0 ≤ x ∧ x ≤ 1000000) := by
  obtain ⟨h1, h2⟩ := wkB_iff.1 h
  exact ⟨by omega, fun x hx => by have := h2 x hx; omega⟩

set_option maxRecDepth 100000 in
set_option maxHeartbeats 4000000 in
theorem implDb_any (v : Value) (l : List Int) (c : Int) (hn : l.length ≤ 1048576) (w : World) (h : IL w v l) :
    Calls Try.prog 19 #[v, .int .i64 c] w (RetP w (.tuple #[.int .i64 (dbR l c), .bool (askC l c)])) := by
  have HW := Lib.hid (isWork_any v l hn w h)
  have HV := Lib.hid h
  cases hw : wkB l with
  | false =>
    have ha : askC l c = false := by simp [askC, hw]
    have hd : dbR l c = 0 := by simp [dbR, ha]
    rw [ha, hd]
    rw [hw] at HW
    clear h hw ha hd
    go_enter Try.func19, Try.ntmps19
    go_wp2_with fail
    refine HW.out.mono ?_
    rintro e w1 ⟨rfl, hb⟩
    have HB := Lib.hid hb
    clear hb
    go_wp2_with fail
    go_ret2
    exact ⟨rfl, HB.out⟩
  | true =>
    rw [hw] at HW
    have HA := Lib.hid (fun W => areCr_any c W)
    by_cases hr : 1 ≤ c ∧ c ≤ 3
    case neg =>
      have hc : crB c = false := crB_not hr
      have ha : askC l c = false := by simp [askC, hc]
      have hd : dbR l c = 0 := by simp [dbR, ha]
      rw [ha, hd]
      rw [hc] at HA
      clear h hw ha hd hr hc
      go_enter Try.func19, Try.ntmps19
      go_wp2_with fail
      refine HW.out.mono ?_
      rintro e w1 ⟨rfl, hb⟩
      have HB := Lib.hid hb
      clear hb
      go_wp2_with fail
      refine (HA.out _).mono ?_
      rintro e w2 ⟨rfl, hb⟩
      have HB := Lib.hid (HB.out.trans (hb.mono HB.out.size))
      clear hb
      go_wp2_with fail
      go_ret2
      exact ⟨rfl, HB.out⟩
    have hc : crB c = true := crB_iff.2 hr
    have ha : askC l c = true := askC_iff.2 ⟨hw, hr⟩
    have hd : dbR l c = max (mxC l) ((l.sum + c - 1) / c) := by simp [dbR, ha]
    rw [ha, hd]
    rw [hc] at HA
    obtain ⟨hs1, hs2⟩ := wkB_small hw
    obtain ⟨⟨hl1, hl2⟩, hm⟩ := wkB_iff.1 hw
    have HX := Lib.hid (fun W hW => maxC_any v l hl1 hs1 (fun x hx => (hm x hx).1) W hW)
    have HT := Lib.hid (fun W hW => totalT_any v l hs1 hs2 W hW)
    have hsum := wkB_sum hw l.length
    rw [List.take_length] at hsum
    have HQ := Lib.hid (fun W => quotC_any l.sum c hsum.1 (by omega) hr.1 (by omega) W)
    clear h hw ha hd hr hc hs1 hs2 hl1 hl2 hm hsum
    generalize (l.sum + c - 1) / c = q at *
    generalize l.sum = s at *
    by_cases hqm : q ≤ mxC l
    case' pos =>
      rw [show max (mxC l) q = mxC l by omega]
      generalize mxC l = m at *
    case' neg =>
      rw [show max (mxC l) q = q by omega]
      generalize mxC l = m at *
      have hqm2 : m < q := by omega
    all_goals
      go_enter Try.func19, Try.ntmps19
      go_wp2_with fail
      refine HW.out.mono ?_
      rintro e w1 ⟨rfl, hb⟩
      have HB := Lib.hid hb
      clear hb
      go_wp2_with fail
      refine (HA.out _).mono ?_
      rintro e w2 ⟨rfl, hb⟩
      have HB := Lib.hid (HB.out.trans (hb.mono HB.out.size))
      have HV2 := Lib.hid (HV.out.below HB.out)
      clear hb
      go_wp2_with fail
      refine (HX.out _ HV2.out).mono ?_
      rintro e w3 ⟨rfl, rfl⟩
      go_wp2_with fail
      refine (HT.out _ HV2.out).mono ?_
      rintro e w4 ⟨rfl, rfl⟩
      go_wp2_with fail
      refine (HQ.out _).mono ?_
      rintro e w5 ⟨rfl, rfl⟩
      go_wp2_with fail
      go_ret2
      exact ⟨rfl, HB.out⟩

set_option maxRecDepth 100000 in
set_option maxHeartbeats 4000000 in
theorem specDb_any (v : Value) (l : List Int) (c : Int) (hn : l.length ≤ 1048576) (w : World) (h : IL w v l) :
    Calls Try.prog 35 #[v, .int .i64 c] w (RetP w (.tuple #[.int .i64 (dbR l c), .bool (askC l c)])) := by
  have HA := Lib.hid (l13Asked_any v l c hn w h)
  cases ha : askC l c with
  | false =>
    have hd : dbR l c = 0 := by simp [dbR, ha]
    rw [hd]
    rw [ha] at HA
    clear h ha hd
    go_enter Try.func35, Try.ntmps35
    go_wp2_with fail
    refine HA.out.mono ?_
    rintro e w1 ⟨rfl, hb⟩
    have HB := Lib.hid hb
    clear hb
    go_wp2_with fail
    go_ret2
    exact ⟨rfl, HB.out⟩
  | true =>
    have hd : dbR l c = max (mxC l) ((l.sum + c - 1) / c) := by simp [dbR, ha]
    rw [hd]
    rw [ha] at HA
    obtain ⟨hw, hr1, hr2⟩ := askC_iff.1 ha
    obtain ⟨hs1, hs2⟩ := wkB_small hw
    have HT := Lib.hid (fun k => wkB_sum hw k)
    have HG := Lib.hid (fun W hW => l13Greatest_any v l hs1 W hW)
    have HV := Lib.hid h
    obtain ⟨a, cap, rfl, hcl⟩ := h
    have HC := Lib.hid hcl
    obtain ⟨n, hl⟩ : ∃ n, l.length = n := ⟨_, rfl⟩
    have HN := Lib.hid hl
    have hs := wkB_sum hw l.length
    rw [List.take_length] at hs
    have hq : (l.sum + c - 1).tdiv c = (l.sum + c - 1) / c := Int.tdiv_eq_ediv_of_nonneg (by omega)
    have hr0 : 0 ≤ (l.sum + c - 1) / c := Int.ediv_nonneg (by omega) (by omega)
    have hr3 : (l.sum + c - 1) / c ≤ l.sum + c - 1 := Int.ediv_le_self _ (by omega)
    have HE : Hid ((l.take n).sum = l.sum) := Lib.hid (by rw [← hl, List.take_length])
    have HM := Lib.hid (fun a b W => mostC_any a b W)
    rw [hl] at hs1 HV HA HG hn ⊢
    clear hw ha hd hs2 hcl hl
    generalize (l.sum + c - 1) / c = q at *
    generalize l.sum = s at *
    generalize mxC l = mx at *
    have hc0 : ¬ c = 0 := by omega
    have hc1 : ¬ c = -1 := by omega
    go_enter Try.func35, Try.ntmps35
    go_wp2_with fail
    refine HA.out.mono ?_
    rintro e w1 ⟨rfl, hb⟩
    have HB := Lib.hid hb
    have HV2 := Lib.hid (HV.out.below hb)
    clear hb
    go_wp2_with fail
    go_loop [6, 7] (fun s i => ∃ (k : Nat) (t : Int), k ≤ n ∧ i = .int .i64 k ∧ s = .int .i64 t ∧ Hid (t = (l.take k).sum)) (fun _ i => n - (intOf i).toNat)
    case atStart => exact ⟨0, 0, Nat.zero_le _, rfl, rfl, Lib.hid rfl⟩
    case round =>
      obtain ⟨k, t, hk, rfl, rfl, HS⟩ := hrel
      by_cases hlt : k < n
      · obtain ⟨g, off, rfl, hg, hcc⟩ := HC.out (by have := HN.out; omega)
        obtain ⟨x, hx⟩ := get_at HN.out hlt
        have o1 := (HB.out.cell (p := ⟨g, off + k, none⟩) hg).trans (hcc k x hx)
        have HK2 : Hid (t + x = (l.take (k + 1)).sum) := Lib.hid (by rw [sumC_take hx, HS.out])
        have q1 := HT.out k
        have q2 := HT.out (k + 1)
        rw [← HS.out] at q1
        rw [← HK2.out] at q2
        clear hcc hx
        go_wp2_with fail
        go_round
        case rel => exact ⟨k + 1, t + x, by omega, by go_num, by go_num, HK2⟩
        case measure => simp [intOf]; omega
      · obtain rfl : k = n := by omega
        obtain rfl : t = s := by rw [HS.out, HE.out]
        go_wp2_with fail
        go_quiet (first | (go_at_call 69; exact Calls.quiet_of_same (flipC (HG.out _ (HV2.out.below (below_drewN (Below.refl _ _) _))))) | (go_at_call 68; exact Calls.quiet_of_same (flipC (HM.out _ _ _))))
        go_wp2_with fail
        go_ret2
        exact ⟨rfl, below_drewN HB.out _⟩
end Go.Proofs.Ytffejbgcgagkpaa
