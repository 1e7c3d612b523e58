/-
  Sums of weights, a column's weight, in the program and in the reference. No statement of the seat by itself.
-/
import Derived.Test.YtalobfpmmembiaaLsG
import Derived.Test.YtalobfpmmembiaaHeights
namespace Go.Proofs.Ytalobfpmmembiaa
open Go.RowKit

theorem enters_id : Enters Try.prog 81 := enters_of Try.func81 (by kernel_rfl) rfl
theorem id_any (x : Int) (w : World) : Calls Try.prog 81 #[.int .i64 x] w fun e w' => e = .returned (.int .i64 x) ∧ w = w' := by
  go_enter Try.func81, Try.ntmps81
  go_wp2_with fail
  go_ret
  exact ⟨rfl, rfl⟩
theorem mem_get {l : List Int} {k : Nat} {x : Int} (h : l[k]? = some x) : x ∈ l := List.mem_of_getElem? h
theorem sum_take_small {l : List Int} (hl : l.length ≤ 8) (hb : ∀ x ∈ l, 0 ≤ x ∧ x ≤ 1000000000) (k : Nat) : 0 ≤ (l.take k).sum ∧ (l.take k).sum ≤ 8000000000 := by
  have := sum_small 1000000000 8 (l.take k) (by simp; omega) (by decide) (fun x hx => hb x (List.mem_of_mem_take hx))
  omega

set_option maxRecDepth 100000 in
set_option maxHeartbeats 4000000 in
theorem sumI_any (v : Value) (l : List Int) (hl : l.length ≤ 8) (hb : ∀ x ∈ l, 0 ≤ x ∧ x ≤ 1000000000) (w : World) (h : IL w v l) :
    Calls Try.prog 80 #[v, .func (.func 81) #[] #[]] w fun e w' => e = .returned (.int .i64 l.sum) ∧ w = w' := by
  obtain ⟨n, hn⟩ : ∃ n, l.length = n := ⟨_, rfl⟩
  have HN := Lib.hid hn
  have HM := Lib.hid hb
  obtain ⟨a, c, rfl, hc⟩ := h
  have HC := Lib.hid hc
  have HT := Lib.hid (sum_take_small hl hb)
  have hE := enters_id
  rw [hn] at hl ⊢
  clear hc hn hb
  go_enter Try.func80, Try.ntmps80
  go_wp2_with fail
  go_loop [5, 10] (fun s i => ∃ (k : Nat) (t : Int), k ≤ n ∧ i = .int .i64 k ∧ s = .int .i64 t ∧ Hid (t = (l.take k).sum)) (fun _ i => n - (intOf i).toNat)
  case atStart => exact ⟨0, 0, Nat.zero_le _, rfl, rfl, Lib.hid rfl⟩
  case round =>
    obtain ⟨k, t, hk, rfl, rfl, HS⟩ := hrel
    by_cases hlt : k < n
    · obtain ⟨g, off, rfl, hg, hcc⟩ := HC.out (by have := HN.out; omega)
      obtain ⟨x, hx⟩ := get_at HN.out hlt
      have o1 := hcc k x hx
      have HE := Lib.hid (id_any x)
      have HK2 := Lib.hid (sum_take hx)
      obtain ⟨m1, m2⟩ := HM.out x (mem_get hx)
      obtain ⟨q1, q2⟩ := HT.out k
      rw [← HS.out] at q1 q2
      clear hcc hx
      go_wp2_with fail
      refine (HE.out _).mono ?_
      rintro e w1 ⟨rfl, rfl⟩
      go_wp2_with fail
      go_round
      case rel => exact ⟨k + 1, t + x, by omega, by go_num, by go_num, Lib.hid (by rw [HK2.out, HS.out])⟩
      case measure => simp [intOf]; omega
    · obtain rfl : k = n := by omega
      go_wp2_with fail
      go_ret
      exact ⟨ret_i (by rw [HS.out, List.take_of_length_le (by have := HN.out; omega)]), rfl⟩

set_option maxHeartbeats 1000000 in
theorem totalOf_any (v : Value) (l : List Int) (hl : l.length ≤ 8) (hb : ∀ x ∈ l, 0 ≤ x ∧ x ≤ 1000000000) (w : World) (h : IL w v l) :
    Calls Try.prog 51 #[v] w fun e w' => e = .returned (.int .i64 l.sum) ∧ w = w' := by
  have H := Lib.hid (sumI_any v l hl hb w h)
  clear h hb
  generalize l.sum = s at *
  go_enter Try.func51, Try.ntmps51
  go_wp2_with fail
  refine H.out.mono ?_
  rintro e w1 ⟨rfl, rfl⟩
  go_wp2_with fail
  go_ret
  exact ⟨rfl, rfl⟩

set_option maxRecDepth 100000 in
set_option maxHeartbeats 2000000 in
theorem l12Sum_any (v : Value) (l : List Int) (j : Nat) (hl : l.length ≤ 8) (hj : j ≤ l.length) (hb : ∀ x ∈ l, 0 ≤ x ∧ x ≤ 1000000000) (w : World) (h : IL w v l) :
    Calls Try.prog 63 #[v, .int .i64 (j : Int)] w fun e w' => e = .returned (.int .i64 (l.drop j).sum) ∧ w = w' := by
  obtain ⟨n, hn⟩ : ∃ n, l.length = n := ⟨_, rfl⟩
  have HN := Lib.hid hn
  have HM := Lib.hid hb
  obtain ⟨a, c, rfl, hc⟩ := h
  have HC := Lib.hid hc
  have HT := Lib.hid (sum_take_small hl hb)
  have HD : Hid ((l.drop j).sum = l.sum - (l.take j).sum) := Lib.hid drop_sum
  rw [hn] at hl hj ⊢
  clear hc hn hb
  go_enter Try.func63, Try.ntmps63
  go_wp2_with fail
  go_loop [5, 6] (fun s i => ∃ (k : Nat) (t : Int), j ≤ k ∧ k ≤ n ∧ i = .int .i64 k ∧ s = .int .i64 t ∧ Hid (t = (l.take k).sum - (l.take j).sum) ∧ Hid (0 ≤ t)) (fun _ i => n - (intOf i).toNat)
  case atStart => exact ⟨j, 0, Nat.le_refl _, hj, rfl, rfl, Lib.hid (by omega), Lib.hid (by omega)⟩
  case round =>
    obtain ⟨k, t, hjk, hk, rfl, rfl, HS, HP⟩ := hrel
    by_cases hlt : k < n
    · obtain ⟨g, off, rfl, hg, hcc⟩ := HC.out (by have := HN.out; omega)
      obtain ⟨x, hx⟩ := get_at HN.out hlt
      have o1 := hcc k x hx
      have HK2 := Lib.hid (sum_take hx)
      obtain ⟨m1, m2⟩ := HM.out x (mem_get hx)
      have q1 := HP.out
      have q2 : t ≤ 8000000000 := by have := HS.out; have := HT.out k; have := HT.out j; omega
      clear hcc hx
      go_wp2_with fail
      go_round
      case rel => exact ⟨k + 1, t + x, by omega, by omega, by go_num, by go_num, Lib.hid (by rw [HK2.out, HS.out]; omega), Lib.hid (by omega)⟩
      case measure => simp [intOf]; omega
    · obtain rfl : k = n := by omega
      have HE : Hid ((l.take k).sum = l.sum) := Lib.hid (by rw [List.take_of_length_le (by have := HN.out; omega)])
      go_wp2_with fail
      go_ret
      exact ⟨ret_i (by rw [HS.out, HD.out, HE.out]), rfl⟩

set_option maxHeartbeats 1000000 in
theorem quot_any (a b : Int) (h0 : 0 ≤ a) (h1 : a ≤ 1000000000) (h2 : 1 ≤ b) (h3 : b ≤ 1000000) (w : World) :
    Calls Try.prog 56 #[.int .i64 a, .int .i64 b] w fun e w' => e = .returned (.int .i64 ((a + b - 1) / b)) ∧ w = w' := by
  have hq : (a + b - 1).tdiv b = (a + b - 1) / b := Int.tdiv_eq_ediv_of_nonneg (by omega)
  have hb0 : ¬ b = 0 := by omega
  have hb1 : ¬ b = -1 := by omega
  have hr0 : 0 ≤ (a + b - 1) / b := Int.ediv_nonneg (by omega) (by omega)
  have hr1 : (a + b - 1) / b ≤ a + b - 1 := Int.ediv_le_self _ (by omega)
  obtain ⟨q, hqq⟩ : ∃ q, (a + b - 1) / b = q := ⟨_, rfl⟩
  rw [hqq] at hq hr0 hr1 ⊢
  clear hqq
  go_enter Try.func56, Try.ntmps56
  go_wp2_with fail
  go_ret
  exact ⟨rfl, rfl⟩
theorem goodW_small {l : List Int} {m : Nat} (h : goodW l m = true) : ∀ x ∈ l, 0 ≤ x ∧ x ≤ 1000000000 := fun x hx => by have := (goodW_iff.1 h).2 x hx; omega
theorem goodW_sum {l : List Int} {m : Nat} (h : goodW l m = true) (hm : m ≤ 8) (k : Nat) : 0 ≤ (l.drop k).sum ∧ (l.drop k).sum ≤ 256000 := by
  obtain ⟨h1, h2⟩ := goodW_iff.1 h
  have := sum_small 32000 8 (l.drop k) (by simp; omega) (by decide) (fun x hx => by have := h2 x (List.mem_of_mem_drop hx); omega)
  omega

/-- A sum, whether it is small enough, and whether it worked. -/
def RetW (w : World) (s : Int) (b ok : Bool) : Ending → World → Prop := RetP w (.tuple #[.int .i64 s, .bool b, .bool ok])

set_option maxRecDepth 100000 in
set_option maxHeartbeats 4000000 in
theorem implCw_any (v : Value) (l : List Int) (a b c : Int) (hn : l.length ≤ 2000000) (w : World) (h : IL w v l) :
    Calls Try.prog 37 #[v, .agg #[.int .i64 a, .int .i64 b, .int .i64 c]] w (RetW w (cwS l a b c) (cwB l a b c) (goodC l a b c)) := by
  have B0 := Lib.hid (below_one w (.cells #[.int .i64 a, .int .i64 b, .int .i64 c] 26))
  have HG := Lib.hid (implValidC_any v l hn _ (h.below B0.out))
  have c0 : (w.alloc (.cells #[.int .i64 a, .int .i64 b, .int .i64 c] 26)).cell? ⟨w.heap.size, 0, none⟩ = some (.int .i64 a) := by simp
  have c1 : (w.alloc (.cells #[.int .i64 a, .int .i64 b, .int .i64 c] 26)).cell? ⟨w.heap.size, 1, none⟩ = some (.int .i64 b) := by simp
  have c2 : (w.alloc (.cells #[.int .i64 a, .int .i64 b, .int .i64 c] 26)).cell? ⟨w.heap.size, 2, none⟩ = some (.int .i64 c) := by simp
  have C0 := Lib.hid c0
  have C1 := Lib.hid c1
  have C2 := Lib.hid c2
  have ZA : Hid (w.heap.size < (w.alloc (.cells #[.int .i64 a, .int .i64 b, .int .i64 c] 26)).heap.size) := Lib.hid (by simp)
  have HV := Lib.hid (h.below B0.out)
  obtain ⟨p, cap, rfl⟩ := h.form
  clear h
  cases hg : goodW l 4 with
  | false =>
    rw [hg] at HG
    rw [show goodC l a b c = false by simp [goodC, hg], show cwS l a b c = 0 by simp [cwS, goodC, hg], show cwB l a b c = false by simp [cwB, goodC, hg]]
    clear hg
    go_enter Try.func37, Try.ntmps37
    go_wp2_with fail
    refine HG.out.mono ?_
    rintro e w1 ⟨rfl, hb⟩
    have HB := Lib.hid (B0.out.trans (hb.mono B0.out.size))
    clear hb c0 c1 c2
    go_wp2_with fail
    refine bodyPost_ret (v := .tuple #[.int .i64 0, .bool false, .bool false]) (by simp [results, Try.results37, go_sem]) rfl ⟨rfl, HB.out⟩
  | true =>
    rw [hg] at HG
    have HR := Lib.hid (implRules_any a b c)
    cases hx : okX a b c with
    | false =>
      rw [hx] at HR
      rw [show goodC l a b c = false by simp [goodC, hx], show cwS l a b c = 0 by simp [cwS, goodC, hx], show cwB l a b c = false by simp [cwB, goodC, hx]]
      clear hg hx
      go_enter Try.func37, Try.ntmps37
      go_wp2_with fail
      refine HG.out.mono ?_
      rintro e w1 ⟨rfl, hb⟩
      clear c0 c1 c2
      have c0 := (hb.cell (p := ⟨w.heap.size, 0, none⟩) ZA.out).trans C0.out
      have c1 := (hb.cell (p := ⟨w.heap.size, 1, none⟩) ZA.out).trans C1.out
      have c2 := (hb.cell (p := ⟨w.heap.size, 2, none⟩) ZA.out).trans C2.out
      have HB := Lib.hid (B0.out.trans (hb.mono B0.out.size))
      clear hb
      go_wp2_with fail
      refine (HR.out _).mono ?_
      rintro e w2 ⟨rfl, hb⟩
      have HB2 := Lib.hid (HB.out.trans (hb.mono HB.out.size))
      clear hb c0 c1 c2
      go_wp2_with fail
      refine bodyPost_ret (v := .tuple #[.int .i64 0, .bool false, .bool false]) (by simp [results, Try.results37, go_sem]) rfl ⟨rfl, HB2.out⟩
    | true =>
      rw [hx] at HR
      rw [show goodC l a b c = true by simp [goodC, hg, hx], show cwS l a b c = l.sum by simp [cwS, goodC, hg, hx], show cwB l a b c = decide (l.sum ≤ a) by simp [cwB, goodC, hg, hx]]
      have HT := Lib.hid (fun W hW => totalOf_any (.slice p l.length cap) l (by have := goodW_len hg; omega) (goodW_small hg) W hW)
      clear hg hx
      generalize l.sum = s at *
      go_enter Try.func37, Try.ntmps37
      go_wp2_with fail
      refine HG.out.mono ?_
      rintro e w1 ⟨rfl, hb⟩
      clear c0 c1 c2
      have c0 := (hb.cell (p := ⟨w.heap.size, 0, none⟩) ZA.out).trans C0.out
      have c1 := (hb.cell (p := ⟨w.heap.size, 1, none⟩) ZA.out).trans C1.out
      have c2 := (hb.cell (p := ⟨w.heap.size, 2, none⟩) ZA.out).trans C2.out
      have D0 := Lib.hid c0
      have Z1 := Lib.hid (Nat.lt_of_lt_of_le ZA.out hb.size)
      have HB := Lib.hid (B0.out.trans (hb.mono B0.out.size))
      have HV1 := Lib.hid (HV.out.below hb)
      clear hb
      go_wp2_with fail
      refine (HR.out _).mono ?_
      rintro e w2 ⟨rfl, hb⟩
      clear c0 c1 c2
      have c0 := (hb.cell (p := ⟨w.heap.size, 0, none⟩) Z1.out).trans D0.out
      have HB2 := Lib.hid (HB.out.trans (hb.mono HB.out.size))
      have HV2 := Lib.hid (HV1.out.below hb)
      clear hb
      go_wp2_with fail
      refine (HT.out _ HV2.out).mono ?_
      rintro e w3 ⟨rfl, rfl⟩
      go_wp2_with fail
      go_quiet (fail)
      have HB3 := Lib.hid (below_drewN HB2.out nq)
      go_wp2_with fail
      refine bodyPost_ret (v := .tuple #[.int .i64 s, .bool (decide (s ≤ a)), .bool true]) (by simp [results, Try.results37, go_sem]) rfl ⟨rfl, HB3.out⟩

set_option maxRecDepth 100000 in
set_option maxHeartbeats 4000000 in
theorem specCw_any (v : Value) (l : List Int) (a b c : Int) (hn : l.length ≤ 1048576) (w : World) (h : IL w v l) :
    Calls Try.prog 41 #[v, .agg #[.int .i64 a, .int .i64 b, .int .i64 c]] w (RetW w (cwS l a b c) (cwB l a b c) (goodC l a b c)) := by
  have B0 := Lib.hid (below_one w (.cells #[.int .i64 a, .int .i64 b, .int .i64 c] 26))
  have HG := Lib.hid (l12Good_any v l hn _ (h.below B0.out))
  have c0 : (w.alloc (.cells #[.int .i64 a, .int .i64 b, .int .i64 c] 26)).cell? ⟨w.heap.size, 0, none⟩ = some (.int .i64 a) := by simp
  have c1 : (w.alloc (.cells #[.int .i64 a, .int .i64 b, .int .i64 c] 26)).cell? ⟨w.heap.size, 1, none⟩ = some (.int .i64 b) := by simp
  have c2 : (w.alloc (.cells #[.int .i64 a, .int .i64 b, .int .i64 c] 26)).cell? ⟨w.heap.size, 2, none⟩ = some (.int .i64 c) := by simp
  have C0 := Lib.hid c0
  have C1 := Lib.hid c1
  have C2 := Lib.hid c2
  have ZA : Hid (w.heap.size < (w.alloc (.cells #[.int .i64 a, .int .i64 b, .int .i64 c] 26)).heap.size) := Lib.hid (by simp)
  have HV := Lib.hid (h.below B0.out)
  obtain ⟨p, cap, rfl⟩ := h.form
  clear h
  cases hg : goodW l 4 with
  | false =>
    rw [hg] at HG
    rw [show goodC l a b c = false by simp [goodC, hg], show cwS l a b c = 0 by simp [cwS, goodC, hg], show cwB l a b c = false by simp [cwB, goodC, hg]]
    clear hg
    go_enter Try.func41, Try.ntmps41
    go_wp2_with fail
    refine HG.out.mono ?_
    rintro e w1 ⟨rfl, hb⟩
    have HB := Lib.hid (B0.out.trans (hb.mono B0.out.size))
    clear hb c0 c1 c2
    go_wp2_with fail
    refine bodyPost_ret (v := .tuple #[.int .i64 0, .bool false, .bool false]) (by simp [results, Try.results41, go_sem]) rfl ⟨rfl, HB.out⟩
  | true =>
    rw [hg] at HG
    have HR := Lib.hid (specRules_any a b c)
    cases hx : okX a b c with
    | false =>
      rw [hx] at HR
      rw [show goodC l a b c = false by simp [goodC, hx], show cwS l a b c = 0 by simp [cwS, goodC, hx], show cwB l a b c = false by simp [cwB, goodC, hx]]
      clear hg hx
      go_enter Try.func41, Try.ntmps41
      go_wp2_with fail
      refine HG.out.mono ?_
      rintro e w1 ⟨rfl, hb⟩
      clear c0 c1 c2
      have c0 := (hb.cell (p := ⟨w.heap.size, 0, none⟩) ZA.out).trans C0.out
      have c1 := (hb.cell (p := ⟨w.heap.size, 1, none⟩) ZA.out).trans C1.out
      have c2 := (hb.cell (p := ⟨w.heap.size, 2, none⟩) ZA.out).trans C2.out
      have HB := Lib.hid (B0.out.trans (hb.mono B0.out.size))
      clear hb
      go_wp2_with fail
      refine (HR.out _).mono ?_
      rintro e w2 ⟨rfl, hb⟩
      have HB2 := Lib.hid (HB.out.trans (hb.mono HB.out.size))
      clear hb c0 c1 c2
      go_wp2_with fail
      refine bodyPost_ret (v := .tuple #[.int .i64 0, .bool false, .bool false]) (by simp [results, Try.results41, go_sem]) rfl ⟨rfl, HB2.out⟩
    | true =>
      rw [hx] at HR
      rw [show goodC l a b c = true by simp [goodC, hg, hx], show cwS l a b c = l.sum by simp [cwS, goodC, hg, hx], show cwB l a b c = decide (l.sum ≤ a) by simp [cwB, goodC, hg, hx]]
      have HT := Lib.hid (fun W hW => l12Sum_any (.slice p l.length cap) l 0 (by have := goodW_len hg; omega) (Nat.zero_le _) (goodW_small hg) W hW)
      rw [List.drop_zero] at HT
      clear hg hx
      generalize l.sum = s at *
      go_enter Try.func41, Try.ntmps41
      go_wp2_with fail
      refine HG.out.mono ?_
      rintro e w1 ⟨rfl, hb⟩
      clear c0 c1 c2
      have c0 := (hb.cell (p := ⟨w.heap.size, 0, none⟩) ZA.out).trans C0.out
      have c1 := (hb.cell (p := ⟨w.heap.size, 1, none⟩) ZA.out).trans C1.out
      have c2 := (hb.cell (p := ⟨w.heap.size, 2, none⟩) ZA.out).trans C2.out
      have D0 := Lib.hid c0
      have Z1 := Lib.hid (Nat.lt_of_lt_of_le ZA.out hb.size)
      have HB := Lib.hid (B0.out.trans (hb.mono B0.out.size))
      have HV1 := Lib.hid (HV.out.below hb)
      clear hb
      go_wp2_with fail
      refine (HR.out _).mono ?_
      rintro e w2 ⟨rfl, hb⟩
      clear c0 c1 c2
      have c0 := (hb.cell (p := ⟨w.heap.size, 0, none⟩) Z1.out).trans D0.out
      have HB2 := Lib.hid (HB.out.trans (hb.mono HB.out.size))
      have HV2 := Lib.hid (HV1.out.below hb)
      clear hb
      go_wp2_with fail
      refine (HT.out _ HV2.out).mono ?_
      rintro e w3 ⟨rfl, rfl⟩
      go_wp2_with fail
      go_quiet (fail)
      have HB3 := Lib.hid (below_drewN HB2.out nq)
      go_wp2_with fail
      refine bodyPost_ret (v := .tuple #[.int .i64 s, .bool (decide (s ≤ a)), .bool true]) (by simp [results, Try.results41, go_sem]) rfl ⟨rfl, HB3.out⟩
end Go.Proofs.Ytalobfpmmembiaa
