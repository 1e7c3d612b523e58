/-
  What the two FindContainer, TotalWeight and CountUnits functions return. No statement of the seat by itself.
-/
import Derived.Test.YtpdonhdffniabaaCValidI
namespace Go.Proofs.Ytpdonhdffniabaa.C
open Go.RowKit

def sumW (f : Nat → Cont) : Nat → Int
  | 0 => 0
  | k + 1 => sumW f k + (f k).weight
def sumU (f : Nat → Cont) : Nat → Int
  | 0 => 0
  | k + 1 => sumU f k + (f k).size
theorem sumW_bd {n : Nat} {f : Nat → Cont} (h : listB n f = true) : ∀ k, k ≤ n → 0 ≤ sumW f k ∧ sumW f k ≤ 32000 * k
  | 0, _ => by simp [sumW]
  | k + 1, hk => by
    have h1 := sumW_bd h k (by omega)
    have h2 := ((goodB_iff _).1 (listB_good h k (by omega))).2.2.1
    rw [sumW]; omega
theorem sumU_bd {n : Nat} {f : Nat → Cont} (h : listB n f = true) : ∀ k, k ≤ n → (k : Int) ≤ sumU f k ∧ sumU f k ≤ 2 * k
  | 0, _ => by simp [sumU]
  | k + 1, hk => by
    have h1 := sumU_bd h k (by omega)
    have h2 := ((goodB_iff _).1 (listB_good h k (by omega))).2.1
    rw [sumU]; omega
/-- A number and a bool were answered, and nothing older turned. -/
def PairI (w : World) (a : Int) (b : Bool) (e : Ending) (w' : World) : Prop := e = .returned (.tuple #[.int .i64 a, .bool b]) ∧ Below w.heap.size w w'

set_option maxHeartbeats 400000 in
theorem specTotal_no (g n c : Nat) (f : Nat → Cont) (hn : n ≤ 1048576) (hid : ∀ j, j < n → (f j).id.size ≤ 1048576) (w : World) (h : CAt w g 0 n f) (hL : listB n f = false) :
    Calls Try.prog 21 #[.slice (some ⟨g, 0, none⟩) n c] w (PairI w 0 false) := by
  have K := Lib.hid (l2List_any g n c f hn hid w h)
  have HL := Lib.hid hL
  clear h hid hL
  go_enter Try.func21, Try.ntmps21
  go_wp2_with fail
  refine K.out.mono ?_
  rw [HL.out]
  rintro e w1 ⟨rfl, hb1⟩
  have B1 := Lib.hid hb1
  clear hb1
  go_wp2_with fail
  go_ret2
  exact ⟨rfl, B1.out⟩
set_option maxHeartbeats 400000 in
theorem specUnits_no (g n c : Nat) (f : Nat → Cont) (hn : n ≤ 1048576) (hid : ∀ j, j < n → (f j).id.size ≤ 1048576) (w : World) (h : CAt w g 0 n f) (hL : listB n f = false) :
    Calls Try.prog 23 #[.slice (some ⟨g, 0, none⟩) n c] w (PairI w 0 false) := by
  have K := Lib.hid (l2List_any g n c f hn hid w h)
  have HL := Lib.hid hL
  clear h hid hL
  go_enter Try.func23, Try.ntmps23
  go_wp2_with fail
  refine K.out.mono ?_
  rw [HL.out]
  rintro e w1 ⟨rfl, hb1⟩
  have B1 := Lib.hid hb1
  clear hb1
  go_wp2_with fail
  go_ret2
  exact ⟨rfl, B1.out⟩
set_option maxHeartbeats 400000 in
theorem implTotal_no (g n c : Nat) (f : Nat → Cont) (hn : n ≤ 1048576) (hid : ∀ j, j < n → (f j).id.size ≤ 1048576) (hnc : n ≤ c) (w : World) (h : CAt w g 0 n f) (hL : listB n f = false) :
    Calls Try.prog 22 #[.slice (some ⟨g, 0, none⟩) n c] w (PairI w 0 false) := by
  have K := Lib.hid (implList_any g n c f hn hid hnc w h)
  have HL := Lib.hid hL
  clear h hid hL hnc
  go_enter Try.func22, Try.ntmps22
  go_wp2_with fail
  refine K.out.mono ?_
  rw [HL.out]
  rintro e w1 ⟨rfl, hb1⟩
  have B1 := Lib.hid hb1
  clear hb1
  go_wp2_with fail
  go_ret2
  exact ⟨rfl, B1.out⟩
set_option maxHeartbeats 400000 in
theorem implUnits_no (g n c : Nat) (f : Nat → Cont) (hn : n ≤ 1048576) (hid : ∀ j, j < n → (f j).id.size ≤ 1048576) (hnc : n ≤ c) (w : World) (h : CAt w g 0 n f) (hL : listB n f = false) :
    Calls Try.prog 24 #[.slice (some ⟨g, 0, none⟩) n c] w (PairI w 0 false) := by
  have K := Lib.hid (implList_any g n c f hn hid hnc w h)
  have HL := Lib.hid hL
  clear h hid hL hnc
  go_enter Try.func24, Try.ntmps24
  go_wp2_with fail
  refine K.out.mono ?_
  rw [HL.out]
  rintro e w1 ⟨rfl, hb1⟩
  have B1 := Lib.hid hb1
  clear hb1
  go_wp2_with fail
  go_ret2
  exact ⟨rfl, B1.out⟩
set_option maxHeartbeats 400000 in
theorem implFind_no (g n c : Nat) (f : Nat → Cont) (hn : n ≤ 1048576) (hid : ∀ j, j < n → (f j).id.size ≤ 1048576) (hnc : n ≤ c) (w : World) (h : CAt w g 0 n f) (hL : listB n f = false) (id : ByteArray) :
    Calls Try.prog 20 #[.slice (some ⟨g, 0, none⟩) n c, .string id] w (PairI w 0 false) := by
  have K := Lib.hid (implList_any g n c f hn hid hnc w h)
  have HL := Lib.hid hL
  clear h hid hL hnc
  go_enter Try.func20, Try.ntmps20
  go_wp2_with fail
  refine K.out.mono ?_
  rw [HL.out]
  rintro e w1 ⟨rfl, hb1⟩
  have B1 := Lib.hid hb1
  clear hb1
  go_wp2_with fail
  go_ret2
  exact ⟨rfl, B1.out⟩
set_option maxHeartbeats 400000 in
theorem specFind_no (g n c : Nat) (f : Nat → Cont) (hn : n ≤ 1048576) (hid : ∀ j, j < n → (f j).id.size ≤ 1048576) (w : World) (h : CAt w g 0 n f) (hL : listB n f = false) (id : ByteArray) :
    Calls Try.prog 19 #[.slice (some ⟨g, 0, none⟩) n c, .string id] w (PairI w 0 false) := by
  have K := Lib.hid (l2List_any g n c f hn hid w h)
  have HL := Lib.hid hL
  clear h hid hL
  go_enter Try.func19, Try.ntmps19
  go_wp2_with fail
  refine K.out.mono ?_
  rw [HL.out]
  rintro e w1 ⟨rfl, hb1⟩
  have B1 := Lib.hid hb1
  clear hb1
  go_wp2_with fail
  go_ret2
  exact ⟨rfl, B1.out⟩
set_option maxHeartbeats 1000000 in
theorem specTotal_yes (g n c : Nat) (f : Nat → Cont) (hn : n ≤ 1048576) (hid : ∀ j, j < n → (f j).id.size ≤ 1048576) (w : World) (h : CAt w g 0 n f) (hL : listB n f = true) :
    Calls Try.prog 21 #[.slice (some ⟨g, 0, none⟩) n c] w (PairI w (sumW f n) true) := by
  have K := Lib.hid (l2List_any g n c f hn hid w h)
  have HL := Lib.hid hL
  have H := Lib.hid h
  have h12 := ((listB_iff n f).1 hL).1
  clear h hid hL
  go_enter Try.func21, Try.ntmps21
  go_wp2_with fail
  refine K.out.mono ?_
  rw [HL.out]
  rintro e w1 ⟨rfl, hb1⟩
  have C1 := Lib.hid (H.out.below hb1)
  have B1 := Lib.hid hb1
  clear hb1
  go_wp2_with fail
  go_loop [4, 5] (fun s i => ∃ k : Nat, k ≤ n ∧ i = .int .i64 k ∧ s = .int .i64 (sumW f k)) (fun _ i => n - (intOf i).toNat)
  case atStart => exact ⟨0, Nat.zero_le _, rfl, rfl⟩
  case round =>
    obtain ⟨k, hk, rfl, rfl⟩ := hrel
    by_cases hlt : k < n
    · obtain ⟨a0, a1, a2, a3, a4⟩ := C1.out.2 k hlt
      rw [Nat.zero_add] at *
      have hb := sumW_bd HL.out k hk
      have hg := (goodB_iff _).1 (listB_good HL.out k hlt)
      have hg1 := hg.2.1
      have hg2 := hg.2.2.1
      have HS : Hid (sumW f (k + 1) = sumW f k + (f k).weight) := Lib.hid rfl
      clear hg
      generalize sumW f k = S at *
      generalize f k = x at *
      obtain ⟨id, sz, wt, cg, pt⟩ := x
      simp only at *
      go_wp2_with fail
      go_round
      case rel => exact ⟨k + 1, by omega, by go_num, val_i (by rw [HS.out])⟩
      case measure => simp [intOf]; omega
    · obtain rfl : k = n := by omega
      go_wp2_with fail
      go_ret2
      exact ⟨rfl, B1.out⟩
set_option maxHeartbeats 1000000 in
theorem specUnits_yes (g n c : Nat) (f : Nat → Cont) (hn : n ≤ 1048576) (hid : ∀ j, j < n → (f j).id.size ≤ 1048576) (w : World) (h : CAt w g 0 n f) (hL : listB n f = true) :
    Calls Try.prog 23 #[.slice (some ⟨g, 0, none⟩) n c] w (PairI w (sumU f n) true) := by
  have K := Lib.hid (l2List_any g n c f hn hid w h)
  have HL := Lib.hid hL
  have H := Lib.hid h
  have h12 := ((listB_iff n f).1 hL).1
  clear h hid hL
  go_enter Try.func23, Try.ntmps23
  go_wp2_with fail
  refine K.out.mono ?_
  rw [HL.out]
  rintro e w1 ⟨rfl, hb1⟩
  have C1 := Lib.hid (H.out.below hb1)
  have B1 := Lib.hid hb1
  clear hb1
  go_wp2_with fail
  go_loop [4, 5] (fun s i => ∃ k : Nat, k ≤ n ∧ i = .int .i64 k ∧ s = .int .i64 (sumU f k)) (fun _ i => n - (intOf i).toNat)
  case atStart => exact ⟨0, Nat.zero_le _, rfl, rfl⟩
  case round =>
    obtain ⟨k, hk, rfl, rfl⟩ := hrel
    by_cases hlt : k < n
    · obtain ⟨a0, a1, a2, a3, a4⟩ := C1.out.2 k hlt
      rw [Nat.zero_add] at *
      have hb := sumU_bd HL.out k hk
      have hg := (goodB_iff _).1 (listB_good HL.out k hlt)
      have hg1 := hg.2.1
      have hg2 := hg.2.2.1
      have HS : Hid (sumU f (k + 1) = sumU f k + (f k).size) := Lib.hid rfl
      clear hg
      generalize sumU f k = S at *
      generalize f k = x at *
      obtain ⟨id, sz, wt, cg, pt⟩ := x
      simp only at *
      go_wp2_with fail
      go_round
      case rel => exact ⟨k + 1, by omega, by go_num, val_i (by rw [HS.out])⟩
      case measure => simp [intOf]; omega
    · obtain rfl : k = n := by omega
      go_wp2_with fail
      go_ret2
      exact ⟨rfl, B1.out⟩

theorem unitsOf_any (n : Int) (w : World) (h : 1 ≤ n ∧ n ≤ 2) : Calls Try.prog 46 #[.int .i64 n] w fun e w' => e = .returned (.int .i64 n) ∧ w = w' := by
  by_cases h1 : n = 1
  · subst h1
    go_enter Try.func46, Try.ntmps46
    go_wp2
    go_ret
    exact ⟨rfl, rfl⟩
  · have h2 : n = 2 := by omega
    subst h2
    go_enter Try.func46, Try.ntmps46
    go_wp2
    go_ret
    exact ⟨rfl, rfl⟩
set_option maxRecDepth 100000 in
set_option maxHeartbeats 1000000 in
theorem implTotal_yes (g n c : Nat) (f : Nat → Cont) (hn : n ≤ 1048576) (hid : ∀ j, j < n → (f j).id.size ≤ 1048576) (hnc : n ≤ c) (w : World) (h : CAt w g 0 n f) (hL : listB n f = true) :
    Calls Try.prog 22 #[.slice (some ⟨g, 0, none⟩) n c] w (PairI w (sumW f n) true) := by
  have K := Lib.hid (implList_any g n c f hn hid hnc w h)
  have HL := Lib.hid hL
  have H := Lib.hid h
  have h12 := ((listB_iff n f).1 hL).1
  clear h hid hL
  go_enter Try.func22, Try.ntmps22
  go_wp2_with fail
  refine K.out.mono ?_
  rw [HL.out]
  rintro e w1 ⟨rfl, hb1⟩
  have B1 := Lib.hid hb1
  clear hb1
  go_wp2_with fail
  go_loopw [4, 6, 12] (fun s _ i wr => ∃ k : Nat, k ≤ n ∧ i = .int .i64 k ∧ s = .int .i64 (sumW f k) ∧ Hid (Below w.heap.size w wr)) (fun _ _ i _ => n - (intOf i).toNat)
  case atStart => exact ⟨0, Nat.zero_le _, rfl, rfl, B1⟩
  case round =>
    obtain ⟨k, hk, rfl, rfl, HB⟩ := hrel
    by_cases hlt : k < n
    · obtain ⟨a0, a1, a2, a3, a4⟩ := (H.out.below HB.out).2 k hlt
      rw [Nat.zero_add] at *
      have hb := sumW_bd HL.out k hk
      have hg := (goodB_iff _).1 (listB_good HL.out k hlt)
      have hg1 := hg.2.1
      have hg2 := hg.2.2.1
      have HS : Hid (sumW f (k + 1) = sumW f k + (f k).weight) := Lib.hid rfl
      clear hg
      generalize sumW f k = S at *
      generalize f k = x at *
      obtain ⟨id, sz, wt, cg, pt⟩ := x
      simp only at *
      go_wp2_with fail
      refine ⟨⟨k + 1, by omega, by go_num, val_i (by rw [HS.out]), Lib.hid (HB.out.alloc HB.out.size _)⟩, by simp [intOf]; omega⟩
    · obtain rfl : k = n := by omega
      go_wp2_with fail
      go_ret2
      exact ⟨rfl, HB.out⟩
set_option maxRecDepth 100000 in
set_option maxHeartbeats 1000000 in
theorem implUnits_yes (g n c : Nat) (f : Nat → Cont) (hn : n ≤ 1048576) (hid : ∀ j, j < n → (f j).id.size ≤ 1048576) (hnc : n ≤ c) (w : World) (h : CAt w g 0 n f) (hL : listB n f = true) :
    Calls Try.prog 24 #[.slice (some ⟨g, 0, none⟩) n c] w (PairI w (sumU f n) true) := by
  have K := Lib.hid (implList_any g n c f hn hid hnc w h)
  have HL := Lib.hid hL
  have H := Lib.hid h
  have h12 := ((listB_iff n f).1 hL).1
  clear h hid hL
  go_enter Try.func24, Try.ntmps24
  go_wp2_with fail
  refine K.out.mono ?_
  rw [HL.out]
  rintro e w1 ⟨rfl, hb1⟩
  have B1 := Lib.hid hb1
  clear hb1
  go_wp2_with fail
  go_loopw [4, 6, 12] (fun s _ i wr => ∃ k : Nat, k ≤ n ∧ i = .int .i64 k ∧ s = .int .i64 (sumU f k) ∧ Hid (Below w.heap.size w wr)) (fun _ _ i _ => n - (intOf i).toNat)
  case atStart => exact ⟨0, Nat.zero_le _, rfl, rfl, B1⟩
  case round =>
    obtain ⟨k, hk, rfl, rfl, HB⟩ := hrel
    by_cases hlt : k < n
    · obtain ⟨a0, a1, a2, a3, a4⟩ := (H.out.below HB.out).2 k hlt
      rw [Nat.zero_add] at *
      have hb := sumU_bd HL.out k hk
      have hg := (goodB_iff _).1 (listB_good HL.out k hlt)
      have hg1 := hg.2.1
      have hg2 := hg.2.2.1
      have HS : Hid (sumU f (k + 1) = sumU f k + (f k).size) := Lib.hid rfl
      clear hg
      generalize sumU f k = S at *
      generalize f k = x at *
      obtain ⟨id, sz, wt, cg, pt⟩ := x
      simp only at *
      go_wp2_with (go_at_call 46; refine (unitsOf_any _ _ hg1).mono ?_; rintro e w' ⟨rfl, rfl⟩)
      refine ⟨⟨k + 1, by omega, by go_num, val_i (by rw [HS.out]), Lib.hid (HB.out.alloc HB.out.size _)⟩, by simp [intOf]; omega⟩
    · obtain rfl : k = n := by omega
      go_wp2_with fail
      go_ret2
      exact ⟨rfl, HB.out⟩

set_option maxHeartbeats 400000 in
theorem implFind_yes (g n c : Nat) (f : Nat → Cont) (id : ByteArray) (hn : n ≤ 1048576) (hid : ∀ j, j < n → (f j).id.size ≤ 1048576) (hnc : n ≤ c) (w : World) (h : CAt w g 0 n f) (hL : listB n f = true) :
    Calls Try.prog 20 #[.slice (some ⟨g, 0, none⟩) n c, .string id] w (PairI w (if findU f id n < 0 then 0 else findU f id n) (decide (0 ≤ findU f id n))) := by
  have K := Lib.hid (implList_any g n c f hn hid hnc w h)
  have K2 := Lib.hid (fun W h => indexOf_any g n c f id hn W h)
  have HL := Lib.hid hL
  have H := Lib.hid h
  clear h hid hL hnc
  generalize findU f id n = q at *
  by_cases hq : q < 0
  · have hd : decide (0 ≤ q) = false := by simp; omega
    rw [if_pos hq, hd]
    go_enter Try.func20, Try.ntmps20
    go_wp2_with fail
    refine K.out.mono ?_
    rw [HL.out]
    rintro e w1 ⟨rfl, hb1⟩
    have C1 := Lib.hid (H.out.below hb1)
    have B1 := Lib.hid hb1
    clear hb1
    go_wp2_with fail
    refine (K2.out _ C1.out).mono ?_
    rintro e w2 ⟨rfl, hb2⟩
    have B2 : Hid (Below w.heap.size w w2) := Lib.hid (B1.out.trans (hb2.mono B1.out.size))
    clear hb2
    go_wp2_with fail
    go_ret2
    exact ⟨rfl, B2.out⟩
  · have hd : decide (0 ≤ q) = true := by simp; omega
    rw [if_neg hq, hd]
    go_enter Try.func20, Try.ntmps20
    go_wp2_with fail
    refine K.out.mono ?_
    rw [HL.out]
    rintro e w1 ⟨rfl, hb1⟩
    have C1 := Lib.hid (H.out.below hb1)
    have B1 := Lib.hid hb1
    clear hb1
    go_wp2_with fail
    refine (K2.out _ C1.out).mono ?_
    rintro e w2 ⟨rfl, hb2⟩
    have B2 : Hid (Below w.heap.size w w2) := Lib.hid (B1.out.trans (hb2.mono B1.out.size))
    clear hb2
    go_wp2_with fail
    go_ret2
    exact ⟨rfl, B2.out⟩
set_option maxHeartbeats 400000 in
theorem specFind_yes (g n c : Nat) (f : Nat → Cont) (id : ByteArray) (hn : n ≤ 1048576) (hid : ∀ j, j < n → (f j).id.size ≤ 1048576) (w : World) (h : CAt w g 0 n f) (hL : listB n f = true) :
    Calls Try.prog 19 #[.slice (some ⟨g, 0, none⟩) n c, .string id] w (PairI w (if findU f id n < 0 then 0 else findU f id n) (decide (0 ≤ findU f id n))) := by
  have K := Lib.hid (l2List_any g n c f hn hid w h)
  have K2 := Lib.hid (fun W h => l2Find_any g n c f id hn W h)
  have HL := Lib.hid hL
  have H := Lib.hid h
  clear h hid hL
  generalize findU f id n = q at *
  by_cases hq : q < 0
  · have hd : decide (0 ≤ q) = false := by simp; omega
    have hd2 : decide (q < 0) = true := by simp; omega
    rw [if_pos hq, hd]
    go_enter Try.func19, Try.ntmps19
    go_wp2_with fail
    refine K.out.mono ?_
    rw [HL.out]
    rintro e w1 ⟨rfl, hb1⟩
    have C1 := Lib.hid (H.out.below hb1)
    have B1 := Lib.hid hb1
    clear hb1
    go_wp2_with fail
    refine (K2.out _ C1.out).mono ?_
    rintro e w2 ⟨rfl, rfl⟩
    go_wp2_with fail
    go_ret2
    exact ⟨rfl, B1.out⟩
  · have hd : decide (0 ≤ q) = true := by simp; omega
    have hd2 : decide (q < 0) = false := by simp; omega
    rw [if_neg hq, hd]
    go_enter Try.func19, Try.ntmps19
    go_wp2_with fail
    refine K.out.mono ?_
    rw [HL.out]
    rintro e w1 ⟨rfl, hb1⟩
    have C1 := Lib.hid (H.out.below hb1)
    have B1 := Lib.hid hb1
    clear hb1
    go_wp2_with fail
    refine (K2.out _ C1.out).mono ?_
    rintro e w2 ⟨rfl, rfl⟩
    go_wp2_with fail
    refine (K2.out _ C1.out).mono ?_
    rintro e w2 ⟨rfl, rfl⟩
    go_wp2_with fail
    go_ret2
    exact ⟨rfl, B1.out⟩
end Go.Proofs.Ytpdonhdffniabaa.C
