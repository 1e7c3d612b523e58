/-
  What the two IsValidContainer functions return. No statement of the seat by itself.
-/
import Derived.Test.YtpmaaflpknjbmaaCIdW
namespace Go.Proofs.Ytpmaaflpknjbmaa.C
open Go.RowKit

theorem isSize_yes (n : Int) (w : World) (h : 1 ≤ n ∧ n ≤ 2) : Calls Try.prog 51 #[.int .i64 n] w fun e w' => e = .returned (.bool true) ∧ w = w' := by
  by_cases h1 : n = 1
  · subst h1
    go_enter Try.func51, Try.ntmps51
    go_wp2
    go_ret
    exact ⟨rfl, rfl⟩
  · have h2 : n = 2 := by omega
    subst h2
    go_enter Try.func51, Try.ntmps51
    go_wp2
    go_ret
    exact ⟨rfl, rfl⟩
theorem isSize_no (n : Int) (w : World) (h : ¬ (1 ≤ n ∧ n ≤ 2)) : Calls Try.prog 51 #[.int .i64 n] w fun e w' => e = .returned (.bool false) ∧ w = w' := by
  have h1 : (n == 1) = false := by simp; omega
  have h2 : (n == 2) = false := by simp; omega
  clear h
  go_enter Try.func51, Try.ntmps51
  go_wp2
  go_ret
  exact ⟨rfl, rfl⟩
theorem isCargo_yes (n : Int) (w : World) (h : 1 ≤ n ∧ n ≤ 3) : Calls Try.prog 52 #[.int .i64 n] w fun e w' => e = .returned (.bool true) ∧ w = w' := by
  rcases (show n = 1 ∨ n = 2 ∨ n = 3 by omega) with rfl | rfl | rfl <;>
  · go_enter Try.func52, Try.ntmps52
    go_wp2
    go_ret
    exact ⟨rfl, rfl⟩
theorem isCargo_no (n : Int) (w : World) (h : ¬ (1 ≤ n ∧ n ≤ 3)) : Calls Try.prog 52 #[.int .i64 n] w fun e w' => e = .returned (.bool false) ∧ w = w' := by
  have h1 : (n == 1) = false := by simp; omega
  have h2 : (n == 2) = false := by simp; omega
  have h3 : (n == 3) = false := by simp; omega
  clear h
  go_enter Try.func52, Try.ntmps52
  go_wp2
  go_ret
  exact ⟨rfl, rfl⟩
theorem isWeight_yes (n : Int) (w : World) (h : 1 ≤ n ∧ n ≤ 32000) : Calls Try.prog 53 #[.int .i64 n] w fun e w' => e = .returned (.bool true) ∧ w = w' := by
  obtain ⟨h1, h2⟩ := h
  go_enter Try.func53, Try.ntmps53
  go_wp2
  go_ret
  exact ⟨by simp, rfl⟩
theorem isWeight_no (n : Int) (w : World) (h : ¬ (1 ≤ n ∧ n ≤ 32000)) : Calls Try.prog 53 #[.int .i64 n] w fun e w' => e = .returned (.bool false) ∧ w = w' := by
  by_cases h1 : 1 ≤ n
  · have h2 : decide (n ≤ 32000) = false := by simp; omega
    clear h
    go_enter Try.func53, Try.ntmps53
    go_wp2
    go_ret
    exact ⟨by simp, rfl⟩
  · have h2 : decide (1 ≤ n) = false := by simp; omega
    clear h h1
    go_enter Try.func53, Try.ntmps53
    go_wp2
    go_ret
    exact ⟨by simp, rfl⟩
theorem isPort_yes (n : Int) (w : World) (h : 1 ≤ n ∧ n ≤ 9) : Calls Try.prog 41 #[.int .i64 n] w fun e w' => e = .returned (.bool true) ∧ w = w' := by
  obtain ⟨h1, h2⟩ := h
  go_enter Try.func41, Try.ntmps41
  go_wp2
  go_ret
  exact ⟨by simp, rfl⟩
theorem isPort_no (n : Int) (w : World) (h : ¬ (1 ≤ n ∧ n ≤ 9)) : Calls Try.prog 41 #[.int .i64 n] w fun e w' => e = .returned (.bool false) ∧ w = w' := by
  by_cases h1 : 1 ≤ n
  · have h2 : decide (n ≤ 9) = false := by simp; omega
    clear h
    go_enter Try.func41, Try.ntmps41
    go_wp2
    go_ret
    exact ⟨by simp, rfl⟩
  · have h2 : decide (1 ≤ n) = false := by simp; omega
    clear h h1
    go_enter Try.func41, Try.ntmps41
    go_wp2
    go_ret
    exact ⟨by simp, rfl⟩
theorem l1In_yes (a lo hi : Int) (w : World) (h : lo ≤ a ∧ a ≤ hi) : Calls Try.prog 40 #[.int .i64 a, .int .i64 lo, .int .i64 hi] w fun e w' => e = .returned (.bool true) ∧ w = w' := by
  obtain ⟨h1, h2⟩ := h
  go_enter Try.func40, Try.ntmps40
  go_wp2
  go_ret
  exact ⟨by simp, rfl⟩
theorem l1In_no (a lo hi : Int) (w : World) (h : ¬ (lo ≤ a ∧ a ≤ hi)) : Calls Try.prog 40 #[.int .i64 a, .int .i64 lo, .int .i64 hi] w fun e w' => e = .returned (.bool false) ∧ w = w' := by
  by_cases h1 : a < lo
  · clear h
    go_enter Try.func40, Try.ntmps40
    go_wp2
    go_ret
    exact ⟨rfl, rfl⟩
  · have h2 : hi < a := by omega
    have h3 : decide (a ≤ hi) = false := by simp; omega
    clear h
    go_enter Try.func40, Try.ntmps40
    go_wp2
    go_ret
    exact ⟨by simp, rfl⟩

/-- A container as a value. -/
def contV (c : Cont) : Array Value := #[.string c.id, .int .i64 c.size, .int .i64 c.weight, .int .i64 c.cargo, .int .i64 c.port]

theorem good_no {c : Cont} (h : ¬ (idB c.id = true ∧ (1 ≤ c.size ∧ c.size ≤ 2) ∧ (1 ≤ c.weight ∧ c.weight ≤ 32000) ∧ (1 ≤ c.cargo ∧ c.cargo ≤ 3) ∧ (1 ≤ c.port ∧ c.port ≤ 9))) : goodB c = false := by
  cases e : goodB c with
  | false => rfl
  | true => exact absurd ((goodB_iff c).1 e) h

/-- A container's validity was asked: the answer, and nothing older turned. -/
def GoodPost (w : World) (b : Bool) (e : Ending) (w' : World) : Prop := e = .returned (.bool b) ∧ Below w.heap.size w w'

set_option maxHeartbeats 2000000 in
theorem implGood_any (c : Cont) (w : World) (hs : c.id.size ≤ maxLen) : Calls Try.prog 43 #[.agg (contV c)] w (GoodPost w (goodB c)) := by
  obtain ⟨id, sz, wt, cg, pt⟩ := c
  simp only [contV]
  have HS := Lib.hid hs
  clear hs
  generalize hg : goodB ⟨id, sz, wt, cg, pt⟩ = b
  have HG := Lib.hid hg
  clear hg
  go_enter Try.func43, Try.ntmps43
  go_wp2_with fail
  refine (implId_any id _ HS.out).mono ?_
  rintro e w1 ⟨rfl, hb⟩
  have hz : w.heap.size < w1.heap.size := by have := hb.size; simp at this; omega
  have c1 : w1.cell? ⟨w.heap.size, 1, none⟩ = some (.int .i64 sz) := (hb.cell (p := ⟨w.heap.size, 1, none⟩) (by simp)).trans (by simp)
  have c2 : w1.cell? ⟨w.heap.size, 2, none⟩ = some (.int .i64 wt) := (hb.cell (p := ⟨w.heap.size, 2, none⟩) (by simp)).trans (by simp)
  have c3 : w1.cell? ⟨w.heap.size, 3, none⟩ = some (.int .i64 cg) := (hb.cell (p := ⟨w.heap.size, 3, none⟩) (by simp)).trans (by simp)
  have c4 : w1.cell? ⟨w.heap.size, 4, none⟩ = some (.int .i64 pt) := (hb.cell (p := ⟨w.heap.size, 4, none⟩) (by simp)).trans (by simp)
  have BB : Hid (Below w.heap.size w w1) := Lib.hid (((Below.refl _ w).alloc (Nat.le_refl _) _).trans (hb.mono (by simp)))
  clear hb
  cases h1 : idB id with
  | false =>
    have HB : Hid (b = false) := Lib.hid (by rw [← HG.out]; exact good_no (by simp [h1]))
    clear h1
    go_wp2_with fail
    go_ret
    exact ⟨by rw [HB.out]; rfl, BB.out⟩
  | true =>
    by_cases h2 : 1 ≤ sz ∧ sz ≤ 2
    · by_cases h3 : 1 ≤ cg ∧ cg ≤ 3
      · by_cases h4 : 1 ≤ wt ∧ wt ≤ 32000
        · by_cases h6 : 1 ≤ pt ∧ pt ≤ 9
          · have HB : Hid (b = true) := Lib.hid (by rw [← HG.out]; exact (goodB_iff _).2 ⟨h1, h2, h4, h3, h6⟩)
            have K2 := Lib.hid h2
            have K3 := Lib.hid h3
            have K4 := Lib.hid h4
            have K6 := Lib.hid h6
            clear h1 h2 h3 h4 h6
            go_wp2_with (first | (go_at_call 51; refine (isSize_yes _ _ K2.out).mono ?_; rintro e w' ⟨rfl, rfl⟩) | (go_at_call 52; refine (isCargo_yes _ _ K3.out).mono ?_; rintro e w' ⟨rfl, rfl⟩) | (go_at_call 53; refine (isWeight_yes _ _ K4.out).mono ?_; rintro e w' ⟨rfl, rfl⟩) | (go_at_call 41; refine (isPort_yes _ _ K6.out).mono ?_; rintro e w' ⟨rfl, rfl⟩))
            go_ret
            exact ⟨by rw [HB.out]; rfl, BB.out⟩
          · have HB : Hid (b = false) := Lib.hid (by rw [← HG.out]; exact good_no (fun h => h6 h.2.2.2.2))
            have K2 := Lib.hid h2
            have K3 := Lib.hid h3
            have K4 := Lib.hid h4
            have K6 := Lib.hid h6
            clear h1 h2 h3 h4 h6
            go_wp2_with (first | (go_at_call 51; refine (isSize_yes _ _ K2.out).mono ?_; rintro e w' ⟨rfl, rfl⟩) | (go_at_call 52; refine (isCargo_yes _ _ K3.out).mono ?_; rintro e w' ⟨rfl, rfl⟩) | (go_at_call 53; refine (isWeight_yes _ _ K4.out).mono ?_; rintro e w' ⟨rfl, rfl⟩) | (go_at_call 41; refine (isPort_no _ _ K6.out).mono ?_; rintro e w' ⟨rfl, rfl⟩))
            go_ret
            exact ⟨by rw [HB.out]; rfl, BB.out⟩
        · have HB : Hid (b = false) := Lib.hid (by rw [← HG.out]; exact good_no (fun h => h4 h.2.2.1))
          have K2 := Lib.hid h2
          have K3 := Lib.hid h3
          have K4 := Lib.hid h4
          clear h1 h2 h3 h4
          go_wp2_with (first | (go_at_call 51; refine (isSize_yes _ _ K2.out).mono ?_; rintro e w' ⟨rfl, rfl⟩) | (go_at_call 52; refine (isCargo_yes _ _ K3.out).mono ?_; rintro e w' ⟨rfl, rfl⟩) | (go_at_call 53; refine (isWeight_no _ _ K4.out).mono ?_; rintro e w' ⟨rfl, rfl⟩))
          go_ret
          exact ⟨by rw [HB.out]; rfl, BB.out⟩
      · have HB : Hid (b = false) := Lib.hid (by rw [← HG.out]; exact good_no (fun h => h3 h.2.2.2.1))
        have K2 := Lib.hid h2
        have K3 := Lib.hid h3
        clear h1 h2 h3
        go_wp2_with (first | (go_at_call 51; refine (isSize_yes _ _ K2.out).mono ?_; rintro e w' ⟨rfl, rfl⟩) | (go_at_call 52; refine (isCargo_no _ _ K3.out).mono ?_; rintro e w' ⟨rfl, rfl⟩))
        go_ret
        exact ⟨by rw [HB.out]; rfl, BB.out⟩
    · have HB : Hid (b = false) := Lib.hid (by rw [← HG.out]; exact good_no (fun h => h2 h.2.1))
      have K2 := Lib.hid h2
      clear h1 h2
      go_wp2_with (go_at_call 51; refine (isSize_no _ _ K2.out).mono ?_; rintro e w' ⟨rfl, rfl⟩)
      go_ret
      exact ⟨by rw [HB.out]; rfl, BB.out⟩

theorem l1In_any (a lo hi : Int) (b : Bool) (h : inB lo hi a = b) (w : World) : Calls Try.prog 40 #[.int .i64 a, .int .i64 lo, .int .i64 hi] w fun e w' => e = .returned (.bool b) ∧ w = w' := by
  subst h
  by_cases h : lo ≤ a ∧ a ≤ hi
  · exact (l1In_yes a lo hi w h).mono fun _ _ ⟨he, hw⟩ => ⟨by rw [he]; simp [inB, h.1, h.2], hw⟩
  · exact (l1In_no a lo hi w h).mono fun _ _ ⟨he, hw⟩ => ⟨by rw [he]; congr 2; unfold inB; simp; omega, hw⟩
theorem below_drewN {n : Nat} {w w1 : World} (h : Below n w w1) (k : Nat) : Below n w (w1.drewN k) := ⟨h.os, h.tape, h.output, h.size, h.block⟩

set_option maxHeartbeats 2000000 in
theorem specGood_any (c : Cont) (w : World) (hs : c.id.size ≤ maxLen) : Calls Try.prog 42 #[.agg (contV c)] w (GoodPost w (goodB c)) := by
  obtain ⟨id, sz, wt, cg, pt⟩ := c
  simp only [contV]
  have HS := Lib.hid hs
  clear hs
  generalize hg : goodB ⟨id, sz, wt, cg, pt⟩ = b
  have HG : Hid (b = (idB id && (inB 1 2 sz && (inB 1 32000 wt && (inB 1 3 cg && inB 1 9 pt))))) := Lib.hid hg.symm
  clear hg
  go_enter Try.func42, Try.ntmps42
  go_wp2_with fail
  refine (l2Id_any id _ HS.out).mono ?_
  rintro e w1 ⟨rfl, k1, hw1⟩
  have c1 : w1.cell? ⟨w.heap.size, 1, none⟩ = some (.int .i64 sz) := by rw [hw1]; simp
  have c2 : w1.cell? ⟨w.heap.size, 2, none⟩ = some (.int .i64 wt) := by rw [hw1]; simp
  have c3 : w1.cell? ⟨w.heap.size, 3, none⟩ = some (.int .i64 cg) := by rw [hw1]; simp
  have c4 : w1.cell? ⟨w.heap.size, 4, none⟩ = some (.int .i64 pt) := by rw [hw1]; simp
  have BB : Hid (Below w.heap.size w w1) := Lib.hid (by rw [hw1]; exact below_drewN ((Below.refl _ w).alloc (Nat.le_refl _) _) _)
  clear hw1
  cases h1 : idB id with
  | false =>
    have HB : Hid (b = false) := Lib.hid (by rw [HG.out, h1]; rfl)
    clear h1
    go_wp2_with fail
    go_ret
    exact ⟨by rw [HB.out]; rfl, BB.out⟩
  | true =>
    cases h2 : inB 1 2 sz with
    | false =>
      have HB : Hid (b = false) := Lib.hid (by rw [HG.out, h1, h2]; rfl)
      have K2 := Lib.hid h2
      clear h1 h2
      go_wp2_with (go_at_call 40; refine (l1In_any _ _ _ _ K2.out _).mono ?_; rintro e w' ⟨rfl, rfl⟩)
      go_ret
      exact ⟨by rw [HB.out]; rfl, BB.out⟩
    | true =>
      cases h3 : inB 1 32000 wt with
      | false =>
        have HB : Hid (b = false) := Lib.hid (by rw [HG.out, h1, h2, h3]; rfl)
        have K2 := Lib.hid h2
        have K3 := Lib.hid h3
        clear h1 h2 h3
        go_wp2_with (first | (go_at_call 40; with_reducible refine (l1In_any _ 1 2 _ K2.out _).mono ?_; rintro e w' ⟨rfl, rfl⟩) | (go_at_call 40; with_reducible refine (l1In_any _ 1 32000 _ K3.out _).mono ?_; rintro e w' ⟨rfl, rfl⟩))
        go_ret
        exact ⟨by rw [HB.out]; rfl, BB.out⟩
      | true =>
        cases h4 : inB 1 3 cg with
        | false =>
          have HB : Hid (b = false) := Lib.hid (by rw [HG.out, h1, h2, h3, h4]; rfl)
          have K2 := Lib.hid h2
          have K3 := Lib.hid h3
          have K4 := Lib.hid h4
          clear h1 h2 h3 h4
          go_wp2_with (first | (go_at_call 40; with_reducible refine (l1In_any _ 1 2 _ K2.out _).mono ?_; rintro e w' ⟨rfl, rfl⟩) | (go_at_call 40; with_reducible refine (l1In_any _ 1 32000 _ K3.out _).mono ?_; rintro e w' ⟨rfl, rfl⟩) | (go_at_call 40; with_reducible refine (l1In_any _ 1 3 _ K4.out _).mono ?_; rintro e w' ⟨rfl, rfl⟩))
          go_ret
          exact ⟨by rw [HB.out]; rfl, BB.out⟩
        | true =>
          have K2 := Lib.hid h2
          have K3 := Lib.hid h3
          have K4 := Lib.hid h4
          cases h5 : inB 1 9 pt
          all_goals
            have HB := Lib.hid (show b = _ by rw [HG.out, h1, h2, h3, h4, h5])
            have K5 := Lib.hid h5
            clear h1 h2 h3 h4 h5
            go_wp2_with (first | (go_at_call 40; with_reducible refine (l1In_any _ 1 2 _ K2.out _).mono ?_; rintro e w' ⟨rfl, rfl⟩) | (go_at_call 40; with_reducible refine (l1In_any _ 1 32000 _ K3.out _).mono ?_; rintro e w' ⟨rfl, rfl⟩) | (go_at_call 40; with_reducible refine (l1In_any _ 1 3 _ K4.out _).mono ?_; rintro e w' ⟨rfl, rfl⟩) | (go_at_call 40; with_reducible refine (l1In_any _ 1 9 _ K5.out _).mono ?_; rintro e w' ⟨rfl, rfl⟩))
            go_ret
            exact ⟨by rw [HB.out]; rfl, BB.out⟩

end Go.Proofs.Ytpmaaflpknjbmaa.C
