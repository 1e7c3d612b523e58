/-
  Findings as values: which are valid, the ends of their sentences. No statement of the seat by itself.
-/
import Derived.Test.YtcpelnnadabnpaaDoorENum
import Derived.Below
import Derived.Deep.RegionHeld3
import Derived.Deep.RegionHeldLaw
namespace Go.Proofs.YtcpelnnadabnpaaDoor
open Go.RowKit

def inE (lo hi x : Int) : Bool := decide (lo ≤ x) && decide (x ≤ hi)
theorem l1In_yes (a lo hi : Int) (w : World) (h : lo ≤ a ∧ a ≤ hi) : Calls Tryd.prog 17 #[.int .i64 a, .int .i64 lo, .int .i64 hi] w fun e w' => e = .returned (.bool true) ∧ w = w' := by
  obtain ⟨h1, h2⟩ := h
  go_enter Tryd.func17, Tryd.ntmps17
  go_wp2
  go_ret
  exact ⟨by simp, rfl⟩
theorem l1In_no (a lo hi : Int) (w : World) (h : ¬ (lo ≤ a ∧ a ≤ hi)) : Calls Tryd.prog 17 #[.int .i64 a, .int .i64 lo, .int .i64 hi] w fun e w' => e = .returned (.bool false) ∧ w = w' := by
  by_cases h1 : a < lo
  · clear h
    go_enter Tryd.func17, Tryd.ntmps17
    go_wp2
    go_ret
    exact ⟨rfl, rfl⟩
  · have h2 : hi < a := by omega
    have h3 : decide (a ≤ hi) = false := by simp; omega
    clear h
    go_enter Tryd.func17, Tryd.ntmps17
    go_wp2
    go_ret
    exact ⟨by simp, rfl⟩
theorem l1In_any (a lo hi : Int) (b : Bool) (h : inE lo hi a = b) (w : World) : Calls Tryd.prog 17 #[.int .i64 a, .int .i64 lo, .int .i64 hi] w fun e w' => e = .returned (.bool b) ∧ w = w' := by
  subst h
  by_cases h : lo ≤ a ∧ a ≤ hi
  · exact (l1In_yes a lo hi w h).mono fun _ _ ⟨he, hw⟩ => ⟨by rw [he]; simp [inE, h.1, h.2], hw⟩
  · exact (l1In_no a lo hi w h).mono fun _ _ ⟨he, hw⟩ => ⟨by rw [he]; congr 2; unfold inE; simp; omega, hw⟩
theorem below_drewN {n : Nat} {w w1 : World} (h : Below n w w1) (k : Nat) : Below n w (w1.drewN k) := ⟨h.os, h.tape, h.output, h.size, h.block⟩
theorem below_one (w : World) (o : Obj) : Below w.heap.size w (w.alloc o) := (Below.refl _ _).alloc (Nat.le_refl _) _

/-- Whether a finding is valid. -/
def goodF (r s t : Int) : Bool := (inE 1 4 r && (inE 0 5 s && inE 0 3 t)) && (decide (0 < t) || decide (r = 4))
/-- A yes or no was answered, and nothing older turned. -/
def BoolP (w : World) (b : Bool) (e : Ending) (w' : World) : Prop := e = .returned (.bool b) ∧ Below w.heap.size w w'

set_option maxRecDepth 100000 in
set_option maxHeartbeats 4000000 in
theorem l7Good_any (r s t : Int) (w : World) : Calls Tryd.prog 11 #[.agg #[.int .i64 r, .int .i64 s, .int .i64 t]] w (BoolP w (goodF r s t)) := by
  obtain ⟨b1, h1⟩ : ∃ b, inE 1 4 r = b := ⟨_, rfl⟩
  obtain ⟨b2, h2⟩ : ∃ b, inE 0 5 s = b := ⟨_, rfl⟩
  obtain ⟨b3, h3⟩ : ∃ b, inE 0 3 t = b := ⟨_, rfl⟩
  have H1 := Lib.hid (fun W => l1In_any r 1 4 b1 h1 W)
  have H2 := Lib.hid (fun W => l1In_any s 0 5 b2 h2 W)
  have H3 := Lib.hid (fun W => l1In_any t 0 3 b3 h3 W)
  have HQ : Hid (goodF r s t = ((b1 && (b2 && b3)) && (decide (0 < t) || decide (r = 4)))) := Lib.hid (by rw [← h1, ← h2, ← h3]; rfl)
  have HB := Lib.hid (below_one w (.cells #[.int .i64 r, .int .i64 s, .int .i64 t] 26))
  clear h1 h2 h3
  generalize goodF r s t = q at *
  cases b1 with
  | false =>
    go_enter Tryd.func11, Tryd.ntmps11
    go_wp2_with fail
    refine (H1.out _).mono ?_
    rintro e w1 ⟨rfl, rfl⟩
    go_wp2_with fail
    go_ret
    exact ⟨by rw [HQ.out]; rfl, HB.out⟩
  | true =>
  cases b2 with
  | false =>
    go_enter Tryd.func11, Tryd.ntmps11
    go_wp2_with fail
    refine (H1.out _).mono ?_
    rintro e w1 ⟨rfl, rfl⟩
    go_wp2_with fail
    refine (H2.out _).mono ?_
    rintro e w1 ⟨rfl, rfl⟩
    go_wp2_with fail
    go_ret
    exact ⟨by rw [HQ.out]; rfl, HB.out⟩
  | true =>
  cases b3 with
  | false =>
    go_enter Tryd.func11, Tryd.ntmps11
    go_wp2_with fail
    refine (H1.out _).mono ?_
    rintro e w1 ⟨rfl, rfl⟩
    go_wp2_with fail
    refine (H2.out _).mono ?_
    rintro e w1 ⟨rfl, rfl⟩
    go_wp2_with fail
    refine (H3.out _).mono ?_
    rintro e w1 ⟨rfl, rfl⟩
    go_wp2_with fail
    go_ret
    exact ⟨by rw [HQ.out]; rfl, HB.out⟩
  | true =>
    by_cases ht : 0 < t
    · have hd : decide (0 < t) = true := by simp [ht]
      go_enter Tryd.func11, Tryd.ntmps11
      go_wp2_with fail
      refine (H1.out _).mono ?_
      rintro e w1 ⟨rfl, rfl⟩
      go_wp2_with fail
      refine (H2.out _).mono ?_
      rintro e w1 ⟨rfl, rfl⟩
      go_wp2_with fail
      refine (H3.out _).mono ?_
      rintro e w1 ⟨rfl, rfl⟩
      go_wp2_with fail
      go_ret
      exact ⟨by rw [HQ.out]; simp [ht], HB.out⟩
    · have hd : decide (0 < t) = false := by simp; omega
      have HQ2 : Hid (q = (r == 4)) := Lib.hid (by rw [HQ.out, hd, Bool.eq_iff_iff]; simp)
      clear ht
      go_enter Tryd.func11, Tryd.ntmps11
      go_wp2_with fail
      refine (H1.out _).mono ?_
      rintro e w1 ⟨rfl, rfl⟩
      go_wp2_with fail
      refine (H2.out _).mono ?_
      rintro e w1 ⟨rfl, rfl⟩
      go_wp2_with fail
      refine (H3.out _).mono ?_
      rintro e w1 ⟨rfl, rfl⟩
      go_wp2_with fail
      go_ret
      exact ⟨by rw [HQ2.out]; rfl, HB.out⟩

set_option maxRecDepth 100000 in
set_option maxHeartbeats 4000000 in
theorem isFnd_any (r s t : Int) (w : World) : Calls Tryd.prog 13 #[.agg #[.int .i64 r, .int .i64 s, .int .i64 t]] w (BoolP w (goodF r s t)) := by
  have HB := Lib.hid (below_one w (.cells #[.int .i64 r, .int .i64 s, .int .i64 t] 26))
  have HQ : Hid (goodF r s t = ((inE 1 4 r && (inE 0 5 s && inE 0 3 t)) && (decide (0 < t) || decide (r = 4)))) := Lib.hid rfl
  generalize goodF r s t = q at *
  by_cases h4 : r = 4
  · subst h4
    by_cases k1 : 0 ≤ s
    · by_cases k2 : s < 6
      · by_cases k3 : 0 ≤ t
        · by_cases k4 : t < 4
          · have hq : Hid (q = true) := Lib.hid (by rw [HQ.out]; simp [inE]; omega)
            go_enter Tryd.func13, Tryd.ntmps13
            go_wp2_with fail
            go_ret
            exact ⟨by rw [hq.out]; simp, HB.out⟩
          · have hq : Hid (q = false) := Lib.hid (by rw [HQ.out]; simp [inE]; omega)
            have hd : decide (t < 4) = false := by simp; omega
            clear k4
            go_enter Tryd.func13, Tryd.ntmps13
            go_wp2_with fail
            go_ret
            exact ⟨by rw [hq.out]; simp, HB.out⟩
        · have hq : Hid (q = false) := Lib.hid (by rw [HQ.out]; simp [inE]; omega)
          have hd : decide (0 ≤ t) = false := by simp; omega
          clear k3
          go_enter Tryd.func13, Tryd.ntmps13
          go_wp2_with fail
          go_ret
          exact ⟨by rw [hq.out]; simp, HB.out⟩
      · have hq : Hid (q = false) := Lib.hid (by rw [HQ.out]; simp [inE]; omega)
        have hd : decide (s < 6) = false := by simp; omega
        clear k2
        go_enter Tryd.func13, Tryd.ntmps13
        go_wp2_with fail
        go_ret
        exact ⟨by rw [hq.out]; simp, HB.out⟩
    · have hq : Hid (q = false) := Lib.hid (by rw [HQ.out]; simp [inE]; omega)
      have hd : decide (0 ≤ s) = false := by simp; omega
      clear k1
      go_enter Tryd.func13, Tryd.ntmps13
      go_wp2_with fail
      go_ret
      exact ⟨by rw [hq.out]; simp, HB.out⟩
  · have hd4 : (r == 4) = false := by simpa using h4
    by_cases j1 : 1 ≤ r
    · by_cases j2 : r ≤ 4
      · by_cases k1 : 0 ≤ s
        · by_cases k2 : s < 6
          · by_cases k3 : 1 ≤ t
            · by_cases k4 : t < 4
              · have hq : Hid (q = true) := Lib.hid (by rw [HQ.out]; simp [inE]; omega)
                clear h4
                go_enter Tryd.func13, Tryd.ntmps13
                go_wp2_with fail
                go_ret
                exact ⟨by rw [hq.out]; simp, HB.out⟩
              · have hq : Hid (q = false) := Lib.hid (by rw [HQ.out]; simp [inE]; omega)
                have hd : decide (t < 4) = false := by simp; omega
                clear k4 h4
                go_enter Tryd.func13, Tryd.ntmps13
                go_wp2_with fail
                go_ret
                exact ⟨by rw [hq.out]; simp, HB.out⟩
            · have hq : Hid (q = false) := Lib.hid (by rw [HQ.out]; simp [inE]; omega)
              have hd : decide (1 ≤ t) = false := by simp; omega
              clear k3 h4
              go_enter Tryd.func13, Tryd.ntmps13
              go_wp2_with fail
              go_ret
              exact ⟨by rw [hq.out]; simp, HB.out⟩
          · have hq : Hid (q = false) := Lib.hid (by rw [HQ.out]; simp [inE]; omega)
            have hd : decide (s < 6) = false := by simp; omega
            clear k2 h4
            go_enter Tryd.func13, Tryd.ntmps13
            go_wp2_with fail
            go_ret
            exact ⟨by rw [hq.out]; simp, HB.out⟩
        · have hq : Hid (q = false) := Lib.hid (by rw [HQ.out]; simp [inE]; omega)
          have hd : decide (0 ≤ s) = false := by simp; omega
          clear k1 h4
          go_enter Tryd.func13, Tryd.ntmps13
          go_wp2_with fail
          go_ret
          exact ⟨by rw [hq.out]; simp, HB.out⟩
      · have hq : Hid (q = false) := Lib.hid (by rw [HQ.out]; simp [inE]; omega)
        have hd : decide (r ≤ 4) = false := by simp; omega
        clear j2 h4
        go_enter Tryd.func13, Tryd.ntmps13
        go_wp2_with fail
        go_ret
        exact ⟨by rw [hq.out]; simp, HB.out⟩
    · have hq : Hid (q = false) := Lib.hid (by rw [HQ.out]; simp [inE]; omega)
      have hd : decide (1 ≤ r) = false := by simp; omega
      clear j1 h4
      go_enter Tryd.func13, Tryd.ntmps13
      go_wp2_with fail
      go_ret
      exact ⟨by rw [hq.out]; simp, HB.out⟩
end Go.Proofs.YtcpelnnadabnpaaDoor
