/-
  What the two BallastFor return. No statement of the seat by itself.
-/
import Derived.Test.YtndafdjllbhbfaaLdW
namespace Go.Proofs.Ytndafdjllbhbfaa
open Go.RowKit

theorem flipB {P : Program} {f : FuncId} {args : Array Value} {w : World} {v : Value} (h : Calls P f args w fun e w' => e = .returned v ∧ w = w') : Calls P f args w fun e w' => e = .returned v ∧ w' = w := h.mono fun _ _ ⟨a, b⟩ => ⟨a, b.symm⟩
/-- Whether ballast was asked for with good numbers. -/
def askBa (S : List (Int × Int × Int)) (a t : Int) : Prop := goodLd S = true ∧ (1 ≤ a ∧ a ≤ 200) ∧ 0 ≤ t ∧ t ≤ 1000000
instance (S : List (Int × Int × Int)) (a t : Int) : Decidable (askBa S a t) := inferInstanceAs (Decidable (_ ∧ _))
/-- The ballast for a moment. -/
def balN (m a : Nat) (t : Int) : Int := min (if (a : Int) - ((m % a : Nat) : Int) < ((m % a : Nat) : Int) then ((m / a : Nat) : Int) + 1 else ((m / a : Nat) : Int)) t
def baV (S : List (Int × Int × Int)) (a t : Int) : Int × Bool := if askBa S a t then (balN (sA S).natAbs a.toNat t, true) else (0, false)
theorem baV_no {S : List (Int × Int × Int)} {a t : Int} (h : ¬ askBa S a t) : baV S a t = (0, false) := by unfold baV; rw [if_neg h]
theorem baV_yes {S : List (Int × Int × Int)} {a t : Int} (h : askBa S a t) : baV S a t = (balN (sA S).natAbs a.toNat t, true) := by unfold baV; rw [if_pos h]
theorem quo_le (m a : Nat) : m / a ≤ m := Nat.div_le_self m a

set_option maxRecDepth 100000 in
set_option maxHeartbeats 4000000 in
theorem implBa_any (v : Value) (S : List (Int × Int × Int)) (a t : Int) (hn : S.length ≤ 1048576) (w : World) (hv : LdL w v S) :
    Calls Try.prog 30 #[v, .int .i64 a, .int .i64 t] w (RetG1 w (baV S a t)) := by
  have HM := Lib.hid (implMom_any v S hn w hv)
  obtain ⟨a0, c, rfl⟩ := hv.form
  clear hv
  cases hg : goodLd S with
  | false =>
    rw [mom_no hg] at HM
    rw [baV_no fun h => by rw [h.1] at hg; cases hg]
    clear hg
    go_enter Try.func30, Try.ntmps30
    go_wp2_with fail
    refine HM.out.mono ?_
    rintro e w1 ⟨rfl, hb⟩
    have HB := Lib.hid hb
    clear hb
    go_wp2_with fail
    go_ret2
    exact ⟨rfl, HB.out⟩
  | true =>
    rw [mom_yes hg] at HM
    by_cases q1 : a < 1
    · rw [baV_no fun h => by have := h.2.1; omega]
      clear hg
      go_enter Try.func30, Try.ntmps30
      go_wp2_with fail
      refine HM.out.mono ?_
      rintro e w1 ⟨rfl, hb⟩
      have HB := Lib.hid hb
      clear hb
      go_wp2_with fail
      go_ret2
      exact ⟨rfl, HB.out⟩
    by_cases q2 : 200 < a
    · rw [baV_no fun h => by have := h.2.1; omega]
      clear hg
      go_enter Try.func30, Try.ntmps30
      go_wp2_with fail
      refine HM.out.mono ?_
      rintro e w1 ⟨rfl, hb⟩
      have HB := Lib.hid hb
      clear hb
      go_wp2_with fail
      go_ret2
      exact ⟨rfl, HB.out⟩
    by_cases q3 : t < 0
    · rw [baV_no fun h => by have := h.2.2; omega]
      clear hg
      go_enter Try.func30, Try.ntmps30
      go_wp2_with fail
      refine HM.out.mono ?_
      rintro e w1 ⟨rfl, hb⟩
      have HB := Lib.hid hb
      clear hb
      go_wp2_with fail
      go_ret2
      exact ⟨rfl, HB.out⟩
    by_cases q4 : 1000000 < t
    · rw [baV_no fun h => by have := h.2.2; omega]
      clear hg
      go_enter Try.func30, Try.ntmps30
      go_wp2_with fail
      refine HM.out.mono ?_
      rintro e w1 ⟨rfl, hb⟩
      have HB := Lib.hid hb
      clear hb
      go_wp2_with fail
      go_ret2
      exact ⟨rfl, HB.out⟩
    rw [baV_yes ⟨hg, by omega, by omega⟩]
    have k := sums_all hg
    have HA := Lib.hid (fun W => absolute_any (sA S) (by omega) W)
    obtain ⟨b, hb⟩ : ∃ b : Nat, a = (b : Int) := ⟨a.toNat, by omega⟩
    subst hb
    obtain ⟨m, hm⟩ : ∃ m, (sA S).natAbs = m := ⟨_, rfl⟩
    have hm1 : m ≤ 128000000 := by omega
    rw [hm] at HA ⊢
    simp only [Int.toNat_natCast, balN]
    generalize sA S = x at *
    have hqm := quo_le m b
    have hrb : m % b < b := Nat.mod_lt m (by omega)
    obtain ⟨q, hq⟩ : ∃ q, m / b = q := ⟨_, rfl⟩
    obtain ⟨r, hr⟩ : ∃ r, m % b = r := ⟨_, rfl⟩
    rw [hq, hr]
    rw [hq] at hqm
    rw [hr] at hrb
    have f1 : (m : Int).tdiv (b : Int) = (q : Int) := by rw [← hq]; rfl
    have f2 : (m : Int).tmod (b : Int) = (r : Int) := by rw [← hr]; rfl
    have f3 : ¬ (b : Int) = 0 := by omega
    have f4 : ¬ b = 0 := by omega
    have f5 : ((b : Int) == 0) = false := by simp; omega
    clear hg k hm hq hr
    by_cases hc : (b : Int) - (r : Int) < (r : Int)
    · by_cases ht : (q : Int) + 1 ≤ t
      · rw [if_pos hc, show min ((q : Int) + 1) t = (q : Int) + 1 by omega]
        go_enter Try.func30, Try.ntmps30
        go_wp2_with fail
        refine HM.out.mono ?_
        rintro e w1 ⟨rfl, hb⟩
        have HB := Lib.hid hb
        clear hb
        go_wp2_with fail
        go_quiet ((go_at_call 72; exact Calls.quiet_of_same (flipB (HA.out _))))
        go_wp2_with fail
        go_ret2
        exact ⟨by first | rfl | simp, below_drewN HB.out _⟩
      · rw [if_pos hc, show min ((q : Int) + 1) t = t by omega]
        go_enter Try.func30, Try.ntmps30
        go_wp2_with fail
        refine HM.out.mono ?_
        rintro e w1 ⟨rfl, hb⟩
        have HB := Lib.hid hb
        clear hb
        go_wp2_with fail
        go_quiet ((go_at_call 72; exact Calls.quiet_of_same (flipB (HA.out _))))
        go_wp2_with fail
        go_ret2
        exact ⟨by first | rfl | simp, below_drewN HB.out _⟩
    · by_cases ht : (q : Int) ≤ t
      · rw [if_neg hc, show min ((q : Int)) t = (q : Int) by omega]
        go_enter Try.func30, Try.ntmps30
        go_wp2_with fail
        refine HM.out.mono ?_
        rintro e w1 ⟨rfl, hb⟩
        have HB := Lib.hid hb
        clear hb
        go_wp2_with fail
        go_quiet ((go_at_call 72; exact Calls.quiet_of_same (flipB (HA.out _))))
        go_wp2_with fail
        go_ret2
        exact ⟨by first | rfl | simp, below_drewN HB.out _⟩
      · rw [if_neg hc, show min ((q : Int)) t = t by omega]
        go_enter Try.func30, Try.ntmps30
        go_wp2_with fail
        refine HM.out.mono ?_
        rintro e w1 ⟨rfl, hb⟩
        have HB := Lib.hid hb
        clear hb
        go_wp2_with fail
        go_quiet ((go_at_call 72; exact Calls.quiet_of_same (flipB (HA.out _))))
        go_wp2_with fail
        go_ret2
        exact ⟨by first | rfl | simp, below_drewN HB.out _⟩

theorem l1Least2_any (a b : Int) (w : World) : Calls Try.prog 74 #[.int .i64 a, .int .i64 b] w fun e w' => e = .returned (.int .i64 (min a b)) ∧ w = w' := by
  by_cases h : a < b
  · have hm : min a b = a := by omega
    rw [hm]
    go_enter Try.func74, Try.ntmps74
    go_wp2_with fail
    go_ret
    exact ⟨rfl, rfl⟩
  · have hm : min a b = b := by omega
    rw [hm]
    go_enter Try.func74, Try.ntmps74
    go_wp2_with fail
    go_ret
    exact ⟨rfl, rfl⟩

set_option maxRecDepth 100000 in
set_option maxHeartbeats 8000000 in
theorem specBa_any (v : Value) (S : List (Int × Int × Int)) (a t : Int) (hn : S.length ≤ 1048576) (w : World) (hv : LdL w v S) :
    Calls Try.prog 31 #[v, .int .i64 a, .int .i64 t] w (RetG1 w (baV S a t)) := by
  have HG := Lib.hid (l11Good_any v S hn w hv)
  have HV := Lib.hid hv
  obtain ⟨a0, c, rfl⟩ := hv.form
  clear hv
  cases hg : goodLd S with
  | false =>
    rw [hg] at HG
    rw [baV_no fun h => by rw [h.1] at hg; cases hg]
    clear hg
    go_enter Try.func31, Try.ntmps31
    go_wp2_with fail
    refine HG.out.mono ?_
    rintro e w1 ⟨rfl, hb⟩
    have HB := Lib.hid hb
    clear hb
    go_wp2_with fail
    go_ret2
    exact ⟨rfl, HB.out⟩
  | true =>
    have HM := Lib.hid (fun (u : Value) W (hW : LdL W u S) => l11Moments_any u S hg W hW)
    rw [hg] at HG
    by_cases q1 : 1 ≤ a ∧ a ≤ 200
    case neg =>
      have H1 := Lib.hid (fun W => l1In_no a 1 200 W (by omega))
      rw [baV_no fun h => q1 h.2.1]
      clear hg q1
      go_enter Try.func31, Try.ntmps31
      go_wp2_with fail
      refine HG.out.mono ?_
      rintro e w1 ⟨rfl, hb⟩
      have HB := Lib.hid hb
      clear hb
      go_wp2_with fail
      refine (H1.out _).mono ?_
      rintro e w2 ⟨rfl, rfl⟩
      go_wp2_with fail
      go_ret2
      exact ⟨rfl, HB.out⟩
    have H1 := Lib.hid (fun W => l1In_yes a 1 200 W q1.1 q1.2)
    by_cases q3 : 0 ≤ t ∧ t ≤ 1000000
    case neg =>
      have H2 := Lib.hid (fun W => l1In_no t 0 1000000 W (by omega))
      rw [baV_no fun h => q3 h.2.2]
      clear hg q1 q3
      go_enter Try.func31, Try.ntmps31
      go_wp2_with fail
      refine HG.out.mono ?_
      rintro e w1 ⟨rfl, hb⟩
      have HB := Lib.hid hb
      clear hb
      go_wp2_with fail
      refine (H1.out _).mono ?_
      rintro e w2 ⟨rfl, rfl⟩
      go_wp2_with fail
      refine (H2.out _).mono ?_
      rintro e w2 ⟨rfl, rfl⟩
      go_wp2_with fail
      go_ret2
      exact ⟨rfl, HB.out⟩
    have H2 := Lib.hid (fun W => l1In_yes t 0 1000000 W q3.1 q3.2)
    rw [baV_yes ⟨hg, q1, q3⟩]
    have k := sums_all hg
    have HA := Lib.hid (fun W => l11Abs_any (sA S) (by omega) W)
    obtain ⟨b, hb⟩ : ∃ b : Nat, a = (b : Int) := ⟨a.toNat, by omega⟩
    subst hb
    obtain ⟨m, hm⟩ : ∃ m, (sA S).natAbs = m := ⟨_, rfl⟩
    have hm1 : m ≤ 128000000 := by omega
    rw [hm] at HA ⊢
    simp only [Int.toNat_natCast, balN]
    generalize sA S = x at *
    generalize sW S = y at *
    generalize sU S = z at *
    have hqm := quo_le m b
    have hrb : m % b < b := Nat.mod_lt m (by omega)
    have hdm : (b : Int) * ((m / b : Nat) : Int) + ((m % b : Nat) : Int) = (m : Int) := by
      have := Nat.div_add_mod m b
      exact_mod_cast this
    obtain ⟨q, hq⟩ : ∃ q, m / b = q := ⟨_, rfl⟩
    obtain ⟨r, hr⟩ : ∃ r, m % b = r := ⟨_, rfl⟩
    rw [hq, hr] at hdm ⊢
    rw [hq] at hqm
    rw [hr] at hrb
    have f1 : (m : Int).tdiv (b : Int) = (q : Int) := by rw [← hq]; rfl
    have f2 : (m : Int) / (b : Int) = (q : Int) := by rw [← hq]; rfl
    have f3 : ¬ (b : Int) = 0 := by omega
    have f4 : ¬ b = 0 := by omega
    have f5 : ((b : Int) == 0) = false := by simp; omega
    have HL := Lib.hid (fun W => l1Least2_any (q : Int) t W)
    by_cases ht : (q : Int) < t
    · rw [show min (q : Int) t = (q : Int) by omega] at HL
      have p1 : (q : Int) * (b : Int) = (m : Int) - (r : Int) := by rw [Int.mul_comm]; omega
      have p2 : ((q : Int) + 1) * (b : Int) = (m : Int) - (r : Int) + (b : Int) := by rw [Int.add_mul, p1]; omega
      have f6 : IntKind.i64.wrap ((q : Int) * (b : Int)) = (m : Int) - (r : Int) := by rw [p1, IntKind.wrap_i64]; omega
      have f7 : IntKind.i64.wrap (((q : Int) + 1) * (b : Int)) = (m : Int) - (r : Int) + (b : Int) := by rw [p2, IntKind.wrap_i64]; omega
      obtain ⟨u, hu⟩ : ∃ u : Int, (m : Int) - ((m : Int) - (r : Int) + (b : Int)) = u := ⟨_, rfl⟩
      obtain ⟨u2, hu2⟩ : ∃ u : Int, (m : Int) - ((m : Int) - (r : Int)) = u := ⟨_, rfl⟩
      have f8 : IntKind.i64.wrap u = u := by rw [IntKind.wrap_i64]; omega
      have f9 : IntKind.i64.wrap u2 = u2 := by rw [IntKind.wrap_i64]; omega
      have HA1 := Lib.hid (fun W => l11Abs_any u (by omega) W)
      have HA2 := Lib.hid (fun W => l11Abs_any u2 (by omega) W)
      rw [show ((u.natAbs : Nat) : Int) = (b : Int) - (r : Int) by omega] at HA1
      rw [show ((u2.natAbs : Nat) : Int) = (r : Int) by omega] at HA2
      clear hg k hm hq hr q1 q3 hdm p1 p2
      by_cases hc : (b : Int) - (r : Int) < (r : Int)
      · rw [if_pos hc, show min ((q : Int) + 1) t = (q : Int) + 1 by omega]
        go_enter Try.func31, Try.ntmps31
        go_wp2_with fail
        refine HG.out.mono ?_
        rintro e w1 ⟨rfl, hb⟩
        have HB := Lib.hid hb
        clear hb
        go_wp2_with fail
        refine (H1.out _).mono ?_
        rintro e w2 ⟨rfl, rfl⟩
        go_wp2_with fail
        refine (H2.out _).mono ?_
        rintro e w2 ⟨rfl, rfl⟩
        go_wp2_with fail
        refine (HM.out _ _ (HV.out.below HB.out)).mono ?_
        rintro e w2 ⟨rfl, hb⟩
        have HB2 := Lib.hid (HB.out.trans (hb.mono HB.out.size))
        clear hb
        go_wp2_with fail
        refine (HA.out _).mono ?_
        rintro e w3 ⟨rfl, rfl⟩
        go_wp2_with fail
        refine (HL.out _).mono ?_
        rintro e w3 ⟨rfl, rfl⟩
        go_wp2_with fail
        refine (HA1.out _).mono ?_
        rintro e w3 ⟨rfl, rfl⟩
        go_wp2_with fail
        refine (HA2.out _).mono ?_
        rintro e w3 ⟨rfl, rfl⟩
        go_wp2_with fail
        go_ret2
        exact ⟨by first | rfl | simp, HB2.out⟩
      · rw [if_neg hc, show min (q : Int) t = (q : Int) by omega]
        go_enter Try.func31, Try.ntmps31
        go_wp2_with fail
        refine HG.out.mono ?_
        rintro e w1 ⟨rfl, hb⟩
        have HB := Lib.hid hb
        clear hb
        go_wp2_with fail
        refine (H1.out _).mono ?_
        rintro e w2 ⟨rfl, rfl⟩
        go_wp2_with fail
        refine (H2.out _).mono ?_
        rintro e w2 ⟨rfl, rfl⟩
        go_wp2_with fail
        refine (HM.out _ _ (HV.out.below HB.out)).mono ?_
        rintro e w2 ⟨rfl, hb⟩
        have HB2 := Lib.hid (HB.out.trans (hb.mono HB.out.size))
        clear hb
        go_wp2_with fail
        refine (HA.out _).mono ?_
        rintro e w3 ⟨rfl, rfl⟩
        go_wp2_with fail
        refine (HL.out _).mono ?_
        rintro e w3 ⟨rfl, rfl⟩
        go_wp2_with fail
        refine (HA1.out _).mono ?_
        rintro e w3 ⟨rfl, rfl⟩
        go_wp2_with fail
        refine (HA2.out _).mono ?_
        rintro e w3 ⟨rfl, rfl⟩
        go_wp2_with fail
        go_ret2
        exact ⟨by first | rfl | simp, HB2.out⟩
    · rw [show min (q : Int) t = t by omega] at HL
      rw [show min (if (b : Int) - (r : Int) < (r : Int) then (q : Int) + 1 else (q : Int)) t = t by split <;> omega]
      clear hg k hm hq hr q1 q3 hdm
      go_enter Try.func31, Try.ntmps31
      go_wp2_with fail
      refine HG.out.mono ?_
      rintro e w1 ⟨rfl, hb⟩
      have HB := Lib.hid hb
      clear hb
      go_wp2_with fail
      refine (H1.out _).mono ?_
      rintro e w2 ⟨rfl, rfl⟩
      go_wp2_with fail
      refine (H2.out _).mono ?_
      rintro e w2 ⟨rfl, rfl⟩
      go_wp2_with fail
      refine (HM.out _ _ (HV.out.below HB.out)).mono ?_
      rintro e w2 ⟨rfl, hb⟩
      have HB2 := Lib.hid (HB.out.trans (hb.mono HB.out.size))
      clear hb
      go_wp2_with fail
      refine (HA.out _).mono ?_
      rintro e w3 ⟨rfl, rfl⟩
      go_wp2_with fail
      refine (HL.out _).mono ?_
      rintro e w3 ⟨rfl, rfl⟩
      go_wp2_with fail
      go_ret2
      exact ⟨by first | rfl | simp, HB2.out⟩
end Go.Proofs.Ytndafdjllbhbfaa
