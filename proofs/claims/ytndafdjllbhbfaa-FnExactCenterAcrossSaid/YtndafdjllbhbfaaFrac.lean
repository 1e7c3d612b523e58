/-
  Absolute values, the greatest common divisor and fractions in lowest terms, in the program and in the reference. No statement of the seat by itself.
-/
import Derived.Test.YtndafdjllbhbfaaRet
namespace Go.Proofs.Ytndafdjllbhbfaa
open Go.RowKit

/-- A fraction in lowest terms. -/
def frN (a b : Int) : Int := a.tdiv (Int.gcd a b)
def frD (a b : Int) : Int := b.tdiv (Int.gcd a b)
theorem gcd_pos {a b : Int} (h : 0 < b) : 0 < Int.gcd a b := Int.gcd_pos_of_ne_zero_right a (by omega)
theorem fr_left (a b : Int) (h : 0 < b) : a = (Int.gcd a b : Int) * frN a b := by
  have hg := gcd_pos (a := a) h
  obtain ⟨c, hc⟩ := Int.gcd_dvd_left (a := a) (b := b)
  have e : frN a b = c := by
    unfold frN
    conv => lhs; arg 1; rw [hc]
    exact Int.mul_tdiv_cancel_left c (by omega)
  rw [e]; exact hc
theorem fr_right (a b : Int) (h : 0 < b) : b = (Int.gcd a b : Int) * frD a b := by
  have hg := gcd_pos (a := a) h
  obtain ⟨c, hc⟩ := Int.gcd_dvd_right (a := a) (b := b)
  have e : frD a b = c := by
    unfold frD
    conv => lhs; arg 1; rw [hc]
    exact Int.mul_tdiv_cancel_left c (by omega)
  rw [e]; exact hc
theorem part_le {g : Nat} {a c : Int} (hg : 0 < g) (h : a = (g : Int) * c) : c.natAbs ≤ a.natAbs := by
  rw [h, Int.natAbs_mul, Int.natAbs_natCast]
  exact Nat.le_mul_of_pos_left _ hg
theorem frN_le (a b : Int) (h : 0 < b) : (frN a b).natAbs ≤ a.natAbs := part_le (gcd_pos h) (fr_left a b h)
theorem frD_le (a b : Int) (h : 0 < b) : (frD a b).natAbs ≤ b.natAbs := part_le (gcd_pos h) (fr_right a b h)
theorem frD_pos (a b : Int) (h : 0 < b) : 0 < frD a b := by
  have e := fr_right a b h
  have hg := gcd_pos (a := a) h
  rcases Int.lt_or_le 0 (frD a b) with p | p
  · exact p
  · have := Int.mul_nonpos_of_nonneg_of_nonpos (Int.natCast_nonneg (Int.gcd a b)) p
    omega
theorem fr_scale (g : Nat) (hg : 0 < g) (x y : Int) : frN ((g : Int) * x) ((g : Int) * y) = frN x y ∧ frD ((g : Int) * x) ((g : Int) * y) = frD x y := by
  unfold frN frD
  have e : ((Int.gcd ((g : Int) * x) ((g : Int) * y) : Nat) : Int) = (g : Int) * (Int.gcd x y : Int) := by
    rw [Int.gcd_mul_left, Int.natAbs_natCast]; simp
  rw [e]
  exact ⟨Int.mul_tdiv_mul_of_pos _ _ (by omega), Int.mul_tdiv_mul_of_pos _ _ (by omega)⟩
/-- A difference with a fraction in lowest terms, brought to lowest terms. -/
theorem fr_minus (m a b : Int) (h : 0 < b) : frN (m * frD a b - frN a b) (frD a b) = frN (m * b - a) b ∧ frD (m * frD a b - frN a b) (frD a b) = frD (m * b - a) b := by
  have hg := gcd_pos (a := a) h
  have ha := fr_left a b h
  have hb := fr_right a b h
  have k := fr_scale (Int.gcd a b) hg (m * frD a b - frN a b) (frD a b)
  have e : (Int.gcd a b : Int) * (m * frD a b - frN a b) = m * b - a := by
    rw [Int.mul_sub, ← ha, Int.mul_left_comm, ← hb]
  rw [e, ← hb] at k
  exact ⟨k.1.symm, k.2.symm⟩
theorem gcd_next (x y : Nat) : Nat.gcd y (x % y) = Nat.gcd x y := by
  rw [Nat.gcd_comm x y, Nat.gcd_rec y x, Nat.gcd_comm]

theorem l1Most_any (a b : Int) (w : World) : Calls Try.prog 82 #[.int .i64 a, .int .i64 b] w fun e w' => e = .returned (.int .i64 (max a b)) ∧ w = w' := by
  by_cases h : b < a
  · have hm : max a b = a := by omega
    rw [hm]
    go_enter Try.func82, Try.ntmps82
    go_wp2_with fail
    go_ret
    exact ⟨rfl, rfl⟩
  · have hm : max a b = b := by omega
    rw [hm]
    go_enter Try.func82, Try.ntmps82
    go_wp2_with fail
    go_ret
    exact ⟨rfl, rfl⟩
theorem l11Abs_any (x : Int) (h : x.natAbs ≤ 1000000000000000) (w : World) : Calls Try.prog 73 #[.int .i64 x] w fun e w' => e = .returned (.int .i64 (x.natAbs : Int)) ∧ w = w' := by
  have HM := Lib.hid (l1Most_any x (-x) w)
  rw [show max x (-x) = (x.natAbs : Int) by omega] at HM
  have h1 : -1000000000000000 ≤ x := by omega
  have h2 : x ≤ 1000000000000000 := by omega
  clear h
  go_enter Try.func73, Try.ntmps73
  go_wp2_with fail
  refine HM.out.mono ?_
  rintro e w1 ⟨rfl, rfl⟩
  go_wp2_with fail
  go_ret
  exact ⟨rfl, rfl⟩
theorem absolute_any (x : Int) (h : x.natAbs ≤ 1000000000000000) (w : World) : Calls Try.prog 72 #[.int .i64 x] w fun e w' => e = .returned (.int .i64 (x.natAbs : Int)) ∧ w = w' := by
  have h1 : -1000000000000000 ≤ x := by omega
  have h2 : x ≤ 1000000000000000 := by omega
  clear h
  by_cases h0 : 0 ≤ x
  · have e1 : (x.natAbs : Int) = x := by omega
    have e2 : (-x ≤ x) := by omega
    rw [e1]
    go_enter Try.func72, Try.ntmps72
    go_wp2_with fail
    go_ret
    exact ⟨by first | rfl | (refine ret_i ?_; omega), rfl⟩
  · have e1 : (x.natAbs : Int) = -x := by omega
    have e2 : ¬ (-x ≤ x) := by omega
    rw [e1]
    go_enter Try.func72, Try.ntmps72
    go_wp2_with fail
    go_ret
    exact ⟨by first | rfl | (refine ret_i ?_; omega), rfl⟩

set_option maxHeartbeats 2000000 in
theorem greatestDivisor_any (x y : Nat) (hx : x ≤ 1000000000000000) (hy : y ≤ 1000000000000000) (w : World) :
    Calls Try.prog 77 #[.int .i64 (x : Int), .int .i64 (y : Int)] w fun e w' => e = .returned (.int .i64 (Nat.gcd x y : Int)) ∧ Below w.heap.size w w' := by
  obtain ⟨g, hg⟩ : ∃ g, Nat.gcd x y = g := ⟨_, rfl⟩
  have HG := Lib.hid hg
  rw [hg]
  clear hg
  go_enter Try.func77, Try.ntmps77
  go_wp2_with fail
  go_loopw [0, 1] (fun a b wr => ∃ (x y : Nat), x ≤ 1000000000000000 ∧ y ≤ 1000000000000000 ∧ a = .int .i64 x ∧ b = .int .i64 y ∧ Hid (Nat.gcd x y = g) ∧ Hid (Below w.heap.size w wr)) (fun _ b _ => (intOf b).toNat)
  case atStart => exact ⟨x, y, hx, hy, rfl, rfl, HG, Lib.hid (Below.refl _ _)⟩
  case round =>
    obtain ⟨s, t, hs, ht, rfl, rfl, HK, HB⟩ := hrel
    by_cases h0 : t = 0
    · subst h0
      have HE := Lib.hid (show s = g by rw [← HK.out, Nat.gcd_zero_right])
      go_wp2_with fail
      go_ret
      exact ⟨ret_i (by rw [HE.out]), HB.out⟩
    · have h1 : (0 : Int) < (t : Int) := by omega
      have h2 : ((t : Int) == 0) = false := by simp; omega
      obtain ⟨r, hr⟩ : ∃ r, s % t = r := ⟨_, rfl⟩
      have hrt : r < t := by rw [← hr]; exact Nat.mod_lt _ (by omega)
      have HK2 : Hid (Nat.gcd t r = g) := Lib.hid (by rw [← hr, gcd_next]; exact HK.out)
      have f1 : (s : Int).tmod (t : Int) = (r : Int) := by rw [← hr]; rfl
      have f2 : (s : Int) % (t : Int) = (r : Int) := by rw [← hr]; rfl
      have h3 : ¬ t = 0 := h0
      have h4 : ¬ (t : Int) = 0 := by omega
      clear hr
      go_wp2_with fail
      go_quiet (fail)
      go_wp2_with fail
      exact ⟨⟨t, r, by omega, by omega, rfl, rfl, HK2, Lib.hid (below_drewN HB.out _)⟩, by simp [intOf]; omega⟩

set_option maxHeartbeats 2000000 in
theorem l15Common_any (a b : Int) (ha : a.natAbs ≤ 1000000000000000) (hb : b.natAbs ≤ 1000000000000000) (w : World) :
    Calls Try.prog 78 #[.int .i64 a, .int .i64 b] w fun e w' => e = .returned (.int .i64 (Int.gcd a b : Int)) ∧ Below w.heap.size w w' := by
  obtain ⟨g, hg⟩ : ∃ g, Int.gcd a b = g := ⟨_, rfl⟩
  have HG : Hid (Nat.gcd a.natAbs b.natAbs = g) := Lib.hid (by rw [← hg]; rfl)
  rw [hg]
  have HM1 := Lib.hid (fun W => l1Most_any a (-a) W)
  have HM2 := Lib.hid (fun W => l1Most_any b (-b) W)
  rw [show max a (-a) = (a.natAbs : Int) by omega] at HM1
  rw [show max b (-b) = (b.natAbs : Int) by omega] at HM2
  have a1 : -1000000000000000 ≤ a := by omega
  have a2 : a ≤ 1000000000000000 := by omega
  have b1 : -1000000000000000 ≤ b := by omega
  have b2 : b ≤ 1000000000000000 := by omega
  obtain ⟨x, hx⟩ : ∃ x, a.natAbs = x := ⟨_, rfl⟩
  obtain ⟨y, hy⟩ : ∃ y, b.natAbs = y := ⟨_, rfl⟩
  rw [hx] at HM1 ha HG
  rw [hy] at HM2 hb HG
  have hx := ha
  have hy := hb
  clear hg ha hb
  go_enter Try.func78, Try.ntmps78
  go_wp2_with fail
  refine (HM1.out _).mono ?_
  rintro e w1 ⟨rfl, rfl⟩
  go_wp2_with fail
  refine (HM2.out _).mono ?_
  rintro e w1 ⟨rfl, rfl⟩
  go_wp2_with fail
  go_loopw [0, 1] (fun a b wr => ∃ (x y : Nat), x ≤ 1000000000000000 ∧ y ≤ 1000000000000000 ∧ a = .int .i64 x ∧ b = .int .i64 y ∧ Hid (Nat.gcd x y = g) ∧ Hid (Below w.heap.size w wr)) (fun _ b _ => (intOf b).toNat)
  case atStart => exact ⟨x, y, hx, hy, rfl, rfl, HG, Lib.hid (Below.refl _ _)⟩
  case round =>
    obtain ⟨s, t, hs, ht, rfl, rfl, HK, HB⟩ := hrel
    by_cases h0 : t = 0
    · subst h0
      have HE := Lib.hid (show s = g by rw [← HK.out, Nat.gcd_zero_right])
      go_wp2_with fail
      go_ret
      exact ⟨ret_i (by rw [HE.out]), HB.out⟩
    · have h1 : (0 : Int) < (t : Int) := by omega
      have h2 : ((t : Int) == 0) = false := by simp; omega
      obtain ⟨r, hr⟩ : ∃ r, s % t = r := ⟨_, rfl⟩
      have hrt : r < t := by rw [← hr]; exact Nat.mod_lt _ (by omega)
      have HK2 : Hid (Nat.gcd t r = g) := Lib.hid (by rw [← hr, gcd_next]; exact HK.out)
      have f1 : (s : Int).tmod (t : Int) = (r : Int) := by rw [← hr]; rfl
      have f2 : (s : Int) % (t : Int) = (r : Int) := by rw [← hr]; rfl
      have h3 : ¬ t = 0 := h0
      have h4 : ¬ (t : Int) = 0 := by omega
      clear hr
      go_wp2_with fail
      exact ⟨⟨t, r, by omega, by omega, rfl, rfl, HK2, HB⟩, by simp [intOf]; omega⟩

/-- Two ints were answered. -/
def RetII (w : World) (x y : Int) (e : Ending) (w' : World) : Prop := e = .returned (.tuple #[.int .i64 x, .int .i64 y]) ∧ Below w.heap.size w w'
set_option maxHeartbeats 2000000 in
theorem reduced_any (a b : Int) (ha : a.natAbs ≤ 1000000000000000) (h0 : 0 < b) (hb : b ≤ 1000000000000000) (w : World) :
    Calls Try.prog 53 #[.int .i64 a, .int .i64 b] w (RetII w (frN a b) (frD a b)) := by
  have HA := Lib.hid (absolute_any a ha w)
  have HD := Lib.hid (fun W => greatestDivisor_any a.natAbs b.natAbs ha (by omega) W)
  rw [show ((b.natAbs : Nat) : Int) = b by omega] at HD
  have hg := gcd_pos (a := a) h0
  have n1 := frN_le a b h0
  have n2 := frD_le a b h0
  obtain ⟨g, hgg⟩ : ∃ g, Int.gcd a b = g := ⟨_, rfl⟩
  have e0 : Nat.gcd a.natAbs b.natAbs = g := hgg
  rw [e0] at HD
  obtain ⟨x, hx⟩ : ∃ x, frN a b = x := ⟨_, rfl⟩
  obtain ⟨y, hy⟩ : ∃ y, frD a b = y := ⟨_, rfl⟩
  have q1 : a.tdiv (g : Int) = x := by rw [← hx, frN, hgg]
  have q2 : b.tdiv (g : Int) = y := by rw [← hy, frD, hgg]
  rw [hgg] at hg
  rw [hx] at n1 ⊢
  rw [hy] at n2 ⊢
  have x1 : -1000000000000000 ≤ x := by omega
  have x2 : x ≤ 1000000000000000 := by omega
  have y1 : -1000000000000000 ≤ y := by omega
  have y2 : y ≤ 1000000000000000 := by omega
  have g1 : ¬ (g : Int) = 0 := by omega
  have g2 : ((g : Int) == 0) = false := by simp; omega
  have g3 : ¬ g = 0 := by omega
  obtain ⟨m, hm⟩ : ∃ m, a.natAbs = m := ⟨_, rfl⟩
  rw [hm] at HA HD
  clear n1 n2 hx hy hgg e0 ha hm
  go_enter Try.func53, Try.ntmps53
  go_wp2_with fail
  refine HA.out.mono ?_
  rintro e w1 ⟨rfl, rfl⟩
  go_wp2_with fail
  refine (HD.out _).mono ?_
  rintro e w1 ⟨rfl, hb⟩
  have HB := Lib.hid hb
  clear hb
  go_wp2_with fail
  go_quiet (fail)
  go_wp2_with fail
  go_ret2
  exact ⟨rfl, below_drewN HB.out _⟩
set_option maxHeartbeats 2000000 in
theorem l15Reduce_any (a b : Int) (ha : a.natAbs ≤ 1000000000000000) (h0 : 0 < b) (hb : b ≤ 1000000000000000) (w : World) :
    Calls Try.prog 56 #[.int .i64 a, .int .i64 b] w (RetII w (frN a b) (frD a b)) := by
  have HD := Lib.hid (l15Common_any a b ha (by omega) w)
  have hg := gcd_pos (a := a) h0
  have n1 := frN_le a b h0
  have n2 := frD_le a b h0
  obtain ⟨g, hgg⟩ : ∃ g, Int.gcd a b = g := ⟨_, rfl⟩
  rw [hgg] at HD
  obtain ⟨x, hx⟩ : ∃ x, frN a b = x := ⟨_, rfl⟩
  obtain ⟨y, hy⟩ : ∃ y, frD a b = y := ⟨_, rfl⟩
  have q1 : a.tdiv (g : Int) = x := by rw [← hx, frN, hgg]
  have q2 : b.tdiv (g : Int) = y := by rw [← hy, frD, hgg]
  rw [hgg] at hg
  rw [hx] at n1 ⊢
  rw [hy] at n2 ⊢
  have x1 : -1000000000000000 ≤ x := by omega
  have x2 : x ≤ 1000000000000000 := by omega
  have y1 : -1000000000000000 ≤ y := by omega
  have y2 : y ≤ 1000000000000000 := by omega
  have g1 : ¬ (g : Int) = 0 := by omega
  have g2 : ((g : Int) == 0) = false := by simp; omega
  have g3 : ¬ g = 0 := by omega
  clear n1 n2 hx hy hgg ha
  go_enter Try.func56, Try.ntmps56
  go_wp2_with fail
  refine HD.out.mono ?_
  rintro e w1 ⟨rfl, hb⟩
  have HB := Lib.hid hb
  clear hb
  go_wp2_with fail
  go_quiet (fail)
  go_wp2_with fail
  go_ret2
  exact ⟨rfl, below_drewN HB.out _⟩
end Go.Proofs.Ytndafdjllbhbfaa
