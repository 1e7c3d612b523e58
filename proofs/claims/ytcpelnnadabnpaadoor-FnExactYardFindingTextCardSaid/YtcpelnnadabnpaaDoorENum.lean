/-
  The texts of numbers: what spec.l1Num returns. No statement of the seat by itself.
-/
import Derived.Test.YtcpelnnadabnpaaDoorEItoa
import Derived.WalkKit
import Derived.Deep.QuietTactic
import Derived.BigQuiet
import Derived.Lib.Hide
import Derived.IntWalk
import Derived.Lib.ItoaNum
import Derived.Lib.AppendIntMem
namespace Go.Proofs.YtcpelnnadabnpaaDoor
open Go.RowKit

def digitBytes : ByteArray := ⟨#[48, 49, 50, 51, 52, 53, 54, 55, 56, 57]⟩

theorem decDigits_small (m : Nat) (h : m < 10) : Lib.decDigits m = [UInt8.ofNat (48 + m)] := by
  rw [Lib.decDigits]; simp [h]
theorem decDigits_big (m : Nat) (h : ¬ m < 10) : Lib.decDigits m = Lib.decDigits (m / 10) ++ [UInt8.ofNat (48 + m % 10)] := by
  rw [Lib.decDigits]; simp [h]

theorem ten_cases (d : Nat) (h : d < 10) : d = 0 ∨ d = 1 ∨ d = 2 ∨ d = 3 ∨ d = 4 ∨ d = 5 ∨ d = 6 ∨ d = 7 ∨ d = 8 ∨ d = 9 := by omega

set_option maxHeartbeats 1000000 in
theorem l1Num_small (m : Nat) (w : World) (h : m < 10) :
    Calls Tryd.prog 12 #[.int .i64 m] w fun e w' => e = .returned (.string ⟨(Lib.decDigits m).toArray⟩) ∧ w' = w := by
  rw [decDigits_small m h]
  rcases ten_cases m h with rfl | rfl | rfl | rfl | rfl | rfl | rfl | rfl | rfl | rfl
  all_goals
    go_enter Tryd.func12, Tryd.ntmps12
    go_wp2_with fail
    go_ret
    exact ⟨rfl, rfl⟩

theorem str_snoc (l : List UInt8) (x : ByteArray) (c : UInt8) (h : x = ⟨#[c]⟩) : (⟨l.toArray⟩ : ByteArray) ++ x = ⟨(l ++ [c]).toArray⟩ := by
  subst h
  apply ByteArray.ext
  simp
theorem ret_str {a b : ByteArray} (h : a = b) : Ending.returned (.string a) = .returned (.string b) := by rw [h]

set_option maxHeartbeats 4000000 in
theorem l1Num_big (m q r : Nat) (w : World) (h10 : r < 10) (hr : (m : Int).tmod 10 = (r : Int)) (hq : (m : Int).tdiv 10 = (q : Int)) (hw : wrap64 (q : Int) = q) (h : 10 ≤ m) (h2 : m ≤ 999999) (l : List UInt8) (hl : l.length ≤ 100) (H : Hid (∀ w, Calls Tryd.prog 12 #[.int .i64 q] w fun e w' => e = .returned (.string ⟨l.toArray⟩) ∧ ∃ n, w' = w.drewN n)) :
    Calls Tryd.prog 12 #[.int .i64 m] w fun e w' => e = .returned (.string ⟨(l ++ [UInt8.ofNat (48 + r)]).toArray⟩) ∧ ∃ n, w' = w.drewN n := by
  rcases ten_cases r h10 with rfl | rfl | rfl | rfl | rfl | rfl | rfl | rfl | rfl | rfl
  all_goals
    clear h10
    simp only [Int.cast_ofNat_Int] at hr
    go_enter Tryd.func12, Tryd.ntmps12
    go_wp2_with fail
    go_quiet ((go_at_call 12; exact Calls.quiet_of (H.out _)))
    go_wp2_with fail
    go_ret
    exact ⟨ret_str (str_snoc _ _ _ (by decide)), _, rfl⟩

theorem decDigits_len (k : Nat) : ∀ m, m < 10 ^ (k + 1) → (Lib.decDigits m).length ≤ k + 1 := by
  induction k with
  | zero => intro m h; rw [decDigits_small m (by simpa using h)]; simp
  | succ k ih =>
    intro m h
    by_cases hm : m < 10
    · rw [decDigits_small m hm]; simp
    · rw [decDigits_big m hm]
      have := ih (m / 10) (by rw [Nat.div_lt_iff_lt_mul (by decide)]; rw [Nat.pow_succ] at h; exact h)
      simp; omega

theorem l1Num_nat (k : Nat) : ∀ (m : Nat) (w : World), m < 10 ^ (k + 1) → m ≤ 999999 →
    Calls Tryd.prog 12 #[.int .i64 m] w fun e w' => e = .returned (.string ⟨(Lib.decDigits m).toArray⟩) ∧ ∃ n, w' = w.drewN n := by
  induction k with
  | zero => intro m w h _; exact (l1Num_small m w (by simpa using h)).mono fun e w' ⟨he, hw⟩ => ⟨he, 0, hw⟩
  | succ k ih =>
    intro m w h h2
    by_cases hm : m < 10
    · exact (l1Num_small m w hm).mono fun e w' ⟨he, hw⟩ => ⟨he, 0, hw⟩
    · rw [decDigits_big m hm]
      have hlt : m / 10 < 10 ^ (k + 1) := by rw [Nat.div_lt_iff_lt_mul (by decide)]; rw [Nat.pow_succ] at h; exact h
      exact l1Num_big m (m / 10) (m % 10) w (by omega) (by rfl) (by rfl) (IntWalk.wrap64_in _ (by omega)) (by omega) h2 _ (Nat.le_trans (decDigits_len 5 _ (by omega)) (by decide)) (Lib.hid fun w => ih (m / 10) w hlt (by omega))

theorem str_cons (l : List UInt8) (c : UInt8) : (⟨#[c]⟩ : ByteArray) ++ ⟨l.toArray⟩ = ⟨(c :: l).toArray⟩ := by
  apply ByteArray.ext
  simp
theorem itoa_nat (m : Nat) : Lib.itoa (m : Int) = Lib.decDigits m := by
  unfold Lib.itoa; rw [if_neg (by omega)]; rfl
theorem itoa_neg (m : Nat) (h : 0 < m) : Lib.itoa (-(m : Int)) = 45 :: Lib.decDigits m := by
  unfold Lib.itoa; rw [if_pos (by omega)]; simp

set_option maxHeartbeats 1000000 in
theorem l1Num_neg (m : Nat) (w : World) (h : 0 < m) (h2 : m ≤ 999999) (l : List UInt8) (hl : l.length ≤ 100) (H : Hid (∀ w, Calls Tryd.prog 12 #[.int .i64 m] w fun e w' => e = .returned (.string ⟨l.toArray⟩) ∧ ∃ n, w' = w.drewN n)) :
    Calls Tryd.prog 12 #[.int .i64 (-(m : Int))] w fun e w' => e = .returned (.string ⟨(45 :: l).toArray⟩) ∧ ∃ n, w' = w.drewN n := by
  go_enter Tryd.func12, Tryd.ntmps12
  go_wp2_with (go_at_call 12; refine (H.out _).mono ?_; rintro e w' ⟨rfl, n, rfl⟩)
  go_ret
  exact ⟨ret_str (str_cons _ _), _, rfl⟩

theorem l1Num_any (n : Int) (w : World) (h1 : -999999 ≤ n) (h2 : n ≤ 999999) :
    Calls Tryd.prog 12 #[.int .i64 n] w fun e w' => e = .returned (.string ⟨(Lib.itoa n).toArray⟩) ∧ ∃ k, w' = w.drewN k := by
  by_cases h : n < 0
  · obtain ⟨m, hm⟩ : ∃ m : Nat, n = -(m : Int) := ⟨n.natAbs, by omega⟩
    subst hm
    rw [itoa_neg m (by omega)]
    exact l1Num_neg m w (by omega) (by omega) _ (Nat.le_trans (decDigits_len 5 _ (by omega)) (by decide)) (Lib.hid fun w => l1Num_nat 5 m w (by omega) (by omega))
  · obtain ⟨m, hm⟩ : ∃ m : Nat, n = (m : Int) := ⟨n.toNat, by omega⟩
    subst hm
    rw [itoa_nat]
    exact l1Num_nat 5 m w (by omega) (by omega)

end Go.Proofs.YtcpelnnadabnpaaDoor
