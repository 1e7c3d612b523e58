/-
  What the two CheckLetter functions return. No statement of the seat by itself.
-/
import Derived.Test.YtpmaaflpknjbmaaCLetter
namespace Go.Proofs.Ytpmaaflpknjbmaa.C
open Go.RowKit

theorem val_i {k : IntKind} {a b : Int} (h : a = b) : Value.int k a = .int k b := by rw [h]
theorem ret_i {k : IntKind} {a b : Int} (h : a = b) : Ending.returned (.int k a) = .returned (.int k b) := by rw [h]
theorem sum_low (s : ByteArray) (k : Nat) (hk : k < s.size) (h3 : k < 3) (h : 65 ≤ s[k].toNat) : ((sumK s (k + 1) : Nat) : Int) = (sumK s k : Int) + ((s[k].toNat : Int) - 65 + 1) * ((k : Int) + 2) := by
  rw [sumK, valAt, if_pos h3, byteAt_lt s k hk]
  have e : ((s[k].toNat - 64 : Nat) : Int) = (s[k].toNat : Int) - 65 + 1 := by omega
  rw [Int.natCast_add, Int.natCast_mul, e]; rfl
theorem sum_high (s : ByteArray) (k : Nat) (hk : k < s.size) (h3 : ¬ k < 3) (h : 48 ≤ s[k].toNat) : ((sumK s (k + 1) : Nat) : Int) = (sumK s k : Int) + ((s[k].toNat : Int) - 48) * ((k : Int) + 2) := by
  rw [sumK, valAt, if_neg h3, byteAt_lt s k hk]
  have e : ((s[k].toNat - 48 : Nat) : Int) = (s[k].toNat : Int) - 48 := by omega
  rw [Int.natCast_add, Int.natCast_mul, e]; rfl
theorem mul_bd (x k : Int) (h0 : 0 ≤ x) (h1 : x ≤ 26) (k0 : 0 ≤ k) (k1 : k ≤ 6) : 0 ≤ x * (k + 2) ∧ x * (k + 2) ≤ 208 := by
  have a := Int.mul_nonneg h0 (show 0 ≤ k + 2 by omega)
  have b : x * (k + 2) ≤ 26 * 8 := Int.mul_le_mul h1 (by omega) (by omega) (by omega)
  exact ⟨a, by omega⟩

theorem check_num (s : ByteArray) : 65 + (sumK s 7 : Int) % 23 = ((65 + checkR s : Nat) : Int) := by
  unfold checkR; omega

set_option maxHeartbeats 1000000 in
theorem l2Check_any (s : ByteArray) (w : World) (h : sevenB s = true) :
    Calls Try.prog 61 #[.string s] w fun e w' => e = .returned (.int .u8 ((letterB s).toNat : Int)) ∧ w = w' := by
  obtain ⟨h7, hall⟩ := (sevenB_iff s).1 h
  have hge : 7 ≤ s.size := by omega
  have HA := Lib.hid hall
  clear h7 hall h
  go_enter Try.func61, Try.ntmps61
  go_wp2_with fail
  go_loop [3, 4, 5] (fun n i _ => ∃ k : Nat, k ≤ 7 ∧ i = .int .i64 k ∧ n = .int .i64 (sumK s k : Int)) (fun _ i _ => 7 - (intOf i).toNat)
  case atStart => exact ⟨0, Nat.zero_le _, rfl, rfl⟩
  case round =>
    obtain ⟨k, hk, rfl, rfl⟩ := hrel
    have hsb := sumK_bd s HA.out k hk
    by_cases hlt : k < 7
    · have hlt2 : k < s.size := by omega
      by_cases h3 : k < 3
      · have hb := okAt_low (HA.out k hlt) h3
        rw [byteAt_lt s k hlt2] at hb
        have HS := Lib.hid (sum_low s k hlt2 h3 hb.1)
        have e1 : 65 ≤ (s[k].toNat : Int) := by omega
        have e2 : (s[k].toNat : Int) ≤ 90 := by omega
        have hm := mul_bd ((s[k].toNat : Int) - 65 + 1) k (by omega) (by omega) (by omega) (by omega)
        obtain ⟨m1, m2⟩ := hm
        clear hb
        go_wp2_with fail
        go_round
        case rel => exact ⟨k + 1, by omega, by go_num, val_i (by rw [HS.out])⟩
        case measure => simp [intOf]; omega
      · have hb := okAt_high (HA.out k hlt) h3
        rw [byteAt_lt s k hlt2] at hb
        have HS := Lib.hid (sum_high s k hlt2 h3 hb.1)
        have e1 : 48 ≤ (s[k].toNat : Int) := by omega
        have e2 : (s[k].toNat : Int) ≤ 57 := by omega
        have hm := mul_bd ((s[k].toNat : Int) - 48) k (by omega) (by omega) (by omega) (by omega)
        obtain ⟨m1, m2⟩ := hm
        clear hb
        go_wp2_with fail
        go_round
        case rel => exact ⟨k + 1, by omega, by go_num, val_i (by rw [HS.out])⟩
        case measure => simp [intOf]; omega
    · obtain rfl : k = 7 := by omega
      go_wp2_with fail
      go_ret
      refine ⟨ret_i ?_, rfl⟩
      rw [letterB_toNat]
      exact check_num _


theorem run_letter (s : ByteArray) (g : Nat) (W : World) (h : W.cell? ⟨g, 0, none⟩ = some (.int .u8 ((letterB s).toNat : Int))) :
    (convert 72 9 (.slice (some ⟨g, 0, none⟩) 1 1)).run Try.prog W = .ok (.string (letterS s)) W := by
  have h1 := run_convert_bytes_back (P := Try.prog) W 72 9 5 ⟨g, 0, none⟩ 1 [letterB s] Try.underlying72 Try.underlying5 Try.underlying9 (fun j hj => by
    have : j = 0 := by simpa using hj
    subst this
    simpa [Addr.add] using h)
  exact h1

theorem signValue_low (c : UInt8) (w : World) (h : 65 ≤ c.toNat ∧ c.toNat ≤ 90) :
    Calls Try.prog 95 #[.int .u8 (c.toNat : Int)] w fun e w' => e = .returned (.int .i64 ((c.toNat : Int) - 65 + 1)) ∧ w = w' := by
  have e1 : 65 ≤ (c.toNat : Int) := by omega
  have e2 : (c.toNat : Int) ≤ 90 := by omega
  have hw : IntKind.u8.wrap ((c.toNat : Int) - 65) = (c.toNat : Int) - 65 := by rw [IntKind.wrap_u8]; omega
  go_enter Try.func95, Try.ntmps95
  go_wp2_with (go_at_call 98; refine (isLetter_yes _ _ h).mono ?_; rintro e w' ⟨rfl, rfl⟩)
  go_ret
  exact ⟨rfl, rfl⟩
theorem signValue_high (c : UInt8) (w : World) (h : 48 ≤ c.toNat ∧ c.toNat ≤ 57) :
    Calls Try.prog 95 #[.int .u8 (c.toNat : Int)] w fun e w' => e = .returned (.int .i64 ((c.toNat : Int) - 48)) ∧ w = w' := by
  have e1 : 48 ≤ (c.toNat : Int) := by omega
  have e2 : (c.toNat : Int) ≤ 57 := by omega
  have hw : IntKind.u8.wrap ((c.toNat : Int) - 48) = (c.toNat : Int) - 48 := by rw [IntKind.wrap_u8]; omega
  go_enter Try.func95, Try.ntmps95
  go_wp2_with (go_at_call 98; refine (isLetter_no _ _ (by omega)).mono ?_; rintro e w' ⟨rfl, rfl⟩)
  go_ret
  exact ⟨rfl, rfl⟩

theorem cases23 (x : Int) (h0 : 0 ≤ x) (h1 : x < 23) : x = 0 ∨ x = 1 ∨ x = 2 ∨ x = 3 ∨ x = 4 ∨ x = 5 ∨ x = 6 ∨ x = 7 ∨ x = 8 ∨ x = 9 ∨ x = 10 ∨ x = 11 ∨ x = 12 ∨ x = 13 ∨ x = 14 ∨ x = 15 ∨ x = 16 ∨ x = 17 ∨ x = 18 ∨ x = 19 ∨ x = 20 ∨ x = 21 ∨ x = 22 := by omega
theorem letterS_at (s : ByteArray) : letterS s = ⟨#[UInt8.ofNat (65 + ((sumK s 7 : Int) % 23).toNat)]⟩ := by
  have e : ((sumK s 7 : Int) % 23).toNat = checkR s := by unfold checkR; omega
  rw [e]; rfl

set_option maxHeartbeats 1000000 in
theorem implLetter_yes (s : ByteArray) (w : World) (h : sevenB s = true) (hs : s.size ≤ maxLen) :
    Calls Try.prog 83 #[.string s] w fun e w' => e = .returned (.tuple #[.string (letterS s), .bool true]) ∧ w = w' := by
  obtain ⟨h7, hall⟩ := (sevenB_iff s).1 h
  have hge : 7 ≤ s.size := by omega
  have hle : s.size ≤ 7 := by omega
  have HA := Lib.hid hall
  have H := Lib.hid h
  clear h7 hall h
  go_enter Try.func83, Try.ntmps83
  go_wp2_with fail
  refine (isSerial_any s _ hs).mono ?_
  rw [H.out]
  rintro e w' ⟨rfl, rfl⟩
  go_wp2_with fail
  go_loop [4, 5, 12] (fun n _ i => ∃ k : Nat, k ≤ 7 ∧ i = .int .i64 k ∧ n = .int .i64 (sumK s k : Int)) (fun _ _ i => 7 - (intOf i).toNat)
  case atStart => exact ⟨0, Nat.zero_le _, rfl, rfl⟩
  case round =>
    obtain ⟨k, hk, rfl, rfl⟩ := hrel
    have hsb := sumK_bd s HA.out k hk
    by_cases hlt : k < 7
    · have hlt2 : k < s.size := by omega
      by_cases h3 : k < 3
      · have hb := okAt_low (HA.out k hlt) h3
        rw [byteAt_lt s k hlt2] at hb
        have HS := Lib.hid (sum_low s k hlt2 h3 hb.1)
        have hm := mul_bd ((s[k].toNat : Int) - 65 + 1) k (by omega) (by omega) (by omega) (by omega)
        rw [Int.mul_comm] at hm
        obtain ⟨m1, m2⟩ := hm
        have HB := Lib.hid hb
        clear hb
        go_wp2_with (go_at_call 95; refine (signValue_low _ _ HB.out).mono ?_; rintro e w' ⟨rfl, rfl⟩)
        go_round
        case rel => exact ⟨k + 1, by omega, by go_num, val_i (by rw [HS.out, Int.mul_comm])⟩
        case measure => simp [intOf]; omega
      · have hb := okAt_high (HA.out k hlt) h3
        rw [byteAt_lt s k hlt2] at hb
        have HS := Lib.hid (sum_high s k hlt2 h3 hb.1)
        have hm := mul_bd ((s[k].toNat : Int) - 48) k (by omega) (by omega) (by omega) (by omega)
        rw [Int.mul_comm] at hm
        obtain ⟨m1, m2⟩ := hm
        have HB := Lib.hid hb
        clear hb
        go_wp2_with (go_at_call 95; refine (signValue_high _ _ HB.out).mono ?_; rintro e w' ⟨rfl, rfl⟩)
        go_round
        case rel => exact ⟨k + 1, by omega, by go_num, val_i (by rw [HS.out, Int.mul_comm])⟩
        case measure => simp [intOf]; omega
    · obtain rfl : k = 7 := by omega
      have HL := Lib.hid (letterS_at s)
      rcases cases23 ((sumK s 7 : Int) % 23) (by omega) (by omega) with e | e | e | e | e | e | e | e | e | e | e | e | e | e | e | e | e | e | e | e | e | e | e
      all_goals
        go_wp2_with fail
        go_ret2
        exact ⟨by rw [HL.out, e]; rfl, rfl⟩

theorem implLetter_no (s : ByteArray) (w : World) (h : sevenB s = false) (hs : s.size ≤ maxLen) :
    Calls Try.prog 83 #[.string s] w fun e w' => e = .returned (.tuple #[.string ⟨#[]⟩, .bool false]) ∧ w = w' := by
  have H := Lib.hid h
  clear h
  go_enter Try.func83, Try.ntmps83
  go_wp2_with fail
  refine (isSerial_any s _ hs).mono ?_
  rw [H.out]
  rintro e w' ⟨rfl, rfl⟩
  go_wp2_with fail
  go_ret2
  exact ⟨rfl, rfl⟩
end Go.Proofs.Ytpmaaflpknjbmaa.C
