/-
  What the two CheckLetter functions return, and what they call. No statement of the seat by itself.
-/
import Derived.Test.YtpmaaflpknjbmaaProg
import Derived.Test.YtpmaaflpknjbmaaCId
import Derived.WalkKit
import Derived.Lib.Hide
import Derived.IntWalk
namespace Go.Proofs.Ytpmaaflpknjbmaa.C
open Go.RowKit

theorem isLetter_any (c : UInt8) (w : World) :
    Calls Try.prog 98 #[.int .u8 (c.toNat : Int)] w fun e w' => e = .returned (.bool (decide (65 ≤ c.toNat) && decide (c.toNat ≤ 90))) ∧ w = w' := by
  by_cases h1 : 65 ≤ c.toNat <;> by_cases h2 : c.toNat ≤ 90 <;>
  · go_enter Try.func98, Try.ntmps98
    go_wp2
    all_goals (go_ret; exact ⟨by first | (simp [h1, h2]; done) | (simp [h1, h2]; omega), rfl⟩)
theorem isDigit_any (c : UInt8) (w : World) :
    Calls Try.prog 99 #[.int .u8 (c.toNat : Int)] w fun e w' => e = .returned (.bool (decide (48 ≤ c.toNat) && decide (c.toNat ≤ 57))) ∧ w = w' := by
  by_cases h1 : 48 ≤ c.toNat <;> by_cases h2 : c.toNat ≤ 57 <;>
  · go_enter Try.func99, Try.ntmps99
    go_wp2
    all_goals (go_ret; exact ⟨by first | (simp [h1, h2]; done) | (simp [h1, h2]; omega), rfl⟩)
theorem isLetter_yes (c : UInt8) (w : World) (h : 65 ≤ c.toNat ∧ c.toNat ≤ 90) : Calls Try.prog 98 #[.int .u8 (c.toNat : Int)] w fun e w' => e = .returned (.bool true) ∧ w = w' :=
  (isLetter_any c w).mono fun _ _ ⟨he, hw⟩ => ⟨by rw [he]; simp [h.1, h.2], hw⟩
theorem isLetter_no (c : UInt8) (w : World) (h : c.toNat < 65 ∨ 90 < c.toNat) : Calls Try.prog 98 #[.int .u8 (c.toNat : Int)] w fun e w' => e = .returned (.bool false) ∧ w = w' :=
  (isLetter_any c w).mono fun _ _ ⟨he, hw⟩ => ⟨by rw [he]; congr 2; simp; omega, hw⟩
theorem isDigit_yes (c : UInt8) (w : World) (h : 48 ≤ c.toNat ∧ c.toNat ≤ 57) : Calls Try.prog 99 #[.int .u8 (c.toNat : Int)] w fun e w' => e = .returned (.bool true) ∧ w = w' :=
  (isDigit_any c w).mono fun _ _ ⟨he, hw⟩ => ⟨by rw [he]; simp [h.1, h.2], hw⟩
theorem isDigit_no (c : UInt8) (w : World) (h : c.toNat < 48 ∨ 57 < c.toNat) : Calls Try.prog 99 #[.int .u8 (c.toNat : Int)] w fun e w' => e = .returned (.bool false) ∧ w = w' :=
  (isDigit_any c w).mono fun _ _ ⟨he, hw⟩ => ⟨by rw [he]; congr 2; simp; omega, hw⟩

set_option maxHeartbeats 1000000 in
theorem isSerial_any (s : ByteArray) (w : World) (hs : s.size ≤ maxLen) :
    Calls Try.prog 94 #[.string s] w fun e w' => e = .returned (.bool (sevenB s)) ∧ w = w' := by
  unfold maxLen at hs
  by_cases h7 : s.size = 7
  · have HB : Hid (s.size = 7) := Lib.hid h7
    have hne : ((s.size : Int) != 7) = false := by simp [h7]
    have hle : s.size ≤ 7 := by omega
    have hge : 7 ≤ s.size := by omega
    clear h7
    go_enter Try.func94, Try.ntmps94
    go_wp2_with fail
    go_loop [3, 9] (fun _ i => ∃ k : Nat, k ≤ 7 ∧ i = .int .i64 k ∧ Hid (∀ j, j < k → okAt s j = true)) (fun _ i => 7 - (intOf i).toNat)
    case atStart => exact ⟨0, Nat.zero_le _, rfl, Lib.hid fun j hj => by omega⟩
    case round =>
      obtain ⟨k, hk, rfl, HK⟩ := hrel
      by_cases hlt : k < 7
      · have hlt2 : k < s.size := by omega
        by_cases hok : okAt s k = true
        · have HK2 : Hid (∀ j, j < k + 1 → okAt s j = true) := Lib.hid fun j hj => by
            by_cases e : j = k
            · subst e; exact hok
            · exact HK.out j (by omega)
          by_cases h3 : k < 3
          · have hb := okAt_low hok h3
            rw [byteAt_lt s k hlt2] at hb
            obtain ⟨hb1, hb2⟩ := hb
            have hi3 : decide ((k : Int) < 3) = true := by simp; omega
            have hi4 : decide ((3 : Int) ≤ (k : Int)) = false := by simp; omega
            clear hok
            go_wp2_with (go_at_call 98; refine (isLetter_yes _ _ ⟨hb1, hb2⟩).mono ?_; rintro e w' ⟨rfl, rfl⟩)
            go_round
            case rel => exact ⟨k + 1, by omega, by go_num, HK2⟩
            case measure => simp [intOf]; omega
          · have hb := okAt_high hok h3
            rw [byteAt_lt s k hlt2] at hb
            obtain ⟨hb1, hb2⟩ := hb
            have hi3 : decide ((k : Int) < 3) = false := by simp; omega
            have hi4 : decide ((3 : Int) ≤ (k : Int)) = true := by simp; omega
            clear hok h3
            go_wp2_with (go_at_call 99; refine (isDigit_yes _ _ ⟨hb1, hb2⟩).mono ?_; rintro e w' ⟨rfl, rfl⟩)
            go_round
            case rel => exact ⟨k + 1, by omega, by go_num, HK2⟩
            case measure => simp [intOf]; omega
        · have HN := Lib.hid (seven_no s k hlt hok)
          by_cases h3 : k < 3
          · have hb := not_okAt_low hok h3
            rw [byteAt_lt s k hlt2] at hb
            have HBB := Lib.hid hb
            have hi3 : decide ((k : Int) < 3) = true := by simp; omega
            clear hok hb
            go_wp2_with (go_at_call 98; refine (isLetter_no _ _ HBB.out).mono ?_; rintro e w' ⟨rfl, rfl⟩)
            go_ret
            exact ⟨by rw [HN.out]; rfl, rfl⟩
          · have hb := not_okAt_high hok h3
            rw [byteAt_lt s k hlt2] at hb
            have HBB := Lib.hid hb
            have hi3 : decide ((k : Int) < 3) = false := by simp; omega
            have hi4 : decide ((3 : Int) ≤ (k : Int)) = true := by simp; omega
            clear hok hb h3
            go_wp2_with (go_at_call 99; refine (isDigit_no _ _ HBB.out).mono ?_; rintro e w' ⟨rfl, rfl⟩)
            go_ret
            exact ⟨by rw [HN.out]; rfl, rfl⟩
      · obtain rfl : k = 7 := by omega
        have HN : Hid (sevenB s = true) := Lib.hid ((sevenB_iff s).2 ⟨HB.out, HK.out⟩)
        go_wp2_with fail
        go_ret
        exact ⟨by rw [HN.out]; rfl, rfl⟩
  · have hne : ((s.size : Int) != 7) = true := by simp; omega
    have HN := Lib.hid (seven_size s h7)
    clear h7
    go_enter Try.func94, Try.ntmps94
    go_wp2_with fail
    go_ret
    exact ⟨by rw [HN.out]; rfl, rfl⟩

set_option maxHeartbeats 1000000 in
theorem l2Seven_any (s : ByteArray) (w : World) (hs : s.size ≤ maxLen) :
    Calls Try.prog 60 #[.string s] w fun e w' => e = .returned (.bool (sevenB s)) ∧ w = w' := by
  unfold maxLen at hs
  by_cases h7 : s.size = 7
  · have HB : Hid (s.size = 7) := Lib.hid h7
    have hne : ((s.size : Int) != 7) = false := by simp [h7]
    have hle : s.size ≤ 7 := by omega
    have hge : 7 ≤ s.size := by omega
    clear h7
    go_enter Try.func60, Try.ntmps60
    go_wp2_with fail
    go_loop [3] (fun i => ∃ k : Nat, k ≤ 7 ∧ i = .int .i64 k ∧ Hid (∀ j, j < k → okAt s j = true)) (fun i => 7 - (intOf i).toNat)
    case atStart => exact ⟨0, Nat.zero_le _, rfl, Lib.hid fun j hj => by omega⟩
    case round =>
      obtain ⟨k, hk, rfl, HK⟩ := hrel
      by_cases hlt : k < 7
      · have hlt2 : k < s.size := by omega
        by_cases hok : okAt s k = true
        · have HK2 : Hid (∀ j, j < k + 1 → okAt s j = true) := Lib.hid fun j hj => by
            by_cases e : j = k
            · subst e; exact hok
            · exact HK.out j (by omega)
          by_cases h3 : k < 3
          · have hb := okAt_low hok h3
            rw [byteAt_lt s k hlt2] at hb
            have e1 : 65 ≤ (s[k].toNat : Int) := by omega
            have e2 : (s[k].toNat : Int) ≤ 90 := by omega
            have hi3 : decide ((k : Int) < 3) = true := by simp; omega
            have hi4 : decide ((2 : Int) < (k : Int)) = false := by simp; omega
            clear hok hb
            go_wp2_with fail
            go_round
            case rel => exact ⟨k + 1, by omega, by go_num, HK2⟩
            case measure => simp [intOf]; omega
          · have hb := okAt_high hok h3
            rw [byteAt_lt s k hlt2] at hb
            have e1 : 48 ≤ (s[k].toNat : Int) := by omega
            have e2 : (s[k].toNat : Int) ≤ 57 := by omega
            have hi3 : decide ((k : Int) < 3) = false := by simp; omega
            have hi4 : decide ((2 : Int) < (k : Int)) = true := by simp; omega
            clear hok h3 hb
            go_wp2_with fail
            go_round
            case rel => exact ⟨k + 1, by omega, by go_num, HK2⟩
            case measure => simp [intOf]; omega
        · have HN := Lib.hid (seven_no s k hlt hok)
          by_cases h3 : k < 3
          · have hb := not_okAt_low hok h3
            rw [byteAt_lt s k hlt2] at hb
            have hi3 : decide ((k : Int) < 3) = true := by simp; omega
            by_cases hlo : s[k].toNat < 65
            · have e1 : (s[k].toNat : Int) < 65 := by omega
              clear hok hb
              go_wp2_with fail
              go_ret
              exact ⟨by rw [HN.out]; rfl, rfl⟩
            · have e1 : 65 ≤ (s[k].toNat : Int) := by omega
              have e2 : 90 < (s[k].toNat : Int) := by omega
              clear hok hb
              go_wp2_with fail
              go_ret
              exact ⟨by rw [HN.out]; rfl, rfl⟩
          · have hb := not_okAt_high hok h3
            rw [byteAt_lt s k hlt2] at hb
            have hi3 : decide ((k : Int) < 3) = false := by simp; omega
            have hi4 : decide ((2 : Int) < (k : Int)) = true := by simp; omega
            by_cases hlo : s[k].toNat < 48
            · have e1 : (s[k].toNat : Int) < 48 := by omega
              clear hok hb h3
              go_wp2_with fail
              go_ret
              exact ⟨by rw [HN.out]; rfl, rfl⟩
            · have e1 : 48 ≤ (s[k].toNat : Int) := by omega
              have e2 : 57 < (s[k].toNat : Int) := by omega
              clear hok hb h3
              go_wp2_with fail
              go_ret
              exact ⟨by rw [HN.out]; rfl, rfl⟩
      · obtain rfl : k = 7 := by omega
        have HN : Hid (sevenB s = true) := Lib.hid ((sevenB_iff s).2 ⟨HB.out, HK.out⟩)
        go_wp2_with fail
        go_ret
        exact ⟨by rw [HN.out]; rfl, rfl⟩
  · have hne : ((s.size : Int) != 7) = true := by simp; omega
    have HN := Lib.hid (seven_size s h7)
    clear h7
    go_enter Try.func60, Try.ntmps60
    go_wp2_with fail
    go_ret
    exact ⟨by rw [HN.out]; rfl, rfl⟩

end Go.Proofs.Ytpmaaflpknjbmaa.C
