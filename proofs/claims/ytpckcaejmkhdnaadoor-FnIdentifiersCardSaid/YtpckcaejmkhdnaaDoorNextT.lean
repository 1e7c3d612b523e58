/-
  What spec.NextId returns. No statement of the seat by itself.
-/
import Derived.Test.YtpckcaejmkhdnaaDoorNextS
namespace Go.Proofs.YtpckcaejmkhdnaaDoor
open Go.RowKit

theorem specNext_bad (s : ByteArray) (w : World) (h : idB s = false) (hs : s.size ≤ maxLen) :
    Calls Tryd.prog 12 #[.string s] w fun e w' => e = .returned (.tuple #[.string ⟨#[]⟩, .bool false]) ∧ Below w.heap.size w w' := by
  have H := Lib.hid h
  have HS := Lib.hid hs
  clear h hs
  go_enter Tryd.func12, Tryd.ntmps12
  go_wp2_with fail
  refine (l2Id_any s _ HS.out).mono ?_
  rw [H.out]
  rintro e w1 ⟨rfl, n, rfl⟩
  go_wp2_with fail
  go_ret2
  exact ⟨rfl, below_drewN (Below.refl _ w) n⟩
theorem specNext_last (s : ByteArray) (w : World) (h : idB s = true) (h9 : num4 s = 9999) :
    Calls Tryd.prog 12 #[.string s] w fun e w' => e = .returned (.tuple #[.string ⟨#[]⟩, .bool false]) ∧ Below w.heap.size w w' := by
  have hsz := ((idB_iff s).1 h).1
  obtain ⟨f1, f2, f3, f4⟩ := head_facts s h
  have hn := nines _ f1
  rw [← f4, f2, h9] at hn
  have hn' : ((s.extract 3 7).toList == [57, 57, 57, 57]) = true := by simpa using hn
  have H := Lib.hid h
  have HS := Lib.hid (show s.size ≤ maxLen by unfold maxLen; omega)
  have g7 : 7 ≤ s.size := by omega
  have g7i : (7 : Int) ≤ (s.size : Int) := by omega
  clear h h9 hsz f1 f2 f3 f4 hn
  go_enter Tryd.func12, Tryd.ntmps12
  go_wp2_with fail
  refine (l2Id_any s _ HS.out).mono ?_
  rw [H.out]
  rintro e w1 ⟨rfl, n, rfl⟩
  go_wp2_with fail
  go_ret2
  exact ⟨rfl, below_drewN (Below.refl _ w) n⟩
theorem numK_le (s : ByteArray) (h : ∀ k, k < 4 → (byteAt s (3 + k)).toNat ≤ 57) : ∀ k, k ≤ 4 → numK s k ≤ 9999 := by
  intro k hk
  have a0 := h 0 (by omega)
  have a1 := h 1 (by omega)
  have a2 := h 2 (by omega)
  have a3 := h 3 (by omega)
  match k, hk with
  | 0, _ => simp [numK]
  | 1, _ => simp only [numK]; omega
  | 2, _ => simp only [numK]; omega
  | 3, _ => simp only [numK]; omega
  | 4, _ => simp only [numK]; omega
theorem byteAt_head (s : ByteArray) (h : 7 ≤ s.size) (j : Nat) (hj : j < 7) : byteAt (s.extract 0 7) j = byteAt s j := by
  rw [byteAt_lt _ j (by rw [ByteArray.size_extract]; omega), byteAt_lt s j (by omega), ByteArray.getElem_extract]
  simp
theorem id_digits (s : ByteArray) (h : idB s = true) : ∀ k, k < 4 → 48 ≤ (byteAt s (3 + k)).toNat ∧ (byteAt s (3 + k)).toNat ≤ 57 := by
  obtain ⟨h8, h7, _⟩ := (idB_iff s).1 h
  intro k hk
  have ho := ((sevenB_iff _).1 h7).2 (3 + k) (by omega)
  have hb := okAt_high ho (by omega)
  have e : byteAt (head7 s) (3 + k) = byteAt s (3 + k) := byteAt_head s (by omega) (3 + k) (by omega)
  rw [e] at hb
  exact hb

set_option maxHeartbeats 1000000 in
theorem specNext_yes (s : ByteArray) (w : World) (h : idB s = true) (h9 : ¬ num4 s = 9999) :
    Calls Tryd.prog 12 #[.string s] w fun e w' => e = .returned (.tuple #[.string (nextOf s), .bool true]) ∧ Below w.heap.size w w' := by
  have hsz := ((idB_iff s).1 h).1
  obtain ⟨f1, f2, f3, f4⟩ := head_facts s h
  have hn := nines _ f1
  rw [← f4, f2] at hn
  have hn' : ((s.extract 3 7).toList == [57, 57, 57, 57]) = false := by rw [hn]; simpa using h9
  have hup := upper_of_seven _ f1
  rw [f3] at hup
  have hdg := Lib.hid (id_digits s h)
  have hle := numK_le s (fun k hk => (hdg.out k hk).2)
  have HLE := Lib.hid hle
  have hn4 : num4 s ≤ 9999 := hle 4 (Nat.le_refl _)
  have KU := Lib.hid hup
  have H := Lib.hid h
  have HS := Lib.hid (show s.size ≤ maxLen by unfold maxLen; omega)
  have g8 : 8 ≤ s.size := by omega
  have g7i : (7 : Int) ≤ (s.size : Int) := by omega
  clear h hsz f1 f2 f3 f4 hn hup hle
  go_enter Tryd.func12, Tryd.ntmps12
  go_wp2_with fail
  refine (l2Id_any s _ HS.out).mono ?_
  rw [H.out]
  rintro e w1 ⟨rfl, n, hw1⟩
  have B1 : Hid (Below w.heap.size w w1) := Lib.hid (by rw [hw1]; exact below_drewN (Below.refl _ w) n)
  clear hw1
  go_wp2_with fail
  go_loop [4, 5] (fun a i => ∃ k : Nat, k ≤ 4 ∧ i = .int .i64 ((3 + k : Nat) : Int) ∧ a = .int .i64 (numK s k : Int)) (fun _ i => 7 - (intOf i).toNat)
  case atStart => exact ⟨0, Nat.zero_le _, rfl, rfl⟩
  case round =>
    obtain ⟨k, hk, rfl, rfl⟩ := hrel
    have hb := HLE.out k hk
    by_cases hlt : k < 4
    · have hi : 3 + k < s.size := by omega
      have hd := hdg.out k hlt
      rw [byteAt_lt s (3 + k) hi] at hd
      have e1 : 48 ≤ (s[3 + k].toNat : Int) := by omega
      have e2 : (s[3 + k].toNat : Int) ≤ 57 := by omega
      have HS1 : Hid (((numK s (k + 1) : Nat) : Int) = 10 * (numK s k : Int) + (s[3 + k].toNat : Int) - 48) := Lib.hid (by
        rw [numK, byteAt_lt s (3 + k) hi]; omega)
      clear hd
      go_wp2_with fail
      go_round
      case rel => exact ⟨k + 1, by omega, val_i (by omega), val_i (by rw [HS1.out])⟩
      case measure => simp [intOf]; omega
    · obtain rfl : k = 4 := by omega
      go_wp2_with fail
      refine (l2Number_any (s.extract 0 3) (num4 s + 1) _ KU.out (by omega)).mono ?_
      rintro e w2 ⟨rfl, hb2⟩
      have B2 : Hid (Below w.heap.size w w2) := Lib.hid (B1.out.trans (hb2.mono B1.out.size))
      clear hb2
      go_wp2_with fail
      go_ret2
      exact ⟨rfl, B2.out⟩
end Go.Proofs.YtpckcaejmkhdnaaDoor
