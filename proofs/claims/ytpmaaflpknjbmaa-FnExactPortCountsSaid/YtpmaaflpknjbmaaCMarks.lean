/-
  The laws' own helpers on lists of strings: markText, eqStringS, markStringS, heldStringS. No statement of the seat by itself.
-/
import Derived.Test.YtpmaaflpknjbmaaProg
import Derived.WalkKit
import Derived.WalkSmall
import Derived.WalkSpells
import Derived.Lib.Hide
import Derived.Lib.ItoaNum
import Derived.Lib.BufferOwn
import Derived.Lib.BufferMore
import Derived.Deep.QuietTactic
import Derived.BigQuiet
import Derived.Deep.RegionHeld3
namespace Go.Proofs.Ytpmaaflpknjbmaa.C
open Go.RowKit

/-- What is still to be written in front of the digits l, as a whole. -/
def tailOf (r : Nat) (l : List UInt8) : List UInt8 := if r = 0 then l else Lib.decDigits r ++ l

theorem mk_small (m : Nat) (h : m < 10) : Lib.decDigits m = [UInt8.ofNat (48 + m)] := by
  rw [Lib.decDigits]; simp [h]
theorem mk_big (m : Nat) (h : ¬ m < 10) : Lib.decDigits m = Lib.decDigits (m / 10) ++ [UInt8.ofNat (48 + m % 10)] := by
  rw [Lib.decDigits]; simp [h]
theorem mk_len (k : Nat) : ∀ m, m < 10 ^ (k + 1) → (Lib.decDigits m).length ≤ k + 1 := by
  induction k with
  | zero => intro m h; rw [mk_small m (by simpa using h)]; simp
  | succ k ih =>
    intro m h
    by_cases hm : m < 10
    · rw [mk_small m hm]; simp
    · rw [mk_big m hm]
      have := ih (m / 10) (by rw [Nat.div_lt_iff_lt_mul (by decide)]; rw [Nat.pow_succ] at h; exact h)
      simp; omega
theorem tail_step (r : Nat) (l : List UInt8) (b : UInt8) (h0 : 0 < r) (hb : b = UInt8.ofNat (48 + r % 10)) : tailOf (r / 10) (b :: l) = tailOf r l := by
  unfold tailOf
  rw [if_neg (show ¬ r = 0 by omega)]
  by_cases h : r < 10
  · rw [if_pos (by omega), mk_small r h, hb, Nat.mod_eq_of_lt h]; rfl
  · rw [if_neg (by omega), mk_big r h, hb]; simp
theorem tail_len (r : Nat) (l : List UInt8) : l.length ≤ (tailOf r l).length := by
  unfold tailOf; split <;> simp
theorem val_eq {k : IntKind} {a b : Int} (h : a = b) : Value.int k a = .int k b := by rw [h]
theorem str_cons1 (l : List UInt8) (c : UInt8) : (⟨#[c]⟩ : ByteArray) ++ ⟨l.toArray⟩ = ⟨(c :: l).toArray⟩ := by
  apply ByteArray.ext
  simp
theorem str_cons2 (l : List UInt8) (c : UInt8) : Value.string ((⟨#[c]⟩ : ByteArray) ++ ⟨l.toArray⟩) = .string ⟨(c :: l).toArray⟩ := by rw [str_cons1]
theorem ret_str1 {a b : ByteArray} (h : a = b) : Ending.returned (.string a) = .returned (.string b) := by rw [h]

set_option maxRecDepth 100000 in
set_option maxHeartbeats 1000000 in
theorem markText_any (k : Nat) (h1 : 1 ≤ k) (h2 : k ≤ 99999999) (w : World) :
    Calls Try.prog 34 #[.int .i64 k] w fun e w' => e = .returned (.string ⟨(109 :: Lib.decDigits k).toArray⟩) ∧ Below w.heap.size w w' := by
  go_enter Try.func34, Try.ntmps34
  go_wp2
  go_loopw [0, 3] (fun n o wr => ∃ (r : Nat) (l : List UInt8), n = .int .i64 r ∧ o = .string ⟨l.toArray⟩ ∧ r ≤ k ∧ l.length ≤ 20 ∧ Hid (tailOf r l = Lib.decDigits k) ∧ Below w.heap.size w wr) (fun n _ _ => (intOf n).toNat)
  case atStart => exact ⟨k, [], rfl, rfl, Nat.le_refl _, by simp, Lib.hid (by unfold tailOf; rw [if_neg (by omega)]; simp), Below.refl _ _⟩
  case round =>
    obtain ⟨r, l, rfl, rfl, hr, hl, HT, hB⟩ := hrel
    by_cases h0 : 0 < r
    · obtain ⟨b, hb⟩ : ∃ b : UInt8, b = UInt8.ofNat (48 + r % 10) := ⟨_, rfl⟩
      have hbn : (48 + (r : Int) % 10) = (b.toNat : Int) := by rw [hb, UInt8.toNat_ofNat']; omega
      have HB := Lib.hid hb
      clear hb
      have hcv := run_convert_bytes_back (P := Try.prog) (wr.alloc (.cells #[.int .u8 (b.toNat : Int)] 5)) 72 9 5 ⟨wr.heap.size, 0, none⟩ 1 [b] Try.underlying72 Try.underlying5 Try.underlying9 (fun j hj => cell_one_new _ _ _ j _ (by match j, hj with | 0, _ => rfl))
      simp only [List.length_cons, List.length_nil, Nat.zero_add] at hcv
      go_wp2
      have HT2 := tail_step r l b h0 HB.out
      refine ⟨⟨r / 10, b :: l, val_eq (by omega), str_cons2 _ _, by omega, ?_, Lib.hid (HT2.trans HT.out), hB.alloc hB.size _⟩, by simp [intOf]; omega⟩
      have := congrArg List.length (HT2.trans HT.out)
      have h6 := mk_len 7 k (by omega)
      have := tail_len (r / 10) (b :: l)
      omega
    · obtain rfl : r = 0 := by omega
      have HL := Lib.hid (show l = Lib.decDigits k from HT.out)
      go_wp2
      go_ret
      exact ⟨by rw [← HL.out]; exact ret_str1 (str_cons1 _ _), hB⟩

/-- The mark of a number, as a text. -/
def mt (k : Nat) : ByteArray := ⟨(109 :: Lib.decDigits k).toArray⟩

theorem grown_of_below {w w' : World} (h : Below w.heap.size w w') (row : Option Nat) : w.grownBy w' row := ⟨h.os, h.tape, h.output, h.size, fun k hk _ => h.block k hk⟩

theorem markText_int (a : Int) (h1 : 1 ≤ a) (h2 : a ≤ 99999999) (w : World) :
    Calls Try.prog 34 #[.int .i64 a] w fun e w' => e = .returned (.string (mt a.toNat)) ∧ Below w.heap.size w w' := by
  obtain ⟨k, rfl⟩ := Int.eq_ofNat_of_zero_le (show 0 ≤ a by omega)
  exact markText_any k (by omega) (by omega) w

end Go.Proofs.Ytpmaaflpknjbmaa.C
