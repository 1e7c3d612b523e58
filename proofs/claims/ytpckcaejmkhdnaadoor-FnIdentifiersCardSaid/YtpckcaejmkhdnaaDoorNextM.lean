/-
  Plain mathematics of the next identifier: four digits, their number, the numeral filled up with zeros. No program stands in it.
-/
import Derived.Test.YtpckcaejmkhdnaaDoorId
import Derived.Lib.Atoi
import Derived.Lib.ItoaNum
namespace Go.Proofs.YtpckcaejmkhdnaaDoor

/-- The number that the bytes 3 to 6 spell. -/
def numK (s : ByteArray) : Nat → Nat
  | 0 => 0
  | k + 1 => 10 * numK s k + ((byteAt s (3 + k)).toNat - 48)
def num4 (s : ByteArray) : Nat := numK s 4
/-- Four digits. -/
def dig (m : Nat) : UInt8 := UInt8.ofNat (48 + m % 10)
def four (m : Nat) : List UInt8 := [dig (m / 1000), dig (m / 100), dig (m / 10), dig m]
/-- Three letters and a number of four digits. -/
def numS (L : ByteArray) (m : Nat) : ByteArray := ⟨(L.data.toList ++ four m).toArray⟩
theorem dig_toNat (m : Nat) : (dig m).toNat = 48 + m % 10 := by
  unfold dig
  rw [UInt8.toNat_ofNat']
  omega

theorem bytes_list (s : ByteArray) (n : Nat) (h : s.size = n) : ∃ l : List UInt8, s = ⟨l.toArray⟩ ∧ l.length = n := by
  obtain ⟨⟨l⟩⟩ := s
  exact ⟨l, rfl, h⟩
theorem bytes3 (s : ByteArray) (h : s.size = 3) : ∃ a b c, s = ⟨#[a, b, c]⟩ := by
  obtain ⟨l, rfl, hl⟩ := bytes_list s 3 h
  match l, hl with
  | [a, b, c], _ => exact ⟨a, b, c, rfl⟩
theorem bytes7 (s : ByteArray) (h : s.size = 7) : ∃ a b c d e f g, s = ⟨#[a, b, c, d, e, f, g]⟩ := by
  obtain ⟨l, rfl, hl⟩ := bytes_list s 7 h
  match l, hl with
  | [a, b, c, d, e, f, g], _ => exact ⟨a, b, c, d, e, f, g, rfl⟩
theorem bytes8 (s : ByteArray) (h : s.size = 8) : ∃ a b c d e f g x, s = ⟨#[a, b, c, d, e, f, g, x]⟩ := by
  obtain ⟨l, rfl, hl⟩ := bytes_list s 8 h
  match l, hl with
  | [a, b, c, d, e, f, g, x], _ => exact ⟨a, b, c, d, e, f, g, x, rfl⟩
theorem cut_list (s : ByteArray) (a b : Nat) : (s.extract a b).data.toList = (s.data.toList.drop a).take (b - a) := by
  rw [ByteArray.data_extract, Array.toList_extract, List.extract_eq_take_drop]
theorem cut_is (s : ByteArray) (i j : Nat) (l : List UInt8) (h : (s.data.toList.drop i).take (j - i) = l) : s.extract i j = ⟨l.toArray⟩ := by
  apply ByteArray.ext
  rw [← Array.toList_inj, cut_list, h]

/-- Three upper-case letters. -/
def Upper3 (L : ByteArray) : Prop := L.size = 3 ∧ ∀ k, k < 3 → okAt L k = true

theorem upper_of_seven (t : ByteArray) (h : sevenB t = true) : Upper3 (t.extract 0 3) := by
  obtain ⟨h7, hok⟩ := (sevenB_iff t).1 h
  obtain ⟨a, b, c, d, e, f, g, rfl⟩ := bytes7 t h7
  have e3 : (⟨#[a, b, c, d, e, f, g]⟩ : ByteArray).extract 0 3 = ⟨#[a, b, c]⟩ := cut_is _ _ _ [a, b, c] rfl
  rw [e3]
  refine ⟨rfl, fun k hk => ?_⟩
  have := hok k (by omega)
  match k, hk with
  | 0, _ => exact this
  | 1, _ => exact this
  | 2, _ => exact this
theorem numS_is (a b c : UInt8) (m : Nat) : numS ⟨#[a, b, c]⟩ m = ⟨#[a, b, c, dig (m / 1000), dig (m / 100), dig (m / 10), dig m]⟩ := rfl
theorem okDig (s : ByteArray) (k m : Nat) (h : byteAt s k = dig m) (hk : ¬ k < 3) : okAt s k = true := by
  unfold okAt
  rw [if_neg hk, h, dig_toNat]
  simp; omega
theorem seven_numS (L : ByteArray) (m : Nat) (h : Upper3 L) : sevenB (numS L m) = true := by
  obtain ⟨h3, hok⟩ := h
  obtain ⟨a, b, c, rfl⟩ := bytes3 L h3
  rw [numS_is]
  refine (sevenB_iff _).2 ⟨rfl, fun k hk => ?_⟩
  match k, hk with
  | 0, _ => exact hok 0 (by decide)
  | 1, _ => exact hok 1 (by decide)
  | 2, _ => exact hok 2 (by decide)
  | 3, _ => exact okDig _ 3 (m / 1000) rfl (by decide)
  | 4, _ => exact okDig _ 4 (m / 100) rfl (by decide)
  | 5, _ => exact okDig _ 5 (m / 10) rfl (by decide)
  | 6, _ => exact okDig _ 6 m rfl (by decide)

theorem num4_bytes (a b c d e f g : UInt8) : num4 ⟨#[a, b, c, d, e, f, g]⟩ = 10 * (10 * (10 * (10 * 0 + (d.toNat - 48)) + (e.toNat - 48)) + (f.toNat - 48)) + (g.toNat - 48) := rfl
theorem digits_of_seven (t : ByteArray) (h : sevenB t = true) : ∃ a b c d e f g, t = ⟨#[a, b, c, d, e, f, g]⟩ ∧ (48 ≤ d.toNat ∧ d.toNat ≤ 57) ∧ (48 ≤ e.toNat ∧ e.toNat ≤ 57) ∧ (48 ≤ f.toNat ∧ f.toNat ≤ 57) ∧ (48 ≤ g.toNat ∧ g.toNat ≤ 57) := by
  obtain ⟨h7, hok⟩ := (sevenB_iff t).1 h
  obtain ⟨a, b, c, d, e, f, g, rfl⟩ := bytes7 t h7
  exact ⟨a, b, c, d, e, f, g, rfl, okAt_high (hok 3 (by decide)) (by decide), okAt_high (hok 4 (by decide)) (by decide), okAt_high (hok 5 (by decide)) (by decide), okAt_high (hok 6 (by decide)) (by decide)⟩
theorem num4_le (t : ByteArray) (h : sevenB t = true) : num4 t ≤ 9999 := by
  obtain ⟨a, b, c, d, e, f, g, rfl, hd, he, hf, hg⟩ := digits_of_seven t h
  rw [num4_bytes]; omega
theorem dv (c : UInt8) (h : 48 ≤ c.toNat ∧ c.toNat ≤ 57) : Lib.digitVal c = some (c.toNat - 48) := by unfold Lib.digitVal; rw [if_pos h]
theorem tail_is (t : ByteArray) (h : sevenB t = true) : (t.extract 3 t.size).size = 4 ∧ Lib.atoi (t.extract 3 t.size).data.toList = some (num4 t : Int) := by
  obtain ⟨a, b, c, d, e, f, g, rfl, hd, he, hf, hg⟩ := digits_of_seven t h
  have e3 : (⟨#[a, b, c, d, e, f, g]⟩ : ByteArray).extract 3 (⟨#[a, b, c, d, e, f, g]⟩ : ByteArray).size = ⟨#[d, e, f, g]⟩ := cut_is _ _ _ [d, e, f, g] rfl
  rw [e3]
  refine ⟨rfl, ?_⟩
  have n1 : (d == 45) = false := by
    cases x : d == 45 with
    | false => rfl
    | true => have := eq_of_beq x; subst this; exact absurd hd.1 (by decide)
  have n2 : (d == 43) = false := by
    cases x : d == 43 with
    | false => rfl
    | true => have := eq_of_beq x; subst this; exact absurd hd.1 (by decide)
  show Lib.atoi [d, e, f, g] = _
  rw [num4_bytes]
  simp only [Lib.atoi, n1, n2, Lib.decNat, List.isEmpty_cons, Bool.false_eq_true, if_false, Lib.decFrom, dv d hd, dv e he, dv f hf, dv g hg, Option.map_some]
  congr 2
  omega
theorem nine_iff (c : UInt8) : c = 57 ↔ c.toNat = 57 := by
  constructor
  · rintro rfl; rfl
  · intro h; exact UInt8.toNat_inj.1 h
theorem nines (t : ByteArray) (h : sevenB t = true) : ((t.extract 3 t.size).toList == [57, 57, 57, 57]) = decide (num4 t = 9999) := by
  obtain ⟨a, b, c, d, e, f, g, rfl, hd, he, hf, hg⟩ := digits_of_seven t h
  have e3 : (⟨#[a, b, c, d, e, f, g]⟩ : ByteArray).extract 3 (⟨#[a, b, c, d, e, f, g]⟩ : ByteArray).size = ⟨#[d, e, f, g]⟩ := cut_is _ _ _ [d, e, f, g] rfl
  rw [e3, ByteArray.toList_eq, num4_bytes]
  show ([d, e, f, g] == [57, 57, 57, 57]) = _
  rw [Bool.eq_iff_iff, beq_iff_eq, decide_eq_true_iff]
  simp only [List.cons.injEq, and_true, nine_iff]
  omega

theorem dd_small (m : Nat) (h : m < 10) : Lib.decDigits m = [UInt8.ofNat (48 + m)] := by
  rw [Lib.decDigits]; simp [h]
theorem dd_big (m : Nat) (h : ¬ m < 10) : Lib.decDigits m = Lib.decDigits (m / 10) ++ [UInt8.ofNat (48 + m % 10)] := by
  rw [Lib.decDigits]; simp [h]
theorem dig_small (m : Nat) (h : m < 10) : UInt8.ofNat (48 + m) = dig m := by unfold dig; rw [Nat.mod_eq_of_lt h]
theorem dig_zero (m : Nat) (h : m = 0) : dig m = 48 := by subst h; rfl
/-- The numeral, filled up with zeros to four digits. -/
theorem pads (m : Nat) (h : m ≤ 9999) : 1 ≤ (Lib.decDigits m).length ∧ (Lib.decDigits m).length ≤ 4 ∧ List.replicate (4 - (Lib.decDigits m).length) 48 ++ Lib.decDigits m = four m := by
  unfold four
  by_cases h1 : m < 10
  · rw [dd_small m h1, dig_small m h1, dig_zero (m / 1000) (by omega), dig_zero (m / 100) (by omega), dig_zero (m / 10) (by omega)]
    exact ⟨by simp, by simp, rfl⟩
  · rw [dd_big m h1]
    by_cases h2 : m / 10 < 10
    · rw [dd_small _ h2, dig_small _ h2, dig_zero (m / 1000) (by omega), dig_zero (m / 100) (by omega)]
      exact ⟨by simp, by simp, rfl⟩
    · rw [dd_big _ h2]
      by_cases h3 : m / 10 / 10 < 10
      · rw [dd_small _ h3, dig_small _ h3, dig_zero (m / 1000) (by omega)]
        refine ⟨by simp, by simp, ?_⟩
        rw [show m / 10 / 10 = m / 100 by omega]
        rfl
      · rw [dd_big _ h3, dd_small (m / 10 / 10 / 10) (by omega), dig_small _ (by omega)]
        refine ⟨by simp, by simp, ?_⟩
        rw [show m / 10 / 10 / 10 = m / 1000 by omega, show m / 10 / 10 = m / 100 by omega]
        rfl

theorem head_facts (s : ByteArray) (h : idB s = true) : sevenB (s.extract 0 7) = true ∧ num4 (s.extract 0 7) = num4 s ∧ (s.extract 0 7).extract 0 3 = s.extract 0 3 ∧ s.extract 3 7 = (s.extract 0 7).extract 3 (s.extract 0 7).size := by
  obtain ⟨h8, h7, _⟩ := (idB_iff s).1 h
  refine ⟨h7, ?_⟩
  obtain ⟨a, b, c, d, e, f, g, x, rfl⟩ := bytes8 s h8
  have e7 : (⟨#[a, b, c, d, e, f, g, x]⟩ : ByteArray).extract 0 7 = ⟨#[a, b, c, d, e, f, g]⟩ := cut_is _ _ _ [a, b, c, d, e, f, g] rfl
  rw [e7]
  refine ⟨rfl, ?_, ?_⟩
  · rw [cut_is (⟨#[a, b, c, d, e, f, g]⟩ : ByteArray) 0 3 [a, b, c] rfl, cut_is (⟨#[a, b, c, d, e, f, g, x]⟩ : ByteArray) 0 3 [a, b, c] rfl]
  · rw [cut_is (⟨#[a, b, c, d, e, f, g]⟩ : ByteArray) 3 _ [d, e, f, g] rfl, cut_is (⟨#[a, b, c, d, e, f, g, x]⟩ : ByteArray) 3 7 [d, e, f, g] rfl]
end Go.Proofs.YtpckcaejmkhdnaaDoor
