/-
  Plain mathematics of decimal numerals: the two readings (the library's and the specification's) agree with the numerals that are written. No program stands in it.
-/
import Derived.Lib.Atoi
import Derived.Lib.AtoiAll
import Derived.Lib.AtoiTie
import Derived.Lib.ItoaNum
namespace Go.Proofs.YtcpelnnadabnpaaDoor
open Go.Lib

theorem dd_small (m : Nat) (h : m < 10) : decDigits m = [UInt8.ofNat (48 + m)] := by
  rw [decDigits]; simp [h]
theorem dd_big (m : Nat) (h : ¬ m < 10) : decDigits m = decDigits (m / 10) ++ [UInt8.ofNat (48 + m % 10)] := by
  rw [decDigits]; simp [h]

theorem digitVal_of (d : Nat) (h : d < 10) : digitVal (UInt8.ofNat (48 + d)) = some d := by
  have e : (UInt8.ofNat (48 + d)).toNat = 48 + d := by
    rw [UInt8.toNat_ofNat']; omega
  unfold digitVal
  rw [e, if_pos (by omega)]
  congr 1; omega

theorem decFrom_snoc (l : List UInt8) (b : UInt8) : ∀ acc : Nat, decFrom acc (l ++ [b]) = (decFrom acc l).bind fun n => (digitVal b).map fun d => n * 10 + d := by
  induction l with
  | nil => intro acc; simp only [List.nil_append, decFrom]; cases digitVal b <;> simp
  | cons a t ih =>
    intro acc
    simp only [List.cons_append, decFrom]
    cases digitVal a with
    | none => simp
    | some d => exact ih _

theorem decFrom_digits (k : Nat) : ∀ m, m < 10 ^ (k + 1) → decFrom 0 (decDigits m) = some m := by
  induction k with
  | zero =>
    intro m h
    have h' : m < 10 := by simpa using h
    rw [dd_small m h']
    simp only [decFrom, digitVal_of m h', Nat.zero_mul, Nat.zero_add]
  | succ k ih =>
    intro m h
    by_cases hm : m < 10
    · rw [dd_small m hm]
      simp only [decFrom, digitVal_of m hm, Nat.zero_mul, Nat.zero_add]
    · rw [dd_big m hm, decFrom_snoc, ih (m / 10) (by rw [Nat.div_lt_iff_lt_mul (by decide)]; rw [Nat.pow_succ] at h; exact h), digitVal_of _ (by omega)]
      simp; omega

theorem dd_len (k : Nat) : ∀ m, m < 10 ^ (k + 1) → (decDigits m).length ≤ k + 1 := by
  induction k with
  | zero => intro m h; rw [dd_small m (by simpa using h)]; simp
  | succ k ih =>
    intro m h
    by_cases hm : m < 10
    · rw [dd_small m hm]; simp
    · rw [dd_big m hm]
      have := ih (m / 10) (by rw [Nat.div_lt_iff_lt_mul (by decide)]; rw [Nat.pow_succ] at h; exact h)
      simp; omega

theorem dd_ne (m : Nat) : decDigits m ≠ [] := by
  by_cases hm : m < 10
  · rw [dd_small m hm]; simp
  · rw [dd_big m hm]; simp

/-- The first byte of a numeral is a digit. -/
theorem dd_head (k : Nat) : ∀ m, m < 10 ^ (k + 1) → ∃ c r, decDigits m = c :: r ∧ 48 ≤ c.toNat ∧ c.toNat ≤ 57 := by
  induction k with
  | zero =>
    intro m h
    have h' : m < 10 := by simpa using h
    refine ⟨_, _, dd_small m h', ?_, ?_⟩ <;> (rw [UInt8.toNat_ofNat']; omega)
  | succ k ih =>
    intro m h
    by_cases hm : m < 10
    · refine ⟨_, _, dd_small m hm, ?_, ?_⟩ <;> (rw [UInt8.toNat_ofNat']; omega)
    · obtain ⟨c, r, e, h1, h2⟩ := ih (m / 10) (by rw [Nat.div_lt_iff_lt_mul (by decide)]; rw [Nat.pow_succ] at h; exact h)
      exact ⟨c, r ++ [UInt8.ofNat (48 + m % 10)], by rw [dd_big m hm, e]; rfl, h1, h2⟩

/-- What is left behind a sign, as the specification takes it. -/
def bodyOf (l : List UInt8) : List UInt8 := if 1 < l.length ∧ l.head? = some 45 then l.tail else l
/-- The number of a text, as the specification reads it, before it is held against the text. -/
def rawOf (l : List UInt8) (n : Nat) : Int := if (bodyOf l).length < l.length then -(n : Int) else n
/-- The specification's reading. -/
def readL (l : List UInt8) : Int × Bool :=
  if 1 ≤ (bodyOf l).length ∧ (bodyOf l).length ≤ 6 then
    match decFrom 0 (bodyOf l) with
    | none => (0, false)
    | some n => if itoa (rawOf l n) = l then (rawOf l n, true) else (0, false)
  else (0, false)
/-- The program's reading. -/
def implL (l : List UInt8) : Int × Bool :=
  match atoiAll l with
  | .ok v => if (-999999 ≤ v ∧ v ≤ 999999) ∧ itoa v = l then (v, true) else (0, false)
  | _ => (0, false)

theorem itoa_of_nat (m : Nat) : itoa (m : Int) = decDigits m := by
  unfold itoa; rw [if_neg (by omega)]; rfl
theorem itoa_of_neg (m : Nat) (h : 0 < m) : itoa (-(m : Int)) = 45 :: decDigits m := by
  unfold itoa; rw [if_pos (by omega)]; simp

theorem atoiAll_digits (m : Nat) (h : m ≤ 999999) : atoiAll (decDigits m) = .ok (m : Int) := by
  have hl := dd_len 5 m (by omega)
  rw [atoiAll_short _ (by omega)]
  obtain ⟨c, r, e, h1, h2⟩ := dd_head 5 m (by omega)
  have hd := decFrom_digits 5 m (by omega)
  have hc1 : (c == 45) = false := by rw [beq_eq_false_iff_ne]; intro e; subst e; simp at h1
  have hc2 : (c == 43) = false := by rw [beq_eq_false_iff_ne]; intro e; subst e; simp at h1
  rw [e] at hd ⊢
  simp [atoi, hc1, hc2, decNat, hd, NumEnd.ofOption]

theorem atoiAll_neg (m : Nat) (h : m ≤ 999999) : atoiAll (45 :: decDigits m) = .ok (-(m : Int)) := by
  have hl := dd_len 5 m (by omega)
  rw [atoiAll_short _ (by simp; omega)]
  have hd := decFrom_digits 5 m (by omega)
  have hne := dd_ne m
  simp [atoi, decNat, hd, hne, NumEnd.ofOption]

theorem atoiAll_itoa (v : Int) (h1 : -999999 ≤ v) (h2 : v ≤ 999999) : atoiAll (itoa v) = .ok v := by
  by_cases h : v < 0
  · obtain ⟨m, hm⟩ : ∃ m : Nat, v = -(m : Int) := ⟨v.natAbs, by omega⟩
    subst hm
    rw [itoa_of_neg m (by omega), atoiAll_neg m (by omega)]
  · obtain ⟨m, hm⟩ : ∃ m : Nat, v = (m : Int) := ⟨v.toNat, by omega⟩
    subst hm
    rw [itoa_of_nat, atoiAll_digits m (by omega)]

theorem readL_itoa (v : Int) (h1 : -999999 ≤ v) (h2 : v ≤ 999999) : readL (itoa v) = (v, true) := by
  by_cases h : v < 0
  · obtain ⟨m, hm⟩ : ∃ m : Nat, v = -(m : Int) := ⟨v.natAbs, by omega⟩
    subst hm
    have e := itoa_of_neg m (by omega)
    have hl := dd_len 5 m (by omega)
    have hd := decFrom_digits 5 m (by omega)
    have hp : 0 < (decDigits m).length := List.length_pos_iff.2 (dd_ne m)
    have hb : bodyOf (itoa (-(m : Int))) = decDigits m := by
      unfold bodyOf; rw [e, if_pos ⟨by simp; omega, rfl⟩]; rfl
    have hr : rawOf (itoa (-(m : Int))) m = -(m : Int) := by
      unfold rawOf; rw [hb, e, if_pos (by simp)]
    unfold readL
    rw [hb, if_pos ⟨hp, by omega⟩, hd]
    simp [hr]
  · obtain ⟨m, hm⟩ : ∃ m : Nat, v = (m : Int) := ⟨v.toNat, by omega⟩
    subst hm
    have e := itoa_of_nat m
    have hl := dd_len 5 m (by omega)
    have hd := decFrom_digits 5 m (by omega)
    have hp : 0 < (decDigits m).length := List.length_pos_iff.2 (dd_ne m)
    obtain ⟨c, r, e2, g1, g2⟩ := dd_head 5 m (by omega)
    have hb : bodyOf (itoa (m : Int)) = decDigits m := by
      unfold bodyOf; rw [e, if_neg (by rw [e2]; intro hx; have := hx.2; simp at this; subst this; simp at g1)]
    have hr : rawOf (itoa (m : Int)) m = (m : Int) := by
      unfold rawOf; rw [hb, e, if_neg (by omega)]
    unfold readL
    rw [hb, if_pos ⟨hp, by omega⟩, hd]
    simp [hr]

theorem readL_true {l : List UInt8} {v : Int} (h : readL l = (v, true)) : itoa v = l ∧ -999999 ≤ v ∧ v ≤ 999999 := by
  unfold readL at h
  split at h
  · rename_i hlen
    split at h
    · simp at h
    · rename_i n hn
      split at h
      · rename_i hi
        have hv : rawOf l n = v := by simpa using congrArg Prod.fst h
        have hb := decFrom_lt (bodyOf l) 0 n hn
        have hp : 10 ^ (bodyOf l).length ≤ 10 ^ 6 := Nat.pow_le_pow_right (by decide) hlen.2
        rw [← hv]
        refine ⟨hi, ?_⟩
        unfold rawOf
        split <;> omega
      · simp at h
  · simp at h

theorem read_eq (l : List UInt8) : readL l = implL l := by
  by_cases h : ∃ v : Int, (-999999 ≤ v ∧ v ≤ 999999) ∧ itoa v = l
  · obtain ⟨v, hv, rfl⟩ := h
    rw [readL_itoa v hv.1 hv.2]
    unfold implL
    rw [atoiAll_itoa v hv.1 hv.2]
    simp [hv.1, hv.2]
  · have hr : readL l = (0, false) := by
      rcases hb : readL l with ⟨v, b⟩
      cases b with
      | true => exact absurd ⟨v, (readL_true hb).2, (readL_true hb).1⟩ h
      | false =>
        unfold readL at hb
        split at hb
        · split at hb
          · exact hb.symm
          · split at hb
            · simp at hb
            · exact hb.symm
        · exact hb.symm
    rw [hr]
    unfold implL
    split
    · rename_i v _
      rw [if_neg (fun hx => h ⟨v, hx⟩)]
    · rfl
end Go.Proofs.YtcpelnnadabnpaaDoor
