/-
  Plain mathematics: identifiers of containers, their check letters, and lists of containers. No program stands in it.
-/
import Derived.Lib.Hide
namespace Go.Proofs.Ytpmaaflpknjbmaa.C

/-- The byte at a place, 0 beyond the end. -/
def byteAt (s : ByteArray) (k : Nat) : UInt8 := if h : k < s.size then s[k] else 0
theorem byteAt_lt (s : ByteArray) (k : Nat) (h : k < s.size) : byteAt s k = s[k] := dif_pos h
/-- Whether the byte at place k is a letter (k below 3) or a digit. -/
def okAt (s : ByteArray) (k : Nat) : Bool := if k < 3 then decide (65 ≤ (byteAt s k).toNat) && decide ((byteAt s k).toNat ≤ 90) else decide (48 ≤ (byteAt s k).toNat) && decide ((byteAt s k).toNat ≤ 57)
/-- Three letters and four digits. -/
def sevenB (s : ByteArray) : Bool := decide (s.size = 7) && (List.range 7).all (okAt s)
theorem sevenB_iff (s : ByteArray) : sevenB s = true ↔ s.size = 7 ∧ ∀ k, k < 7 → okAt s k = true := by
  simp [sevenB, List.all_eq_true]
theorem okAt_low {s : ByteArray} {k : Nat} (h : okAt s k = true) (hk : k < 3) : 65 ≤ (byteAt s k).toNat ∧ (byteAt s k).toNat ≤ 90 := by
  unfold okAt at h; rw [if_pos hk] at h; simpa using h
theorem okAt_high {s : ByteArray} {k : Nat} (h : okAt s k = true) (hk : ¬ k < 3) : 48 ≤ (byteAt s k).toNat ∧ (byteAt s k).toNat ≤ 57 := by
  unfold okAt at h; rw [if_neg hk] at h; simpa using h
theorem not_okAt_low {s : ByteArray} {k : Nat} (h : ¬ okAt s k = true) (hk : k < 3) : (byteAt s k).toNat < 65 ∨ 90 < (byteAt s k).toNat := by
  unfold okAt at h; rw [if_pos hk] at h
  have : ¬ (65 ≤ (byteAt s k).toNat ∧ (byteAt s k).toNat ≤ 90) := by simpa using h
  omega
theorem not_okAt_high {s : ByteArray} {k : Nat} (h : ¬ okAt s k = true) (hk : ¬ k < 3) : (byteAt s k).toNat < 48 ∨ 57 < (byteAt s k).toNat := by
  unfold okAt at h; rw [if_neg hk] at h
  have : ¬ (48 ≤ (byteAt s k).toNat ∧ (byteAt s k).toNat ≤ 57) := by simpa using h
  omega
theorem seven_no (s : ByteArray) (k : Nat) (h7 : k < 7) (h : ¬ okAt s k = true) : sevenB s = false := by
  cases e : sevenB s with
  | false => rfl
  | true => exact absurd (((sevenB_iff s).1 e).2 k h7) h
theorem seven_size (s : ByteArray) (h : ¬ s.size = 7) : sevenB s = false := by
  cases e : sevenB s with
  | false => rfl
  | true => exact absurd ((sevenB_iff s).1 e).1 h

/-- The value of the byte at place k. -/
def valAt (s : ByteArray) (k : Nat) : Nat := if k < 3 then (byteAt s k).toNat - 64 else (byteAt s k).toNat - 48
/-- The weighted sum of the first k bytes. -/
def sumK (s : ByteArray) : Nat → Nat
  | 0 => 0
  | k + 1 => sumK s k + valAt s k * (k + 2)
theorem valAt_bd {s : ByteArray} {k : Nat} (h : okAt s k = true) : valAt s k ≤ 26 := by
  unfold valAt
  by_cases hk : k < 3
  · rw [if_pos hk]; have := okAt_low h hk; omega
  · rw [if_neg hk]; have := okAt_high h hk; omega
theorem sumK_bd (s : ByteArray) (h : ∀ k, k < 7 → okAt s k = true) : ∀ k, k ≤ 7 → sumK s k ≤ 234 * k
  | 0, _ => by simp [sumK]
  | k + 1, hk => by
    have h1 := sumK_bd s h k (by omega)
    have h2 := valAt_bd (h k (by omega))
    have h3 : valAt s k * (k + 2) ≤ 26 * 9 := Nat.mul_le_mul h2 (by omega)
    rw [sumK]; omega
/-- The remainder that gives the check letter. -/
def checkR (s : ByteArray) : Nat := sumK s 7 % 23
theorem checkR_lt (s : ByteArray) : checkR s < 23 := Nat.mod_lt _ (by decide)
/-- The check letter. -/
def letterB (s : ByteArray) : UInt8 := UInt8.ofNat (65 + checkR s)
theorem letterB_toNat (s : ByteArray) : (letterB s).toNat = 65 + checkR s := by
  have := checkR_lt s
  unfold letterB
  rw [UInt8.toNat_ofNat']
  exact Nat.mod_eq_of_lt (by omega)
def letterS (s : ByteArray) : ByteArray := ⟨#[letterB s]⟩
/-- What CheckLetter answers. -/
def checkAns (s : ByteArray) : ByteArray := if sevenB s = true then letterS s else ⟨#[]⟩

/-- The first seven bytes. -/
def head7 (s : ByteArray) : ByteArray := s.extract 0 7
theorem head7_size (s : ByteArray) (h : s.size = 8) : (head7 s).size = 7 := by
  unfold head7; rw [ByteArray.size_extract]; omega
/-- An identifier. -/
def idB (s : ByteArray) : Bool := decide (s.size = 8) && (sevenB (head7 s) && decide ((byteAt s 7).toNat = 65 + checkR (head7 s)))
theorem idB_iff (s : ByteArray) : idB s = true ↔ s.size = 8 ∧ sevenB (head7 s) = true ∧ (byteAt s 7).toNat = 65 + checkR (head7 s) := by
  simp [idB]
theorem id_size (s : ByteArray) (h : ¬ s.size = 8) : idB s = false := by simp [idB, h]
theorem id_seven (s : ByteArray) (h : sevenB (head7 s) = false) : idB s = false := by simp [idB, h]

/-- A container. -/
structure Cont where
  id : ByteArray
  size : Int
  weight : Int
  cargo : Int
  port : Int
def inB (lo hi x : Int) : Bool := decide (lo ≤ x) && decide (x ≤ hi)
/-- A valid container. -/
def goodB (c : Cont) : Bool := idB c.id && (inB 1 2 c.size && (inB 1 32000 c.weight && (inB 1 3 c.cargo && inB 1 9 c.port)))
theorem goodB_iff (c : Cont) : goodB c = true ↔ idB c.id = true ∧ (1 ≤ c.size ∧ c.size ≤ 2) ∧ (1 ≤ c.weight ∧ c.weight ≤ 32000) ∧ (1 ≤ c.cargo ∧ c.cargo ≤ 3) ∧ (1 ≤ c.port ∧ c.port ≤ 9) := by
  simp [goodB, inB]
/-- A list of n containers is valid. -/
def ListGood (n : Nat) (f : Nat → Cont) : Prop := n ≤ 12 ∧ (∀ i, i < n → goodB (f i) = true) ∧ ∀ i j, i < j → j < n → (f i).id ≠ (f j).id
end Go.Proofs.Ytpmaaflpknjbmaa.C
