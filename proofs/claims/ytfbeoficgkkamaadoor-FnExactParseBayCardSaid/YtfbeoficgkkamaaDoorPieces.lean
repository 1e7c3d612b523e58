/-
  Plain mathematics: the pieces of a text between the bytes of a separator, step by step. No program stands in it.
-/
import Derived.Lib.Hide
namespace Go.Proofs.YtfbeoficgkkamaaDoor

/-- After k bytes: the pieces that are complete, and where the next one starts. -/
def pst (s : ByteArray) (c : UInt8) : Nat → List ByteArray × Nat
  | 0 => ([], 0)
  | k + 1 => if h : k < s.size then (if s[k] = c then ((pst s c k).1 ++ [s.extract (pst s c k).2 k], k + 1) else pst s c k) else pst s c k

/-- All pieces of a text. -/
def pieces (s : ByteArray) (c : UInt8) : List ByteArray := (pst s c s.size).1 ++ [s.extract (pst s c s.size).2 s.size]

theorem pst_hit (s : ByteArray) (c : UInt8) (k : Nat) (h : k < s.size) (hc : s[k] = c) : pst s c (k + 1) = ((pst s c k).1 ++ [s.extract (pst s c k).2 k], k + 1) := by
  rw [pst, dif_pos h, if_pos hc]
theorem pst_miss (s : ByteArray) (c : UInt8) (k : Nat) (h : k < s.size) (hc : ¬ s[k] = c) : pst s c (k + 1) = pst s c k := by
  rw [pst, dif_pos h, if_neg hc]
theorem pst_le (s : ByteArray) (c : UInt8) (k : Nat) : (pst s c k).2 ≤ k := by
  induction k with
  | zero => simp [pst]
  | succ k ih =>
    rw [pst]
    split
    · split
      · exact Nat.le_refl _
      · omega
    · omega
theorem pst_len (s : ByteArray) (c : UInt8) (k : Nat) : (pst s c k).1.length ≤ k := by
  induction k with
  | zero => simp [pst]
  | succ k ih =>
    rw [pst]
    split
    · split
      · simp; omega
      · omega
    · omega
theorem pst_step (s : ByteArray) (c : UInt8) (k : Nat) : (pst s c k).1 <+: (pst s c (k + 1)).1 := by
  rw [pst]
  split
  · split
    · exact List.prefix_append _ _
    · exact List.prefix_refl _
  · exact List.prefix_refl _
theorem pst_mono (s : ByteArray) (c : UInt8) (k m : Nat) : (pst s c k).1 <+: (pst s c (k + m)).1 := by
  induction m with
  | zero => exact List.prefix_refl _
  | succ m ih => exact List.IsPrefix.trans ih (pst_step s c (k + m))
theorem pst_prefix (s : ByteArray) (c : UInt8) (k : Nat) (h : k ≤ s.size) : (pst s c k).1 <+: pieces s c := by
  have := pst_mono s c k (s.size - k)
  rw [show k + (s.size - k) = s.size by omega] at this
  exact List.IsPrefix.trans this (List.prefix_append _ _)
theorem pieces_len (s : ByteArray) (c : UInt8) : (pieces s c).length = (pst s c s.size).1.length + 1 := by simp [pieces]
theorem pst_lt (s : ByteArray) (c : UInt8) (k : Nat) (h : k ≤ s.size) : (pst s c k).1.length < (pieces s c).length := by
  have := (pst_mono s c k (s.size - k)).length_le
  rw [show k + (s.size - k) = s.size by omega] at this
  rw [pieces_len]; omega
theorem pieces_size (s : ByteArray) (c : UInt8) : (pieces s c).length ≤ s.size + 1 := by
  rw [pieces_len]; have := pst_len s c s.size; omega
end Go.Proofs.YtfbeoficgkkamaaDoor
