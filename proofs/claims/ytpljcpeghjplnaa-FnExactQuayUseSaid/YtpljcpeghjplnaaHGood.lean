/-
  Whether a bay is valid: spec.l9Good and the two IsValidBay; whether it has a row. No statement of the seat by itself.
-/
import Derived.Test.YtpljcpeghjplnaaHRet
namespace Go.Proofs.Ytpljcpeghjplnaa
open Go.RowKit

/-- Whether a bay is valid. -/
def goodB (hh : Int) (Y : List (List Int)) : Bool := decide (1 ≤ hh ∧ hh ≤ 4) && goodH 5 hh.toNat Y
theorem goodB_high {hh : Int} {Y : List (List Int)} (h : ¬ (1 ≤ hh ∧ hh ≤ 4)) : goodB hh Y = false := by unfold goodB; rw [decide_eq_false h]; rfl
theorem goodB_nat {H : Nat} {Y : List (List Int)} (h1 : 1 ≤ H) (h4 : H ≤ 4) : goodB (H : Int) Y = goodH 5 H Y := by unfold goodB; rw [decide_eq_true (by omega)]; simp
theorem goodB_iff {hh : Int} {Y : List (List Int)} : goodB hh Y = true ↔ (1 ≤ hh ∧ hh ≤ 4) ∧ goodH 5 hh.toNat Y = true := by simp [goodB]
theorem goodB_rows {hh : Int} {Y : List (List Int)} (h : goodB hh Y = true) : 1 ≤ Y.length ∧ Y.length ≤ 5 ∧ (∀ l ∈ Y, l.length ≤ 4) ∧ Seen Y.flatten := by
  obtain ⟨h1, h2⟩ := goodB_iff.1 h
  obtain ⟨a, b, c, d⟩ := goodH_iff.1 h2
  exact ⟨a, b, fun l hl => by have := c l hl; omega, d⟩
/-- While the numbers are collected. -/
def CollB (w wr : World) (hh : Int) (v0 sv : Value) (S : List Int) : Prop := wr.ownsRow (w.heap.size + 1) 3 1 sv S.length (intV S) ∧ wr.cell? ⟨w.heap.size, 1, none⟩ = some v0 ∧ Below w.heap.size w wr ∧ w.heap.size + 1 ≤ wr.heap.size ∧ sv ≠ .slice none 0 0 ∧ wr.cell? ⟨w.heap.size, 0, none⟩ = some (.int .i64 hh)
theorem CollB.drewN {w wr : World} {hh : Int} {v0 sv : Value} {S : List Int} (h : CollB w wr hh v0 sv S) (q : Nat) : CollB w (wr.drewN q) hh v0 sv S :=
  ⟨row_below h.1 (below_drewN (Below.refl _ _) q), h.2.1, below_drewN h.2.2.1 q, h.2.2.2.1, h.2.2.2.2.1, h.2.2.2.2.2⟩
theorem collB_start (w : World) (hh : Int) (v0 : Value) (T : TypeId) : CollB w ((w.alloc (.cells #[.int .i64 hh, v0] T)).alloc (.cells #[] 3)) hh v0 (.slice (some ⟨w.heap.size + 1, 0, none⟩) 0 0) [] := by
  have h := own_empty (w.alloc (.cells #[.int .i64 hh, v0] T)) (.cells #[] 3) 3 rfl
  rw [show (w.alloc (.cells #[.int .i64 hh, v0] T)).heap.size = w.heap.size + 1 by simp] at h
  have hB := Box2.new w hh v0 T
  exact ⟨by simpa [intV] using h, (World.cell?_alloc_lt _ _ ⟨w.heap.size, 1, none⟩ hB.1).trans hB.2.2, ((Below.refl _ w).alloc (Nat.le_refl _) _).alloc (by simp) _, by simp, by simp, (World.cell?_alloc_lt _ _ ⟨w.heap.size, 0, none⟩ hB.1).trans hB.2.1⟩

/-- Whether a bay is valid and has a row. -/
def okB (hh : Int) (Y : List (List Int)) (s : Int) : Bool := goodB hh Y && decide (0 ≤ s ∧ s < (Y.length : Int))
theorem okB_iff {hh : Int} {Y : List (List Int)} {s : Int} : okB hh Y s = true ↔ goodB hh Y = true ∧ 0 ≤ s ∧ s < (Y.length : Int) := by simp [okB]
theorem okB_not {hh : Int} {Y : List (List Int)} {s : Int} (h : goodB hh Y = true → ¬ (0 ≤ s ∧ s < (Y.length : Int))) : okB hh Y s = false := by
  cases hb : okB hh Y s with
  | false => rfl
  | true => exact absurd (okB_iff.1 hb).2 (h (okB_iff.1 hb).1)
end Go.Proofs.Ytpljcpeghjplnaa
