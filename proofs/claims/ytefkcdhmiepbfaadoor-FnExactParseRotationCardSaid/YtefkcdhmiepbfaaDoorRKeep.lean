/-
  The laws' last question, whether the rotation that was handed over still reads as it did: what stays while it is asked. No statement of the seat by itself.
-/
import Derived.Test.YtefkcdhmiepbfaaDoorRRot
import Derived.Deep.RegionHeld3
namespace Go.Proofs.YtefkcdhmiepbfaaDoor.R
open Go.RowKit

theorem below_one (w : World) (o : Obj) : Below w.heap.size w (w.alloc o) := (Below.refl _ _).alloc (Nat.le_refl _) _
/-- Four cells. -/
def Four (W : World) (A X : Nat) (v1 v2 s1 s2 : Value) : Prop := W.cell? ⟨A, 0, none⟩ = some v1 ∧ W.cell? ⟨A, 1, none⟩ = some v2 ∧ W.cell? ⟨X, 0, none⟩ = some s1 ∧ W.cell? ⟨X, 1, none⟩ = some s2
/-- What stays while the last question is asked. -/
def KeepR (w : World) (A X : Nat) (v1 v2 s1 s2 : Value) (n m : Nat) (p d : Nat → Int) (W : World) : Prop := Below w.heap.size w W ∧ ArgR w (.agg #[v1, v2]) n m p d ∧ ArgR W (.agg #[s1, s2]) n m p d ∧ A < W.heap.size ∧ X < W.heap.size ∧ Four W A X v1 v2 s1 s2
theorem KeepR.below {w W W' : World} {A X : Nat} {v1 v2 s1 s2 : Value} {n m : Nat} {p d : Nat → Int} (h : KeepR w A X v1 v2 s1 s2 n m p d W) (hb : Below W.heap.size W W') : KeepR w A X v1 v2 s1 s2 n m p d W' := by
  obtain ⟨h1, h2, h3, h4, h5, c0, c1, c2, c3⟩ := h
  exact ⟨h1.trans (hb.mono h1.size), h2, h3.below hb, Nat.lt_of_lt_of_le h4 hb.size, Nat.lt_of_lt_of_le h5 hb.size, (hb.cell (p := ⟨A, 0, none⟩) h4).trans c0, (hb.cell (p := ⟨A, 1, none⟩) h4).trans c1, (hb.cell (p := ⟨X, 0, none⟩) h5).trans c2, (hb.cell (p := ⟨X, 1, none⟩) h5).trans c3⟩
theorem KeepR.drew {w W : World} {A X : Nat} {v1 v2 s1 s2 : Value} {n m : Nat} {p d : Nat → Int} (h : KeepR w A X v1 v2 s1 s2 n m p d W) : KeepR w A X v1 v2 s1 s2 n m p d W.drew := h.below ⟨rfl, rfl, rfl, Nat.le_refl _, fun _ _ => rfl⟩
end Go.Proofs.YtefkcdhmiepbfaaDoor.R
