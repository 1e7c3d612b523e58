/-
  An argument that is a rotation, opened: how many ports and days, what each reads as. No statement of the seat by itself.
-/
import Derived.Test.YthpiahellpnccaaDoorRot
import Derived.Deep.Slices
import Derived.Deep.Fields
import Derived.ChangeSame
import Derived.Lib.SmallJoins
import Derived.ProofKit
import Derived.OpenShut
import Derived.Carry
namespace Go.Proofs.YthpiahellpnccaaDoor
open Go.Joins Go.Deep Go.ChangeShapes Go.WideShapes Go.ChangeAt Go.RowKit

section
variable {H : Type} {enc : TypeId × Value → H} {P : Program} {w : World} {base : Nat} {spare : Nat → Bool} {held : Bool}
/-- A struct of two one-cell fields, by value: its two values, and what each reads as. -/
theorem fields2 {r : Reach} {b0 : Nat} {t : TypeId} {f0 f1 : Field} {v : Value} {d : DataW H} {p : List MemPlace} (hs : P.underlying t = some (.struct #[f0, f1])) (hone : oneCellFields P #[f0, f1] = true) (hC : P.cellsOf t = 2)
    (hv : Value.okWide P w r b0 t v) (h : DataW.Trod enc P w base spare held t v d p) :
    ∃ (v0 v1 : Value) (y0 y1 : DataW H × List MemPlace) (n : Nat), v = .agg #[v0, v1] ∧ p = y0.2 ++ y1.2 ∧
      DataW.trod enc P w base spare held n f0.type [v0] = some y0 ∧ DataW.trod enc P w base spare held n f1.type [v1] = some y1 := by
  obtain ⟨cs, rfl, hsz⟩ := okWide_struct hs hv
  obtain ⟨l⟩ := cs
  have hl : l.length = 2 := hsz.trans hC
  obtain ⟨fuel, hf⟩ := h
  obtain ⟨y0, y1, n, hx, _, g0, g1⟩ := trod_struct2 hs hf
  simp only [Prod.mk.injEq] at hx
  obtain ⟨-, hp⟩ := hx
  have k0 := hone_of hone 0 f0 rfl
  have k1 := hone_of hone 1 f1 rfl
  match l, hl with
  | [c0, c1], _ =>
    exact ⟨c0, c1, y0, y1, n, rfl, hp, by simpa [k0, Value.cells] using g0, by simpa [k1, Value.cells] using g1⟩
end

/-- A slice of ints that came in. -/
theorem open_argI {H : Type} {enc : TypeId × Value → H} {W : World} {v : Value} {n : Nat} {y : DataW H × List MemPlace} (h : DataW.trod enc Tryd.prog W 0 (fun _ => true) true n 22 [v] = some y) (hlt : ∀ x ∈ y.2, x.block < W.heap.size) :
    ∃ (len : Nat) (f : Nat → Int), len ≤ maxLen ∧ ArgI W v len f := by
  have c3 : Tryd.prog.cellsOf 3 = 1 := by kernel_rfl
  rcases open_ints Tryd.underlying22 Tryd.underlying3 c3 h with ⟨hcs, hx⟩ | ⟨a, len, cap, zs, hcs, _, hl, hm, hz, hx, hcell, _⟩
  · simp only [List.cons.injEq, and_true] at hcs
    subst hcs
    exact ⟨0, fun _ => 0, Nat.zero_le _, .inl ⟨rfl, _, _, rfl⟩⟩
  · simp only [List.cons.injEq, and_true] at hcs
    subst hcs
    simp only [if_true] at hz
    refine ⟨len, fun j => zs.getD j 0, by omega, ?_⟩
    by_cases hl0 : len = 0
    · subst hl0; exact .inl ⟨rfl, _, _, rfl⟩
    · obtain ⟨b, off, spot⟩ := a
      have hspot : spot = none := by simpa [Addr.add] using World.cell?_spot (hcell 0 (by omega))
      subst hspot
      have hbW : b < W.heap.size := hlt (.cell b off) (by rw [hx]; exact MemPlace.mem_row.2 ⟨0, by omega, by simp⟩)
      exact .inr ⟨b, off, cap, rfl, hbW, fun j hj => by rw [← add_plain]; exact hcell j (by omega)⟩

set_option maxRecDepth 100000 in
/-- The law's rotation. -/
theorem open_rot {H : Type} {enc : TypeId × Value → H} {W : World} {r : Reach} {b0 : Nat} {v : Value} {d : DataW H} {p : List MemPlace} (hv : Value.okWide Tryd.prog W r b0 24 v) (h : DataW.Trod enc Tryd.prog W 0 (fun _ => true) true 24 v d p) (hlt : ∀ x ∈ p, x.block < W.heap.size) :
    ∃ (n m : Nat) (f g : Nat → Int), n ≤ maxLen ∧ m ≤ maxLen ∧ ArgR W v n m f g := by
  obtain ⟨v0, v1, y0, y1, k, rfl, rfl, t0, t1⟩ := fields2 Tryd.underlying24 (by kernel_rfl) (by kernel_rfl) hv h
  obtain ⟨n, f, hn, a1⟩ := open_argI t0 (fun x hx => hlt x (List.mem_append_left _ hx))
  obtain ⟨m, g, hm, a2⟩ := open_argI t1 (fun x hx => hlt x (List.mem_append_right _ hx))
  exact ⟨n, m, f, g, hn, hm, v0, v1, rfl, a1, a2⟩
theorem rot_laidOut : laidOutB Tryd.prog = true := by kernel_rfl
theorem rot_own : ownKnob Tryd.prog.godebug = none := by kernel_rfl
end Go.Proofs.YthpiahellpnccaaDoor
