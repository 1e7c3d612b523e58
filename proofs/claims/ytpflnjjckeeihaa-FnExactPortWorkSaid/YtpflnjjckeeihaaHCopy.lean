/-
  Copies of bays: impl.copyBay, spec.l9Own; whether a row exists: spec.l9Row, impl.hasRow. No statement of the seat by itself.
-/
import Derived.Test.YtpflnjjckeeihaaHGood
import Derived.Test.YtpflnjjckeeihaaCopyI
import Derived.Deep.RegionLaw
namespace Go.Proofs.Ytpflnjjckeeihaa
open Go.RowKit

/-- The boxes of a bay that came in and of a bay that goes out. -/
structure FrB (w W : World) (hh : Int) (v0 : Value) : Prop where
  bl : Below w.heap.size w W
  a : Box2 W w.heap.size hh v0
  r : W.heap[w.heap.size + 1]? = some (.cells #[.int .i64 0, .slice none 0 0] 37 (0, 0))
theorem FrB.start (w : World) (hh : Int) (v0 : Value) : FrB w ((w.alloc (.cells #[.int .i64 hh, v0] 37)).alloc (.cells #[.int .i64 0, .slice none 0 0] 37)) hh v0 := by
  have hb0 := below_one w (.cells #[.int .i64 hh, v0] 37)
  have hb1 := below_one (w.alloc (.cells #[.int .i64 hh, v0] 37)) (.cells #[.int .i64 0, .slice none 0 0] 37)
  have hRb := heap_alloc_new (w.alloc (.cells #[.int .i64 hh, v0] 37)) (.cells #[.int .i64 0, .slice none 0 0] 37)
  rw [show (w.alloc (.cells #[.int .i64 hh, v0] 37)).heap.size = w.heap.size + 1 by simp] at hRb
  exact ⟨hb0.trans (hb1.mono (by simp)), (Box2.new w hh v0 37).below hb1, hRb⟩
section
variable {w W W' : World} {hh : Int} {v0 : Value}
theorem FrB.lt (h : FrB w W hh v0) : w.heap.size + 1 < W.heap.size := (Array.getElem?_eq_some_iff.1 h.r).1
theorem FrB.below (h : FrB w W hh v0) (hb : Below W.heap.size W W') : FrB w W' hh v0 := ⟨h.bl.trans (hb.mono h.bl.size), h.a.below hb, (hb.block _ h.lt).trans h.r⟩
theorem FrB.drew (h : FrB w W hh v0) : FrB w W.drew hh v0 := h.below ⟨rfl, rfl, rfl, Nat.le_refl _, fun _ _ => rfl⟩
theorem FrB.span {lo hi : Nat} (h : FrB w W hh v0) (hs : Span lo hi W W') (hl : w.heap.size + 1 < lo) : FrB w W' hh v0 :=
  ⟨Below.span h.bl (hs.lift (by omega)) h.bl.size, h.a.span hs (.inl (by omega)), (hs.block _ h.lt (.inl hl)).trans h.r⟩
/-- What the result's box says, and that it can be written. -/
theorem FrB.z (h : FrB w W hh v0) : W.cell? ⟨w.heap.size + 1, 0, none⟩ = some (.int .i64 0) ∧ W.cell? ⟨w.heap.size + 1, 1, none⟩ = some (.slice none 0 0) ∧ ∀ i, W.frozen? ⟨w.heap.size + 1, i, none⟩ = false := ⟨cell_of h.r rfl, cell_of h.r rfl, fun _ => free_of h.r⟩
theorem FrB.set (h : FrB w W hh v0) (x y : Value) : Below w.heap.size w ((W.setCell ⟨w.heap.size + 1, 0, none⟩ x).setCell ⟨w.heap.size + 1, 1, none⟩ y) :=
  (h.bl.setCell (p := ⟨w.heap.size + 1, 0, none⟩) (by show w.heap.size ≤ w.heap.size + 1; omega) _).setCell (p := ⟨w.heap.size + 1, 1, none⟩) (by show w.heap.size ≤ w.heap.size + 1; omega) _
end
theorem span_res (W : World) (R : Nat) (x y : Value) : Span R (R + 1) W ((W.setCell ⟨R, 0, none⟩ x).setCell ⟨R, 1, none⟩ y) := (span_set (Nat.le_refl R) (Nat.lt_succ_self R) x).trans (span_set (Nat.le_refl R) (Nat.lt_succ_self R) y)
theorem size_res (W : World) (R : Nat) (x y : Value) : ((W.setCell ⟨R, 0, none⟩ x).setCell ⟨R, 1, none⟩ y).heap.size = W.heap.size := by simp
/-- No bay was answered. -/
theorem retB_zero {w W : World} {hh : Int} {v0 : Value} (h : FrB w W hh v0) : RetB w 0 [] false (.returned (.tuple #[.agg #[.int .i64 0, .slice none 0 0], .bool false])) ((W.setCell ⟨w.heap.size + 1, 0, none⟩ (.int .i64 0)).setCell ⟨w.heap.size + 1, 1, none⟩ (.slice none 0 0)) :=
  ⟨none, 0, rfl, OwnY.nil _ _ _ (Nat.le_refl _), h.set _ _⟩
theorem retBI_zero {w W : World} {hh : Int} {v0 : Value} (h : FrB w W hh v0) : RetBI w 0 [] 0 false (.returned (.tuple #[.agg #[.int .i64 0, .slice none 0 0], .int .i64 0, .bool false])) ((W.setCell ⟨w.heap.size + 1, 0, none⟩ (.int .i64 0)).setCell ⟨w.heap.size + 1, 1, none⟩ (.slice none 0 0)) :=
  ⟨none, 0, rfl, OwnY.nil _ _ _ (Nat.le_refl _), h.set _ _⟩

end Go.Proofs.Ytpflnjjckeeihaa
