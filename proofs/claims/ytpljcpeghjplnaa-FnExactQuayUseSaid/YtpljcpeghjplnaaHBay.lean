/-
  The laws' own helpers on bays: szBay, toBay, eqBay, markBay, heldBay; and the law's bay, opened. No statement of the seat by itself.
-/
import Derived.Test.YtpljcpeghjplnaaKeep
namespace Go.Proofs.Ytpljcpeghjplnaa
open Go.RowKit

/-- A value that reads as a bay. -/
def BdR (w : World) (v : Value) (h : Int) (Y : List (List Int)) : Prop := ∃ v0, v = .agg #[.int .i64 h, v0] ∧ YL w v0 Y
theorem BdR.below {w w' : World} {v : Value} {h : Int} {Y : List (List Int)} (hv : BdR w v h Y) (hb : Below w.heap.size w w') : BdR w' v h Y := by
  obtain ⟨v0, rfl, hv⟩ := hv
  exact ⟨v0, rfl, hv.below hb⟩
/-- A bay of the call's own. -/
def BdO (w : World) (B hi : Nat) (v : Value) (h : Int) (Y : List (List Int)) : Prop := ∃ v0, v = .agg #[.int .i64 h, v0] ∧ OwnY w B hi v0 Y
/-- A bay of the call's own was answered, and nothing older turned. -/
def NewBd (w : World) (h : Int) (Y : List (List Int)) (e : Ending) (w' : World) : Prop := ∃ a c, e = .returned (.agg #[.int .i64 h, .slice a Y.length c]) ∧ OwnY w' w.heap.size w'.heap.size (.slice a Y.length c) Y ∧ Below w.heap.size w w'
/-- A box of a bay. -/
def Box2 (W : World) (A : Nat) (h : Int) (x : Value) : Prop := A < W.heap.size ∧ W.cell? ⟨A, 0, none⟩ = some (.int .i64 h) ∧ W.cell? ⟨A, 1, none⟩ = some x
theorem Box2.below {W W' : World} {A : Nat} {h : Int} {x : Value} (hx : Box2 W A h x) (hb : Below W.heap.size W W') : Box2 W' A h x :=
  ⟨Nat.lt_of_lt_of_le hx.1 hb.size, (hb.cell (p := ⟨A, 0, none⟩) hx.1).trans hx.2.1, (hb.cell (p := ⟨A, 1, none⟩) hx.1).trans hx.2.2⟩
theorem Box2.span {W W' : World} {A lo hi : Nat} {h : Int} {x : Value} (hx : Box2 W A h x) (hs : Span lo hi W W') (ho : A < lo ∨ hi ≤ A) : Box2 W' A h x :=
  ⟨Nat.lt_of_lt_of_le hx.1 hs.size, (World.cell?_of_block (a := ⟨A, 0, none⟩) (hs.block A hx.1 ho)).trans hx.2.1, (World.cell?_of_block (a := ⟨A, 1, none⟩) (hs.block A hx.1 ho)).trans hx.2.2⟩
theorem Box2.new (W : World) (h : Int) (x : Value) (T : TypeId) : Box2 (W.alloc (.cells #[.int .i64 h, x] T)) W.heap.size h x := ⟨by simp, cell_of (heap_alloc_new W _) rfl, cell_of (heap_alloc_new W _) rfl⟩

/-- Two places of one block. -/
theorem set_cell_at (w : World) (b i j : Nat) (v : Value) (h : i ≠ j) : (w.setCell ⟨b, i, none⟩ v).cell? ⟨b, j, none⟩ = w.cell? ⟨b, j, none⟩ := World.cell?_setCell_other _ _ _ _ (fun e => h (by injection e))

/-- The result's box of a bay has been written. -/
theorem res_bay {w : World} {R : Nat} {x y : Value} (h v : Value) (c0 : w.cell? ⟨R, 0, none⟩ = some x) (c1 : w.cell? ⟨R, 1, none⟩ = some y) : ((w.setCell ⟨R, 0, none⟩ h).setCell ⟨R, 1, none⟩ v).cell? ⟨R, 0, none⟩ = some h ∧ ((w.setCell ⟨R, 0, none⟩ h).setCell ⟨R, 1, none⟩ v).cell? ⟨R, 1, none⟩ = some v :=
  ⟨by rw [set_cell_at _ _ _ _ _ (by decide)]; exact World.cell?_setCell_same _ _ h c0, World.cell?_setCell_same _ _ v (by rw [set_cell_at _ _ _ _ _ (by decide)]; exact c1)⟩

/-- What stays while the last question is asked. -/
def KeepB (w : World) (A X : Nat) (h : Int) (v0 s0 : Value) (Y : List (List Int)) (W : World) : Prop := Below w.heap.size w W ∧ YL w v0 Y ∧ YL w s0 Y ∧ Box2 W A h v0 ∧ Box2 W X h s0
section
variable {w W W' : World} {A X : Nat} {h : Int} {v0 s0 : Value} {Y : List (List Int)}
theorem KeepB.start (h1 : BdR w (.agg #[.int .i64 h, v0]) h Y) (h2 : BdR w (.agg #[.int .i64 h, s0]) h Y) (h3 : Box2 w A h v0) (h4 : Box2 w X h s0) : KeepB w A X h v0 s0 Y w := by
  obtain ⟨a, e, h1⟩ := h1
  obtain ⟨b, e2, h2⟩ := h2
  simp only [Value.agg.injEq, Array.mk.injEq, List.cons.injEq, true_and, and_true] at e e2
  subst e e2
  exact ⟨Below.refl _ _, h1, h2, h3, h4⟩
theorem KeepB.below (h1 : KeepB w A X h v0 s0 Y W) (hb : Below W.heap.size W W') : KeepB w A X h v0 s0 Y W' :=
  ⟨h1.1.trans (hb.mono h1.1.size), h1.2.1, h1.2.2.1, h1.2.2.2.1.below hb, h1.2.2.2.2.below hb⟩
theorem KeepB.drew (h1 : KeepB w A X h v0 s0 Y W) : KeepB w A X h v0 s0 Y W.drew := h1.below ⟨rfl, rfl, rfl, Nat.le_refl _, fun _ _ => rfl⟩
theorem KeepB.cells (h1 : KeepB w A X h v0 s0 Y W) : W.cell? ⟨A, 0, none⟩ = some (.int .i64 h) ∧ W.cell? ⟨A, 1, none⟩ = some v0 ∧ W.cell? ⟨X, 0, none⟩ = some (.int .i64 h) ∧ W.cell? ⟨X, 1, none⟩ = some s0 := ⟨h1.2.2.2.1.2.1, h1.2.2.2.1.2.2, h1.2.2.2.2.2.1, h1.2.2.2.2.2.2⟩
end

section
open Go.Joins Go.Deep Go.ChangeShapes Go.WideShapes Go.ChangeAt
variable {H : Type} {enc : TypeId × Value → H} {P : Program} {w : World} {base : Nat} {spare : Nat → Bool} {held : Bool}
/-- A struct of two one-cell fields, by value: its two values, and what each reads as. -/
theorem fields2 {r : Reach} {b0 : Nat} {t : TypeId} {f0 f1 : Field} {v : Value} {d : DataW H} {p : List MemPlace} (hs : P.underlying t = some (.struct #[f0, f1])) (hone : oneCellFields P #[f0, f1] = true) (hC : P.cellsOf t = 2)
    (hv : Value.okWide P w r b0 t v) (h : DataW.Trod enc P w base spare held t v d p) :
    ∃ (v0 v1 : Value) (y0 y1 : DataW H × List MemPlace) (n : Nat), v = .agg #[v0, v1] ∧ p = y0.2 ++ y1.2 ∧
      DataW.trod enc P w base spare held n f0.type [v0] = some y0 ∧ DataW.trod enc P w base spare held n f1.type [v1] = some y1 := by
  obtain ⟨cs, rfl, hsz⟩ := okWide_struct hs hv
  obtain ⟨l⟩ := cs
  have hl : l.length = 2 := hsz.trans hC
  obtain ⟨fuel, hf⟩ := h
  obtain ⟨y0, y1, n, hx, _, g0, g1⟩ := trod_struct2 hs hf
  simp only [Prod.mk.injEq] at hx
  obtain ⟨-, hp⟩ := hx
  have k0 := hone_of hone 0 f0 rfl
  have k1 := hone_of hone 1 f1 rfl
  match l, hl with
  | [c0, c1], _ =>
    exact ⟨c0, c1, y0, y1, n, rfl, hp, by simpa [k0, Value.cells] using g0, by simpa [k1, Value.cells] using g1⟩
end
end Go.Proofs.Ytpljcpeghjplnaa
