/-
  The laws' rules: toLashRules, and an argument that is such rules, opened; what stays while a law's call is made. No statement of the seat by itself.
-/
import Derived.Test.YtffejbgcgagkpaaKeep
import Derived.Test.YtffejbgcgagkpaaRet
import Derived.Test.YtffejbgcgagkpaaHeights
import Derived.Test.YtffejbgcgagkpaaLawP
namespace Go.Proofs.Ytffejbgcgagkpaa
open Go.RowKit

/-- A box of three ints. -/
def BoxR (W : World) (A : Nat) (a b c : Int) : Prop := A < W.heap.size ∧ W.cell? ⟨A, 0, none⟩ = some (.int .i64 a) ∧ W.cell? ⟨A, 1, none⟩ = some (.int .i64 b) ∧ W.cell? ⟨A, 2, none⟩ = some (.int .i64 c)
theorem BoxR.below {W W' : World} {A : Nat} {a b c : Int} (h : BoxR W A a b c) (hb : Below W.heap.size W W') : BoxR W' A a b c :=
  ⟨Nat.lt_of_lt_of_le h.1 hb.size, (hb.cell (p := ⟨A, 0, none⟩) h.1).trans h.2.1, (hb.cell (p := ⟨A, 1, none⟩) h.1).trans h.2.2.1, (hb.cell (p := ⟨A, 2, none⟩) h.1).trans h.2.2.2⟩
theorem BoxR.span {W W' : World} {A lo hi : Nat} {a b c : Int} (h : BoxR W A a b c) (hs : Span lo hi W W') (ho : A < lo ∨ hi ≤ A) : BoxR W' A a b c :=
  ⟨Nat.lt_of_lt_of_le h.1 hs.size, (World.cell?_of_block (a := ⟨A, 0, none⟩) (hs.block A h.1 ho)).trans h.2.1, (World.cell?_of_block (a := ⟨A, 1, none⟩) (hs.block A h.1 ho)).trans h.2.2.1, (World.cell?_of_block (a := ⟨A, 2, none⟩) (hs.block A h.1 ho)).trans h.2.2.2⟩
theorem BoxR.new (W : World) (a b c : Int) (T : TypeId) : BoxR (W.alloc (.cells #[.int .i64 a, .int .i64 b, .int .i64 c] T)) W.heap.size a b c := ⟨by simp, cell_of (heap_alloc_new W _) rfl, cell_of (heap_alloc_new W _) rfl, cell_of (heap_alloc_new W _) rfl⟩
theorem BoxR.drew {W : World} {A : Nat} {a b c : Int} (h : BoxR W A a b c) : BoxR W.drew A a b c := h.below ⟨rfl, rfl, rfl, Nat.le_refl _, fun _ _ => rfl⟩
theorem LO.lower {w : World} {B B' hi : Nat} {v : Value} {l : List Int} (h : LO w B hi v l) (hB : B' ≤ B) : LO w B' hi v l := ⟨h.1, h.2.1.mono hB, h.2.2⟩

/-- What stays while a call is made: the law's list and its rules. -/
def KeepR (w : World) (A : Nat) (a b c : Int) (v : Value) (l : List Int) (W : World) : Prop := Below w.heap.size w W ∧ IL w v l ∧ BoxR W A a b c
section
variable {w W W' : World} {A : Nat} {a b c : Int} {v : Value} {l : List Int}
theorem KeepR.start (h1 : IL w v l) (h2 : BoxR w A a b c) : KeepR w A a b c v l w := ⟨Below.refl _ _, h1, h2⟩
theorem KeepR.below (h : KeepR w A a b c v l W) (hb : Below W.heap.size W W') : KeepR w A a b c v l W' := ⟨h.1.trans (hb.mono h.1.size), h.2.1, h.2.2.below hb⟩
theorem KeepR.drew (h : KeepR w A a b c v l W) : KeepR w A a b c v l W.drew := h.below ⟨rfl, rfl, rfl, Nat.le_refl _, fun _ _ => rfl⟩
theorem KeepR.size (h : KeepR w A a b c v l W) : w.heap.size ≤ W.heap.size := h.1.size
theorem KeepR.cells (h : KeepR w A a b c v l W) : W.cell? ⟨A, 0, none⟩ = some (.int .i64 a) ∧ W.cell? ⟨A, 1, none⟩ = some (.int .i64 b) ∧ W.cell? ⟨A, 2, none⟩ = some (.int .i64 c) := h.2.2.2
theorem KeepR.to (hn : l.length ≤ 1048576) (h : KeepR w A a b c v l W) :
    Calls Try.prog 31 #[v] W fun e w' => ∃ u, e = .returned u ∧ OwnI w' u l ∧ w'.cell? ⟨A, 0, none⟩ = some (.int .i64 a) ∧ w'.cell? ⟨A, 1, none⟩ = some (.int .i64 b) ∧ w'.cell? ⟨A, 2, none⟩ = some (.int .i64 c) ∧ KeepR w A a b c v l w' := by
  refine (toI_any v l hn W (h.2.1.below h.1)).mono ?_
  rintro e w' ⟨a', c', rfl, ho, hb⟩
  have hk := h.below hb
  obtain ⟨q0, q1, q2⟩ := hk.cells
  exact ⟨_, rfl, ⟨_, ho⟩, q0, q1, q2, hk⟩
end

section
open Go.Joins Go.Deep Go.ChangeShapes Go.WideShapes Go.ChangeAt
variable {H : Type} {enc : TypeId × Value → H} {P : Program} {w : World} {base : Nat} {spare : Nat → Bool} {held : Bool}
/-- A struct of three one-cell fields, by value: its three values, and what each reads as. -/
theorem fieldsR {r : Reach} {b0 : Nat} {t : TypeId} {f0 f1 f2 : Field} {v : Value} {d : DataW H} {p : List MemPlace} (hs : P.underlying t = some (.struct #[f0, f1, f2])) (hone : oneCellFields P #[f0, f1, f2] = true) (hC : P.cellsOf t = 3)
    (hv : Value.okWide P w r b0 t v) (h : DataW.Trod enc P w base spare held t v d p) :
    ∃ (v0 v1 v2 : Value) (y0 y1 y2 : DataW H × List MemPlace) (n : Nat), v = .agg #[v0, v1, v2] ∧ p = y0.2 ++ (y1.2 ++ y2.2) ∧
      DataW.trod enc P w base spare held n f0.type [v0] = some y0 ∧ DataW.trod enc P w base spare held n f1.type [v1] = some y1 ∧ DataW.trod enc P w base spare held n f2.type [v2] = some y2 := by
  obtain ⟨cs, rfl, hsz⟩ := okWide_struct hs hv
  obtain ⟨l⟩ := cs
  have hl : l.length = 3 := hsz.trans hC
  obtain ⟨fuel, hf⟩ := h
  obtain ⟨xs, n, _, he, _, hlen, hg⟩ := DataW.trod_struct hs hf
  have hx : xs.length = 3 := hlen
  have k0 := hone_of hone 0 f0 rfl
  have k1 := hone_of hone 1 f1 rfl
  have k2 := hone_of hone 2 f2 rfl
  match l, hl, xs, hx with
  | [c0, c1, c2], _, [y0, y1, y2], _ =>
    refine ⟨c0, c1, c2, y0, y1, y2, n, rfl, ?_, by simpa [Value.cells, k0] using hg 0 f0 rfl, by simpa [Value.cells, k1] using hg 1 f1 rfl, by simpa [Value.cells, k2] using hg 2 f2 rfl⟩
    simp only [Prod.mk.injEq] at he
    simpa using he.2
end
end Go.Proofs.Ytffejbgcgagkpaa
