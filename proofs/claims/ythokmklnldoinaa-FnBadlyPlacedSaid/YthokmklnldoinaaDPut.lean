/-
  What spec.DrawPutBox draws: an own yard, small, and two numbers. No statement of the seat by itself.
-/
import Derived.Test.YthokmklnldoinaaDAny
import Derived.Test.YthokmklnldoinaaRet
namespace Go.Proofs.Ythokmklnldoinaa.D
open Go.RowKit

/-- The code that came in: len bytes that can be read. -/
def CodeArg (w : World) (a : Option Addr) (len : Nat) : Prop := len ≤ 65536 ∧ ∀ j, j < len → ∃ (cb off : Nat) (x : UInt8), a = some ⟨cb, off, none⟩ ∧ cb < w.heap.size ∧ w.cell? ⟨cb, off + j, none⟩ = some (.int .u8 (x.toNat : Int))
theorem CodeArg.below {w w' : World} {a : Option Addr} {len : Nat} (h : CodeArg w a len) (hb : Below w.heap.size w w') : CodeArg w' a len := ⟨h.1, fun j hj => by
  obtain ⟨cb, off, x, e, hlt, hc⟩ := h.2 j hj
  exact ⟨cb, off, x, e, Nat.lt_of_lt_of_le hlt hb.size, (hb.cell (p := ⟨cb, off + j, none⟩) hlt).trans hc⟩⟩
theorem cur_new (w : World) (a : Option Addr) (len cap : Nat) (h : CodeArg w a len) : Cur (w.alloc (.cells #[.slice a len cap, .int .i64 0, .int .u64 0] 62)) w.heap.size (.slice a len cap) 0 := by
  have hb : Below w.heap.size w (w.alloc (.cells #[.slice a len cap, .int .i64 0, .int .u64 0] 62)) := (Below.refl _ _).alloc (Nat.le_refl _) _
  refine ⟨a, len, cap, 0, 0, rfl, h.1, heap_alloc_new w _, Nat.le_refl _, fun j hj => ?_⟩
  obtain ⟨cb, off, x, e, hlt, hc⟩ := h.2 j hj
  exact ⟨cb, off, x, e, hlt, (hb.cell (p := ⟨cb, off + j, none⟩) hlt).trans hc⟩

/-- While a yard and numbers are drawn: the result's box, the draws' state behind it, the yard. -/
def DS (w : World) (v : Value) (N : Nat) (s : Value) (Y : List (List Int)) (W : World) : Prop :=
  Cur W (w.heap.size + 1) v N ∧ W.heap[w.heap.size]? = some (.cells #[.slice none 0 0] 26 (0, 0)) ∧ OwnY W (w.heap.size + 2) W.heap.size s Y ∧ Below w.heap.size w W ∧ w.heap.size + 2 ≤ W.heap.size
theorem DS.below {w W W' : World} {N : Nat} {v s : Value} {Y : List (List Int)} (h : DS w v N s Y W) (hb : Below W.heap.size W W') : DS w v N s Y W' := by
  obtain ⟨h1, h2, h3, h4, h5⟩ := h
  have hz := hb.size
  exact ⟨h1.below hb, (hb.block _ (by omega)).trans h2, (h3.below hb).mono (Nat.le_refl _) hz (Nat.le_refl _), h4.trans (hb.mono h4.size), by omega⟩
theorem DS.pick {w W W' : World} {N M : Nat} {v s : Value} {Y : List (List Int)} (h : DS w v N s Y W) (hc : Cur W' (w.heap.size + 1) v M) (hg : W.grownBy W' (some (w.heap.size + 1))) : DS w v M s Y W' := by
  obtain ⟨h1, h2, h3, h4, h5⟩ := h
  have hz := hg.size
  refine ⟨hc, (hg.block _ (by omega) (by intro e; injection e; omega)).trans h2, ?_, h4.grown hg h4.size (fun k e => by cases e; omega), by omega⟩
  exact (h3.span (Span.of_grown (lo := w.heap.size + 1) (hi := w.heap.size + 2) hg (fun k hk => by cases hk; omega)) (.inr (Nat.le_refl _))).mono (Nat.le_refl _) hz (Nat.le_refl _)
theorem DS.finish {w W : World} {N : Nat} {v s : Value} {Y : List (List Int)} (h : DS w v N s Y W) :
    (OwnY (W.setCell ⟨w.heap.size, 0, none⟩ s) w.heap.size (W.setCell ⟨w.heap.size, 0, none⟩ s).heap.size s Y ∧ Below w.heap.size w (W.setCell ⟨w.heap.size, 0, none⟩ s)) ∧ W.cell? ⟨w.heap.size, 0, none⟩ = some (.slice none 0 0) ∧ W.frozen? ⟨w.heap.size, 0, none⟩ = false := by
  obtain ⟨h1, h2, h3, h4, h5⟩ := h
  have hS : Span w.heap.size (w.heap.size + 1) W (W.setCell ⟨w.heap.size, 0, none⟩ s) := span_set (Nat.le_refl _) (by omega) s
  exact ⟨⟨(h3.span hS (.inr (by omega))).mono (by omega) hS.size (Nat.le_refl _), h4.setCell (p := ⟨w.heap.size, 0, none⟩) (Nat.le_refl _) s⟩, cell_of h2 rfl, free_of h2⟩
theorem DS.start {w W' : World} {M : Nat} {v s cv : Value} {c1 c2 : Value} {Y : List (List Int)} (hc : Cur W' (w.heap.size + 1) v M)
    (hg : ((w.alloc (.cells #[.slice none 0 0] 26)).alloc (.cells #[cv, c1, c2] 62)).grownBy W' (some (w.heap.size + 1))) (hY : OwnY W' ((w.alloc (.cells #[.slice none 0 0] 26)).alloc (.cells #[cv, c1, c2] 62)).heap.size W'.heap.size s Y) : DS w v M s Y W' := by
  have hb1 := below_one w (.cells #[.slice none 0 0] 26)
  have hb2 := below_one (w.alloc (.cells #[.slice none 0 0] 26)) (.cells #[cv, c1, c2] 62)
  have hb := hb1.trans (hb2.mono hb1.size)
  have e2 : ((w.alloc (.cells #[.slice none 0 0] 26)).alloc (.cells #[cv, c1, c2] 62)).heap.size = w.heap.size + 2 := by simp
  have hz := hg.size
  rw [e2] at hY
  refine ⟨hc, (hg.block _ (by omega) (by intro e; injection e; omega)).trans ((hb2.block w.heap.size (by simp)).trans (heap_alloc_new w _)), hY, hb.grown hg hb.size (fun k e => by cases e; omega), by omega⟩

/-- A yard and two numbers were drawn. -/
def DrawnYII (w : World) (e : Ending) (w' : World) : Prop :=
  ∃ a c Y, ∃ s x : Int, e = .returned (.tuple #[.agg #[.slice a Y.length c], .int .i64 s, .int .i64 x]) ∧ Y.length ≤ 7 ∧ rows5 Y ∧ OwnY w' w.heap.size w'.heap.size (.slice a Y.length c) Y ∧ Below w.heap.size w w'

end Go.Proofs.Ythokmklnldoinaa.D
