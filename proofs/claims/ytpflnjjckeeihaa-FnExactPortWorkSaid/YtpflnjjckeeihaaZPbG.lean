/-
  The memory of the reference's bay while its rows are made. No statement of the seat by itself.
-/
import Derived.Test.YtpflnjjckeeihaaZPbM
import Derived.Test.YtpflnjjckeeihaaCopyS
namespace Go.Proofs.Ytpflnjjckeeihaa
open Go.RowKit

/-- While the rows are made: the stowage's box, the result's, the bay's, the rows. -/
def GrowS (r h : Int) (w wr : World) (v0 sv : Value) (Z : List (List Int)) : Prop :=
  wr.heap[w.heap.size]? = some (.cells #[.int .i64 r, .int .i64 h, v0] 26 (0, 0)) ∧ wr.heap[w.heap.size + 1]? = some (.cells #[.int .i64 0, .slice none 0 0] 37 (0, 0)) ∧ wr.heap[w.heap.size + 1 + 1]? = some (.cells #[.int .i64 h, sv] 37 (0, 0)) ∧
  OwnY wr (w.heap.size + 3) wr.heap.size sv Z ∧ Below w.heap.size w wr ∧ w.heap.size + 3 ≤ wr.heap.size
section
variable {r h : Int} {w wr w1 w4 : World} {v0 sv v' u : Value} {Z : List (List Int)} {l : List Int} {us : List Value}
theorem GrowS.cells (g : GrowS r h w wr v0 sv Z) : (wr.cell? ⟨w.heap.size, 0, none⟩ = some (.int .i64 r) ∧ wr.cell? ⟨w.heap.size, 1, none⟩ = some (.int .i64 h)) ∧ wr.cell? ⟨w.heap.size + 1 + 1, 1, none⟩ = some sv ∧ wr.cell? ⟨w.heap.size + 1 + 1, 0, none⟩ = some (.int .i64 h) := ⟨⟨cell_of g.1 rfl, cell_of g.1 rfl⟩, cell_of g.2.2.1 rfl, cell_of g.2.2.1 rfl⟩
theorem GrowS.start (r h : Int) (w : World) (v0 : Value) : GrowS r h w (((w.alloc (.cells #[.int .i64 r, .int .i64 h, v0] 26)).alloc (.cells #[.int .i64 0, .slice none 0 0] 37)).alloc (.cells #[.int .i64 h, .slice none 0 0] 37)) v0 (.slice none 0 0) [] := by
  obtain ⟨hk0, hk1, hk2, hs, hB0⟩ := three_alloc w (.cells #[.int .i64 r, .int .i64 h, v0] 26) (.cells #[.int .i64 0, .slice none 0 0] 37) (.cells #[.int .i64 h, .slice none 0 0] 37)
  exact ⟨hk0, hk1, hk2, OwnY.nil _ _ _ (Nat.le_refl _), hB0, by omega⟩
theorem GrowS.step (g : GrowS r h w wr v0 sv Z) (hus : wr.ownsRow (w.heap.size + 3) 24 1 sv Z.length us) (hr : Rows2 wr (w.heap.size + 3) wr.heap.size us Z)
    (hb1 : Below wr.heap.size wr w1) (ho : w1.ownsRow wr.heap.size 3 1 u l.length (intV l)) (hg : (w1.alloc (.cells #[u] 24)).grownBy w4 sv.ownBlock) (ho' : w4.ownsRow (w.heap.size + 3) 24 1 v' (Z.length + 1) (us ++ [u])) :
    GrowS r h w (w4.setCell ⟨w.heap.size + 1 + 1, 1, none⟩ v') v0 v' (Z ++ [l]) ∧ w4.cell? ⟨w.heap.size + 1 + 1, 1, none⟩ = some sv ∧ w4.frozen? ⟨w.heap.size + 1 + 1, 1, none⟩ = false := by
  obtain ⟨h1, h2, h3, h4, h5, h6⟩ := g
  have hz1 := hb1.size
  have ba : Below w1.heap.size w1 (w1.alloc (.cells #[u] 24)) := below_one _ _
  have hbW : Below wr.heap.size wr (w1.alloc (.cells #[u] 24)) := hb1.trans (ba.mono hz1)
  have hzW := hbW.size
  have hnb : ∀ k, k < w.heap.size + 3 → some k ≠ sv.ownBlock := fun k hk e => by have := row_base hus k e.symm; omega
  have old : ∀ k, k < w.heap.size + 3 → w4.heap[k]? = wr.heap[k]? := fun k hk => (hg.block k (by omega) (hnb k hk)).trans (hbW.block k (by omega))
  have hB4 : Below w.heap.size w w4 := ((h5.trans (hbW.mono h5.size)).grown hg (by omega) fun j e => by have := row_base hus j e; omega)
  have hP := OwnY.push (h4.below hbW) ⟨row_below hus hbW, hr.below hbW⟩ (row_below (own_base ho fun j hj => by have := row_base ho j hj; omega) ba) (fun b hb => row_base ho b hb) hg ho'
  have c3 := (old (w.heap.size + 1 + 1) (by omega)).trans h3
  have hS : Span (w.heap.size + 1 + 1) (w.heap.size + 3) w4 (w4.setCell ⟨w.heap.size + 1 + 1, 1, none⟩ v') := span_set (Nat.le_refl _) (by omega) v'
  refine ⟨⟨?_, ?_, by rw [Lib.heap_setCell_same (i := 1) c3]; rfl, ?_, hB4.setCell (p := ⟨w.heap.size + 1 + 1, 1, none⟩) (by show w.heap.size ≤ w.heap.size + 1 + 1; omega) _, ?_⟩, cell_of c3 rfl, free_of c3⟩
  · rw [Below.heap_setCell w4 ⟨w.heap.size + 1 + 1, 1, none⟩ v' _ (by show w.heap.size ≠ w.heap.size + 1 + 1; omega)]
    exact (old _ (by omega)).trans h1
  · rw [Below.heap_setCell w4 ⟨w.heap.size + 1 + 1, 1, none⟩ v' _ (by show w.heap.size + 1 ≠ w.heap.size + 1 + 1; omega)]
    exact (old _ (by omega)).trans h2
  · have := hP.span hS (.inr (by omega))
    simpa using this
  · have := hg.size; simp at this ⊢; omega
/-- The rows are made. -/
theorem GrowS.pb {g n c : Nat} (G : GrowS r h w wr v0 (.slice (some ⟨g, 0, none⟩) n c) Z) : PbS w wr r h v0 w.heap.size (w.heap.size + 1) (w.heap.size + 1 + 1) (w.heap.size + 3) g n c Z :=
  ⟨G.1, G.2.1, G.2.2.1, G.2.2.2.1, G.2.2.2.2.1, by omega⟩
end
/-- What was there before stays when a number is put on a row. -/
theorem PbS.put_bl {w wr w5 : World} {r h : Int} {v0 : Value} {A R D B g n c : Nat} {Y : List (List Int)} {s : Nat} {l : List Int} {u : Value} {o : Obj} (S : PbS w wr r h v0 A R D B g n c Y) (hl : Y[s]? = some l) (hu : wr.cell? ⟨g, s, none⟩ = some u)
    (hg : (wr.alloc o).grownBy w5 u.ownBlock) : Below w.heap.size w w5 := by
  obtain ⟨u2, hu2, -, hou, -⟩ := S.own.cell hl
  rw [hu] at hu2
  cases hu2
  have hb : Below wr.heap.size wr (wr.alloc o) := below_one wr o
  exact (S.bl.trans (hb.mono S.bl.size)).grown hg (Nat.le_trans S.bl.size hb.size) (fun j e => by have := row_base hou j e; have := S.hB; omega)
end Go.Proofs.Ytpflnjjckeeihaa
