/-
  What the two LoadOrder return. No statement of the seat by itself.
-/
import Derived.Test.YtfecnmhdbdamoaaZNs
namespace Go.Proofs.Ytfecnmhdbdamoaa
open Go.RowKit

/-- The containers of the greatest k ports. -/
def loK (P : List Int) : Nat → List Int
  | 0 => []
  | k + 1 => loK P k ++ numsW (isP P (9 - (k : Int))) P.length
theorem loK_len (P : List Int) : ∀ k, (loK P k).length ≤ k * P.length
  | 0 => by simp [loK]
  | k + 1 => by
    have h1 := loK_len P k
    have h2 := numsW_len (isP P (9 - (k : Int))) P.length
    rw [loK, List.length_append, Nat.succ_mul]
    omega
theorem loK_small {P : List Int} (h : P.length ≤ 7) {k : Nat} (hk : k ≤ 9) : (loK P k).length ≤ 63 := by
  have h1 := loK_len P k
  have h2 : k * P.length ≤ 9 * 7 := Nat.mul_le_mul hk h
  omega
def loR (r h : Int) (P : List Int) : List Int := if goodZ r h P = true then loK P 9 else []
theorem loR_no {r h : Int} {P : List Int} (g : goodZ r h P = false) : loR r h P = [] := by simp [loR, g]
theorem loR_yes {r h : Int} {P : List Int} (g : goodZ r h P = true) : loR r h P = loK P 9 := by simp [loR, g]
theorem loR_len (r h : Int) (P : List Int) : (loR r h P).length ≤ 1048576 := by
  cases g : goodZ r h P with
  | false => rw [loR_no g]; simp
  | true =>
    rw [loR_yes g]
    have := loK_small (goodZ_iff.1 g).2.2.2.2.1 (Nat.le_refl 9)
    omega

/-- While the order grows: the order and the stowage's box. -/
structure OrdZ (w wr : World) (r h : Int) (v0 sv : Value) (S : List Int) : Prop where
  own : wr.ownsRow (w.heap.size + 1) 3 1 sv S.length (intV S)
  box : Box3 wr w.heap.size r h v0
  bl : Below w.heap.size w wr
  hlt : w.heap.size + 1 ≤ wr.heap.size
  nn : sv ≠ .slice none 0 0
section
variable {w wr W w4 : World} {r h : Int} {v0 sv v' : Value} {S : List Int}
theorem OrdZ.below (g : OrdZ w wr r h v0 sv S) (hb : Below wr.heap.size wr W) : OrdZ w W r h v0 sv S :=
  ⟨row_below g.own hb, g.box.below hb, g.bl.trans (hb.mono g.bl.size), Nat.le_trans g.hlt hb.size, g.nn⟩
theorem OrdZ.start (w : World) (r h : Int) (v0 : Value) : OrdZ w ((w.alloc (.cells #[.int .i64 r, .int .i64 h, v0] 57)).alloc (.cells #[] 3)) r h v0 (.slice (some ⟨w.heap.size + 1, 0, none⟩) 0 0) [] := by
  have hb0 := below_one w (.cells #[.int .i64 r, .int .i64 h, v0] 57)
  have hb1 := below_one (w.alloc (.cells #[.int .i64 r, .int .i64 h, v0] 57)) (.cells #[] 3)
  have ho := own_empty (w.alloc (.cells #[.int .i64 r, .int .i64 h, v0] 57)) (.cells #[] 3) 3 rfl
  have hs : (w.alloc (.cells #[.int .i64 r, .int .i64 h, v0] 57)).heap.size = w.heap.size + 1 := by simp
  rw [hs] at ho
  exact ⟨ho, (Box3.new w r h v0 57).below hb1, hb0.trans (hb1.mono hb0.size), by rw [← hs]; exact hb1.size, by simp⟩
/-- Numbers behind the order. -/
theorem OrdZ.more {L : List Int} (g : OrdZ w wr r h v0 sv S) (hb : Below wr.heap.size wr W) (ho : w4.ownsRow (w.heap.size + 1) 3 1 v' (S.length + L.length) (intV S ++ intV L)) (hg : W.grownBy w4 sv.ownBlock) (hn : v' ≠ .slice none 0 0) : OrdZ w w4 r h v0 v' (S ++ L) := by
  have g1 := g.below hb
  have hne : ∀ b, sv.ownBlock = some b → w.heap.size + 1 ≤ b := fun b e => row_base g.own b e
  have blk : W.heap[w.heap.size]? = w4.heap[w.heap.size]? := (hg.block _ g1.box.1 (fun e => by have := hne _ e.symm; omega)).symm
  refine ⟨by rw [List.length_append]; simpa [intV] using ho, ⟨Nat.lt_of_lt_of_le g1.box.1 hg.size, ?_, ?_, ?_⟩, g1.bl.grown hg g1.bl.size (fun j e => by have := hne j e; omega), Nat.le_trans g1.hlt hg.size, hn⟩
  · exact (World.cell?_of_block (a := ⟨w.heap.size, 0, none⟩) blk.symm).trans g1.box.2.1
  · exact (World.cell?_of_block (a := ⟨w.heap.size, 1, none⟩) blk.symm).trans g1.box.2.2.1
  · exact (World.cell?_of_block (a := ⟨w.heap.size, 2, none⟩) blk.symm).trans g1.box.2.2.2
theorem OrdZ.ret (g : OrdZ w wr r h v0 sv S) (ok : Bool) : RetL w S ok (.returned (.tuple #[sv, .bool ok])) wr := by
  obtain ⟨a, c, rfl⟩ := own_form g.own
  exact ⟨a, c, rfl, lo_of_own g.own (Nat.le_succ _), g.bl⟩
end

theorem numsW_one {p : Nat → Bool} {n : Nat} : numsW p (n + 1) = numsW p n ++ (if p n = true then [(n : Int) + 1] else []) := by
  cases h : p n with
  | true => rw [numsW_yes h]; rfl
  | false => rw [numsW_no h]; simp

end Go.Proofs.Ytfecnmhdbdamoaa
