/-
  What the two StackHeights return. No statement of the seat by itself.
-/
import Derived.Test.YtpljcpeghjplnaaPlace
namespace Go.Proofs.Ytpljcpeghjplnaa
open Go.RowKit

/-- The heights of the stacks. -/
def heightL (Y : List (List Int)) (k : Nat) : List Int := (Y.take k).map fun l => (l.length : Int)
theorem heightL_succ {Y : List (List Int)} {k : Nat} {l : List Int} (h : Y[k]? = some l) : heightL Y (k + 1) = heightL Y k ++ [(l.length : Int)] := by
  simp [heightL, List.take_add_one, h]
theorem heightL_len {Y : List (List Int)} {k : Nat} (h : k ≤ Y.length) : (heightL Y k).length = k := by simp [heightL]; omega
def heightR (Y : List (List Int)) : List Int := if goodY Y = true then heightL Y Y.length else []
theorem heightR_len (Y : List (List Int)) : (heightR Y).length ≤ 1048576 := by
  unfold heightR
  split
  · rename_i h
    have := (goodY_iff.1 h).2.1
    rw [heightL_len (Nat.le_refl _)]
    omega
  · simp
/-- A list that has begun in the second block. -/
theorem below_two (w : World) (o1 o2 : Obj) : Below w.heap.size w ((w.alloc o1).alloc o2) := ((Below.refl _ w).alloc (Nat.le_refl _) _).alloc (by simp) _
theorem below_append {w wr w4 : World} {B : Nat} {sv : Value} {k : Nat} {xs : List Value} {o : Obj} (hB : Below w.heap.size w wr) (hr : wr.ownsRow B 3 1 sv k xs) (hw : w.heap.size ≤ B) (hg : (wr.alloc o).grownBy w4 sv.ownBlock) : Below w.heap.size w w4 :=
  (hB.alloc hB.size _).grown hg (by have := hB.size; simp; omega) (fun j e => by have := row_base hr j e; omega)
theorem cell_append {w wr w4 : World} {B b : Nat} {sv x : Value} {k : Nat} {xs : List Value} {o : Obj} (_hB : Below w.heap.size w wr) (hr : wr.ownsRow B 3 1 sv k xs) (hb : b < B) (hz : b < wr.heap.size) (hg : (wr.alloc o).grownBy w4 sv.ownBlock) (hc : wr.cell? ⟨b, 0, none⟩ = some x) : w4.cell? ⟨b, 0, none⟩ = some x := by
  rw [World.cell?_of_block (hg.block b (by simp; omega) (fun e => by have := row_base hr _ e.symm; omega)), World.cell?_alloc_lt _ _ _ hz]
  exact hc
theorem lo_of_own {w W : World} {B : Nat} {v : Value} {l : List Int} (h : W.ownsRow B 3 1 v l.length (intV l)) (hB : w.heap.size ≤ B) : LO W w.heap.size W.heap.size v l :=
  ⟨Nat.le_refl _, h.mono hB, fun b hb => row_lt h b hb⟩
theorem retL_of {w W : World} {B : Nat} {v : Value} {l : List Int} {ok : Bool} (h : W.ownsRow B 3 1 v l.length (intV l)) (hB : w.heap.size ≤ B) (hb : Below w.heap.size w W) : RetL w l ok (.returned (.tuple #[v, .bool ok])) W := by
  obtain ⟨a, c, rfl⟩ := own_form h
  exact ⟨a, c, rfl, lo_of_own h hB, hb⟩

end Go.Proofs.Ytpljcpeghjplnaa
