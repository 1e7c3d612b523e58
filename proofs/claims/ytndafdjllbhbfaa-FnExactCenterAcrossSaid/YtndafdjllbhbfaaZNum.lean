/-
  What impl.numbersWhere returns, over ints, for whatever function is handed to it. No statement of the seat by itself.
-/
import Derived.Test.YtndafdjllbhbfaaZN
import Derived.Test.YtndafdjllbhbfaaHeights
import Derived.Test.YtndafdjllbhbfaaOwnI
import Derived.Shelf.Abstract
namespace Go.Proofs.Ytndafdjllbhbfaa
open Go.RowKit

/-- While the numbers are collected. -/
def NumS (w wr : World) (sv : Value) (S : List Int) : Prop := wr.ownsRow w.heap.size 3 1 sv S.length (intV S) ∧ Below w.heap.size w wr ∧ sv ≠ .slice none 0 0
theorem NumS.below {w wr w' : World} {sv : Value} {S : List Int} (h : NumS w wr sv S) (hb : Below wr.heap.size wr w') : NumS w w' sv S := ⟨row_below h.1 hb, h.2.1.trans (hb.mono h.2.1.size), h.2.2⟩
theorem numS_start (w : World) : NumS w (w.alloc (.cells #[] 3)) (.slice (some ⟨w.heap.size, 0, none⟩) 0 0) [] := ⟨own_empty w (.cells #[] 3) 3 rfl, below_one w _, by simp⟩
theorem NumS.done {w wr : World} {sv : Value} {S : List Int} (h : NumS w wr sv S) : NewI w S (.returned sv) wr := by
  obtain ⟨h1, h2, h3⟩ := h
  obtain ⟨a, c, rfl⟩ := own_form h1
  exact ⟨a, c, rfl, h1, h2⟩
theorem NumS.push {w wr w4 : World} {sv v' : Value} {S : List Int} {x : Int} {o : Obj} (h : NumS w wr sv S) (ho : w4.ownsRow w.heap.size 3 1 v' (S.length + 1) (intV S ++ [.int .i64 x])) (hg : (wr.alloc o).grownBy w4 sv.ownBlock) (hn : v' ≠ .slice none 0 0) : NumS w w4 v' (S ++ [x]) :=
  ⟨by rw [List.length_append, List.length_singleton]; simpa [intV] using ho, ((h.2.1.alloc h.2.1.size _)).grown hg (by have := h.2.1.size; simp; omega) (fun j e => row_base h.1 j e), hn⟩

theorem all_beq (m n : Nat) : ((((m : Nat) : Int)) == ((n : Nat) : Int)) = decide (m = n) := by
  by_cases e : m = n
  · simp [e]
  · have : ¬ ((m : Int) = (n : Int)) := by omega
    simp [e, this]

end Go.Proofs.Ytndafdjllbhbfaa
