/-
  What slices.Clone answers; what calls of this chapter answer: a list, a number and whether it worked. No statement of the seat by itself.
-/
import Derived.Test.YtalobfpmmembiaaLawP
import Derived.Test.YtalobfpmmembiaaOwn
import Derived.Laws.Cover3
namespace Go.Proofs.Ytalobfpmmembiaa
open Go.RowKit

/-- A list of the call's own, a number, and whether it worked. -/
def RetLX (w : World) (R : List Int) (x : Int) (ok : Bool) (e : Ending) (w' : World) : Prop := ∃ a c, e = .returned (.tuple #[.slice a R.length c, .int .i64 x, .bool ok]) ∧ LO w' w.heap.size w'.heap.size (.slice a R.length c) R ∧ Below w.heap.size w w'
/-- A list that reads so, a number, and whether it worked. -/
def SeenLX (w : World) (R : List Int) (x : Int) (ok : Bool) (e : Ending) (w' : World) : Prop := ∃ a c, e = .returned (.tuple #[.slice a R.length c, .int .i64 x, .bool ok]) ∧ IL w' (.slice a R.length c) R ∧ Below w.heap.size w w'
theorem RetLX.seen {w w' : World} {R : List Int} {x : Int} {ok : Bool} {e : Ending} (h : RetLX w R x ok e w') : SeenLX w R x ok e w' := by
  obtain ⟨a, c, he, h1, h2⟩ := h
  exact ⟨a, c, he, h1.read, h2⟩

theorem eqlNil (a : Addr) (n cap : Nat) (w : World) : Sem.run Try.prog (binOp BinOp.eql 24 (.slice (some a) n cap) (.slice none 0 0)) w = Result.ok (.bool false) w := by
  have h := run_equal_slice_nil (P := Try.prog) w 24 3 (some a) n cap Try.underlying24
  unfold binOp
  simp [h]

end Go.Proofs.Ytalobfpmmembiaa
