/-
  What the functions on yards return, as the laws ask it; spec.IsValidYard. No statement of the seat by itself.
-/
import Derived.Test.YtpljcpeghjplnaaKeep
import Derived.Test.YtpljcpeghjplnaaGoodI
namespace Go.Proofs.Ytpljcpeghjplnaa
open Go.RowKit

theorem Span.lift {lo lo' hi : Nat} {w w' : World} (h : Span lo hi w w') (hl : lo' ≤ lo) : Span lo' hi w w' := ⟨h.os, h.tape, h.output, h.size, fun k hk ho => h.block k hk (by omega)⟩
/-- A value was answered, and nothing older turned. -/
def RetP (w : World) (v : Value) (e : Ending) (w' : World) : Prop := e = .returned v ∧ Below w.heap.size w w'
/-- A list of ints of the call's own was answered, and a yes or no. -/
def RetL (w : World) (l : List Int) (ok : Bool) (e : Ending) (w' : World) : Prop := ∃ a c, e = .returned (.tuple #[.slice a l.length c, .bool ok]) ∧ LO w' w.heap.size w'.heap.size (.slice a l.length c) l ∧ Below w.heap.size w w'
/-- A yard of the call's own was answered, and a yes or no. -/
def RetY (w : World) (R : List (List Int)) (ok : Bool) (e : Ending) (w' : World) : Prop := ∃ a c, e = .returned (.tuple #[.agg #[.slice a R.length c], .bool ok]) ∧ OwnY w' w.heap.size w'.heap.size (.slice a R.length c) R ∧ Below w.heap.size w w'
/-- A yard of the call's own was answered, an int, and a yes or no. -/
def RetYI (w : World) (R : List (List Int)) (x : Int) (ok : Bool) (e : Ending) (w' : World) : Prop := ∃ a c, e = .returned (.tuple #[.agg #[.slice a R.length c], .int .i64 x, .bool ok]) ∧ OwnY w' w.heap.size w'.heap.size (.slice a R.length c) R ∧ Below w.heap.size w w'

theorem small_rows {Y : List (List Int)} (ht : tot Y ≤ 1048576) : ∀ (j : Nat) (l : List Int), Y[j]? = some l → l.length ≤ maxLen := fun j l hl => by have := row_len hl; unfold maxLen; omega
theorem small_len {n : Nat} (h : n ≤ 1048576) : n ≤ maxLen := by unfold maxLen; omega
end Go.Proofs.Ytpljcpeghjplnaa
