/-
  What the functions on bays return, as the laws ask it. No statement of the seat by itself.
-/
import Derived.Test.YtpljcpeghjplnaaHBay
import Derived.Test.YtpljcpeghjplnaaRet
namespace Go.Proofs.Ytpljcpeghjplnaa
open Go.RowKit

/-- A bay of the call's own was answered, and a yes or no. -/
def RetB (w : World) (h : Int) (R : List (List Int)) (ok : Bool) (e : Ending) (w' : World) : Prop := ∃ a c, e = .returned (.tuple #[.agg #[.int .i64 h, .slice a R.length c], .bool ok]) ∧ OwnY w' w.heap.size w'.heap.size (.slice a R.length c) R ∧ Below w.heap.size w w'
/-- A bay of the call's own was answered, an int, and a yes or no. -/
def RetBI (w : World) (h : Int) (R : List (List Int)) (x : Int) (ok : Bool) (e : Ending) (w' : World) : Prop := ∃ a c, e = .returned (.tuple #[.agg #[.int .i64 h, .slice a R.length c], .int .i64 x, .bool ok]) ∧ OwnY w' w.heap.size w'.heap.size (.slice a R.length c) R ∧ Below w.heap.size w w'
end Go.Proofs.Ytpljcpeghjplnaa
