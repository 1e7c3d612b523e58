/-
  Copies of bays: impl.copyBay, spec.l9Own; whether a row exists: spec.l9Row, impl.hasRow. No statement of the seat by itself.
-/
import Derived.Test.YtpljcpeghjplnaaHGood
import Derived.Test.YtpljcpeghjplnaaCopyI
import Derived.Deep.RegionLaw
namespace Go.Proofs.Ytpljcpeghjplnaa
open Go.RowKit

section
variable {w W W' : World} {hh : Int} {v0 : Value}
end
theorem span_res (W : World) (R : Nat) (x y : Value) : Span R (R + 1) W ((W.setCell ⟨R, 0, none⟩ x).setCell ⟨R, 1, none⟩ y) := (span_set (Nat.le_refl R) (Nat.lt_succ_self R) x).trans (span_set (Nat.le_refl R) (Nat.lt_succ_self R) y)
theorem size_res (W : World) (R : Nat) (x y : Value) : ((W.setCell ⟨R, 0, none⟩ x).setCell ⟨R, 1, none⟩ y).heap.size = W.heap.size := by simp
end Go.Proofs.Ytpljcpeghjplnaa
