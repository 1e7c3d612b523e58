/-
  What impl.earliestIn and spec.l8Earliest, spec.l8Below and the two EarliestOf return. No statement of the seat by itself.
-/
import Derived.Test.YtalobfpmmembiaaEarM
namespace Go.Proofs.Ytalobfpmmembiaa
open Go.RowKit

/-- What EarliestOf answers. -/
def earR (Y : List (List Int)) (s : Int) : Int := if okS Y s = true then earL (Y.getD s.toNat []) else 0
theorem earR_no {Y : List (List Int)} {s : Int} (h : okS Y s = false) : earR Y s = 0 := by simp [earR, h]
theorem earR_yes {Y : List (List Int)} {i : Nat} {l : List Int} (h : okS Y (i : Int) = true) (hl : Y[i]? = some l) : earR Y (i : Int) = earL l := by
  simp only [earR, h, if_true, Int.toNat_natCast, getD_of hl]

end Go.Proofs.Ytalobfpmmembiaa
