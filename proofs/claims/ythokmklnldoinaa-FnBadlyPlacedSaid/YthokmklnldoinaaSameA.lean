/-
  What cmp.Compare, slices.Compare, slices.Equal and spec.l1Same return of lists of numbers. No statement of the seat by itself.
-/
import Derived.Test.YthokmklnldoinaaSameM
namespace Go.Proofs.Ythokmklnldoinaa
open Go.RowKit

theorem nan_any (x : Int) (w : World) : Calls Try.prog 102 #[.int .i64 x] w fun e w' => e = .returned (.bool false) ∧ w = w' := by
  have h : (x != x) = false := by simp
  go_enter Try.func102, Try.ntmps102
  go_wp2_with fail
  go_ret
  exact ⟨rfl, rfl⟩
end Go.Proofs.Ythokmklnldoinaa
