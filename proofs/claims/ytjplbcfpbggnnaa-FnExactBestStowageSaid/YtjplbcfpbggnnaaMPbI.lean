/-
  What impl.PlanBay returns. No statement of the seat by itself.
-/
import Derived.Test.YtjplbcfpbggnnaaMZb
import Derived.Deep.CutRange
import Derived.Deep.RegionHeldLaw
namespace Go.Proofs.Ytjplbcfpbggnnaa
open Go.RowKit

/-- No bay was answered. -/
theorem retB_none {w W : World} {R : Nat} (hb : Below w.heap.size w W) (hwR : w.heap.size ≤ R) :
    RetB w 0 [] false (.returned (.tuple #[.agg #[.int .i64 0, .slice none 0 0], .bool false])) ((W.setCell ⟨R, 0, none⟩ (.int .i64 0)).setCell ⟨R, 1, none⟩ (.slice none 0 0)) :=
  ⟨none, 0, rfl, OwnY.nil _ _ _ (Nat.le_refl _), (hb.setCell (p := ⟨R, 0, none⟩) hwR _).setCell (p := ⟨R, 1, none⟩) hwR _⟩
end Go.Proofs.Ytjplbcfpbggnnaa
