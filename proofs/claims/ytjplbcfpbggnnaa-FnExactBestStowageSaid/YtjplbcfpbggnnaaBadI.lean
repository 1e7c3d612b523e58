/-
  What impl.badlyPlacedIn and impl.BadlyPlaced return. No statement of the seat by itself.
-/
import Derived.Test.YtjplbcfpbggnnaaEarI
import Derived.Test.YtjplbcfpbggnnaaBadM
import Derived.Test.YtjplbcfpbggnnaaOwnI
import Derived.Test.YtjplbcfpbggnnaaCopyI
import Derived.Test.YtjplbcfpbggnnaaBadP
import Derived.Test.YtjplbcfpbggnnaaLaidSrt
import Derived.Sort.OwnSortedInts
namespace Go.Proofs.Ytjplbcfpbggnnaa
open Go.RowKit Go.Sort

/-- A list of the call's own was answered, and nothing older turned. -/
def NewB (w : World) (R : List Int) (e : Ending) (w' : World) : Prop := ∃ u, e = .returned u ∧ w'.ownsRow w.heap.size 3 1 u R.length (intV R) ∧ Below w.heap.size w w'
theorem own_nil (w : World) (B : Nat) : w.ownsRow B 3 1 (.slice none 0 0) 0 (intV []) := ⟨rfl, .inl ⟨rfl, rfl⟩⟩

end Go.Proofs.Ytjplbcfpbggnnaa
