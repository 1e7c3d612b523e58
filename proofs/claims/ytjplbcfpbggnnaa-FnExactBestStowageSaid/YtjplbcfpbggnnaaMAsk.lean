/-
  What spec.l10Plan, spec.l10Asked and spec.PlanBay return. No statement of the seat by itself.
-/
import Derived.Test.YtjplbcfpbggnnaaMPbS
import Derived.Test.YtjplbcfpbggnnaaMPbI
namespace Go.Proofs.Ytjplbcfpbggnnaa
open Go.RowKit

theorem flipZ {P : Program} {f : FuncId} {args : Array Value} {w : World} {v : Value} (h : Calls P f args w fun e w' => e = .returned v ∧ w = w') : Calls P f args w fun e w' => e = .returned v ∧ w' = w := h.mono fun _ _ ⟨a, b⟩ => ⟨a, b.symm⟩
end Go.Proofs.Ytjplbcfpbggnnaa
