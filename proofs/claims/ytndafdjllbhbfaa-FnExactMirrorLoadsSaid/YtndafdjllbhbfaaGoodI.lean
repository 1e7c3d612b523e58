/-
  What impl.areStacks and impl.IsValidYard return. No statement of the seat by itself.
-/
import Derived.Test.YtndafdjllbhbfaaGoodM
namespace Go.Proofs.Ytndafdjllbhbfaa
open Go.RowKit

end Go.Proofs.Ytndafdjllbhbfaa
