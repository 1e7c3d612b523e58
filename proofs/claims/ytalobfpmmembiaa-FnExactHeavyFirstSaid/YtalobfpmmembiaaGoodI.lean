/-
  What impl.areStacks and impl.IsValidYard return. No statement of the seat by itself.
-/
import Derived.Test.YtalobfpmmembiaaGoodM
namespace Go.Proofs.Ytalobfpmmembiaa
open Go.RowKit

end Go.Proofs.Ytalobfpmmembiaa
