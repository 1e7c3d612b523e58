/-
  What impl.areStacks and impl.IsValidYard return. No statement of the seat by itself.
-/
import Derived.Test.YtjplbcfpbggnnaaGoodM
namespace Go.Proofs.Ytjplbcfpbggnnaa
open Go.RowKit

end Go.Proofs.Ytjplbcfpbggnnaa
