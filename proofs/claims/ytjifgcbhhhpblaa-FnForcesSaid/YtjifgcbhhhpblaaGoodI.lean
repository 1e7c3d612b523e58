/-
  What impl.areStacks and impl.IsValidYard return. No statement of the seat by itself.
-/
import Derived.Test.YtjifgcbhhhpblaaGoodM
namespace Go.Proofs.Ytjifgcbhhhpblaa
open Go.RowKit

end Go.Proofs.Ytjifgcbhhhpblaa
