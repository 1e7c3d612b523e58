/-
  What impl.areStacks and impl.IsValidYard return. No statement of the seat by itself.
-/
import Derived.Test.YtffejbgcgagkpaaGoodM
namespace Go.Proofs.Ytffejbgcgagkpaa
open Go.RowKit

end Go.Proofs.Ytffejbgcgagkpaa
