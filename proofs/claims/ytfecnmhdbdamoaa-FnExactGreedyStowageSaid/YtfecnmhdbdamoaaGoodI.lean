/-
  What impl.areStacks and impl.IsValidYard return. No statement of the seat by itself.
-/
import Derived.Test.YtfecnmhdbdamoaaGoodM
namespace Go.Proofs.Ytfecnmhdbdamoaa
open Go.RowKit

end Go.Proofs.Ytfecnmhdbdamoaa
