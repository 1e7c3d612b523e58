/-
  What impl.areStacks and impl.IsValidYard return. No statement of the seat by itself.
-/
import Derived.Test.YtpljcpeghjplnaaGoodM
namespace Go.Proofs.Ytpljcpeghjplnaa
open Go.RowKit

end Go.Proofs.Ytpljcpeghjplnaa
