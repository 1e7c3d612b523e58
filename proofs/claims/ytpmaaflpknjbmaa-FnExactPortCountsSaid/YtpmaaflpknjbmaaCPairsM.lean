/-
  The laws' helpers markIntA2S and heldIntA2S. No statement of the seat by itself.
-/
import Derived.Test.YtpmaaflpknjbmaaCPairs
import Derived.Deep.LoopGhost
namespace Go.Proofs.Ytpmaaflpknjbmaa.C
open Go.RowKit

/-- What is written into pair j. -/
def mkP (k0 : Int) (j : Nat) : Int × Int := (k0 + 2 * (j : Int), k0 + 2 * (j : Int) + 1)
end Go.Proofs.Ytpmaaflpknjbmaa.C
