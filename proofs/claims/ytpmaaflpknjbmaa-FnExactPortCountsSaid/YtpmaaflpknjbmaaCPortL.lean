/-
  Proved here: the law FnExactPortCounts returns true at every list of containers, and it reads afterwards as it read before. There are no conditions.
-/
import Derived.Test.YtpmaaflpknjbmaaRows
import Derived.Test.YtpmaaflpknjbmaaCOpen
import Derived.Test.YtpmaaflpknjbmaaCLawK
import Derived.Test.YtpmaaflpknjbmaaCLawH
import Derived.Test.YtpmaaflpknjbmaaCPairsM
import Derived.Test.YtpmaaflpknjbmaaCPortI
import Derived.WalkKit
import Derived.ProofKit
import Derived.OpenShut
namespace Go.Proofs.Ytpmaaflpknjbmaa
open Go.Proofs.Ytpmaaflpknjbmaa.C
open Go.Joins Go.Deep Go.ChangeShapes Go.WideShapes Go.ChangeAt Go.RowKit

end Go.Proofs.Ytpmaaflpknjbmaa
