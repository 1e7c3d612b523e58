/-
  The library's contract of slices.Sort laid at this program: a table of numbers, and the comparison of each body. No statement of the seat by itself.
-/
import Derived.Shelf.SlGeneric
import Derived.Shelf.SortM.Plain
import Derived.Ground.SlgmProg
import Derived.Test.YtjplbcfpbggnnaaProg
namespace Go.Proofs
open Go.Shelf
end Go.Proofs
