/-
  The library's sorting by a comparison, laid at this program's numbers.
-/
import Derived.Shelf.SlSortCmp.WholeK
import Derived.Ground.SlsfProg
import Derived.Test.YtipmjobhegpdgaaProg
namespace Go.Proofs
open Go.Shelf Go.RowKit Go.Sort
end Go.Proofs
