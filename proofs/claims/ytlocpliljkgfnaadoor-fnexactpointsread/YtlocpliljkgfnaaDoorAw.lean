/-
  The program's tests that numbers are from 0 to a top.
-/
import Derived.Test.YtlocpliljkgfnaaDoorNums
import Derived.Laws.AppendOwn
import Derived.OwnWalk
import Derived.Deep.OwnRows
import Derived.Deep.Heap
import Derived.WalkMore
import Derived.Lib.Hide
import Derived.Lib.SliceRun
import Derived.Deep.RegionWith
namespace Go.Proofs.YtlocpliljkgfnaaDoor
open Go.RowKit Go.Deep

end Go.Proofs.YtlocpliljkgfnaaDoor
