/-
  The laws' conversions, comparisons and marks of reads and uses.
-/
import Derived.Test.YtmejmpdljckfgaaDoorMtMem
import Derived.Test.YtmejmpdljckfgaaDoorReg
namespace Go.Proofs.YtmejmpdljckfgaaDoor
open Go.RowKit Go.Deep


end Go.Proofs.YtmejmpdljckfgaaDoor
