/-
  The laws' conversions, comparisons and marks of acts, alarms and rings.
-/
import Derived.Test.YtmejmpdljckfgaaDoorAlMem
import Derived.Test.YtmejmpdljckfgaaDoorReg
namespace Go.Proofs.YtmejmpdljckfgaaDoor
open Go.RowKit Go.Deep



end Go.Proofs.YtmejmpdljckfgaaDoor
