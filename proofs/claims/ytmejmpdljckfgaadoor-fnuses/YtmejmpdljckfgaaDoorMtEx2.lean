/-
  The laws' conversions of one meter and one read.
-/
import Derived.Test.YtmejmpdljckfgaaDoorMtEx1
namespace Go.Proofs.YtmejmpdljckfgaaDoor
open Go.RowKit Go.Deep

end Go.Proofs.YtmejmpdljckfgaaDoor
