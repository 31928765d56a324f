/-
  The laws' conversions of one alarm and one act, alarms compared.
-/
import Derived.Test.YtmejmpdljckfgaaDoorAlMem
namespace Go.Proofs.YtmejmpdljckfgaaDoor
open Go.RowKit Go.Deep

end Go.Proofs.YtmejmpdljckfgaaDoor
