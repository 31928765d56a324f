/-
  The model's PointsRight and HistoryAt.
-/
import Derived.Test.YtmejmpdljckfgaaDoorHsMem
import Derived.Test.YtmejmpdljckfgaaDoorLnS1
import Derived.Deep.QuietTactic
import Derived.BigQuiet
namespace Go.Proofs.YtmejmpdljckfgaaDoor
open Go.RowKit Go.Deep

end Go.Proofs.YtmejmpdljckfgaaDoor
