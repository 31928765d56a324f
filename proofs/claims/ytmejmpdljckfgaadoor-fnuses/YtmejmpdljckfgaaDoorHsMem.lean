/-
  Points as they lie in memory.
-/
import Derived.Test.YtmejmpdljckfgaaDoorNtMem
import Derived.Test.YtmejmpdljckfgaaDoorMtMem
import Derived.Test.YtmejmpdljckfgaaDoorAlMem
import Derived.Test.YtmejmpdljckfgaaDoorLnMem
import Derived.Test.YtmejmpdljckfgaaDoorHsMath
import Derived.Lib.Hide
namespace Go.Proofs.YtmejmpdljckfgaaDoor
open Go.RowKit Go.Deep

/-- Points in a block, from an argument or of a call's own. -/
theorem NqOwn.at2 {T : TypeId} {B N : Nat} {a : Option Addr} {f : Nat → Int} {W : World} (h : NqOwn T B N a f W) : IsIn a (N * 2) f W := h.in_
end Go.Proofs.YtmejmpdljckfgaaDoor
