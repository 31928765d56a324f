/-
  The library's search by halves, laid at this program's numbers.
-/
import Derived.Shelf.SlSorted.Search
import Derived.Test.YtcelnplkoidmhabDoorProg
namespace Go.Proofs
open Go.Shelf
def Tryd.searchL_ren : Go.Shelf.Ren := ⟨fun | 16 => 50 | n => n, fun | 3 => 3 | 35 => 96 | 4 => 4 | 38 => 108 | n => n, fun | n => n⟩
theorem Tryd.searchL : Go.Proofs.SlLaysO.n16 Tryd.prog Tryd.searchL_ren := {
  mixed := by kernel_rfl
  f16 := Tryd.func50.trans (congrArg some (by kernel_rfl))
  t3 := Tryd.underlying3
  a3 := Tryd.isAgg3
  z3 := Tryd.sizeOf3
  v3 := Tryd.zeroValue3
  t4 := Tryd.underlying4
  a4 := Tryd.isAgg4
  z4 := Tryd.sizeOf4
  v4 := Tryd.zeroValue4
  t35 := Tryd.underlying96
  a35 := Tryd.isAgg96
  z35 := Tryd.sizeOf96
  v35 := Tryd.zeroValue96
  t38 := Tryd.underlying108
  a38 := Tryd.isAgg108
  z38 := Tryd.sizeOf108
  v38 := Tryd.zeroValue108 }
end Go.Proofs
