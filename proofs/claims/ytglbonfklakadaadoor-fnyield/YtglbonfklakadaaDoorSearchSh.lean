/-
  The library's search by halves, laid at this program's numbers.
-/
import Derived.Shelf.SlSorted.Search
import Derived.Test.YtglbonfklakadaaDoorProg
namespace Go.Proofs
open Go.Shelf
def Tryd.searchL_ren : Go.Shelf.Ren := ⟨fun | 16 => 22 | n => n, fun | 3 => 3 | 35 => 62 | 4 => 4 | 38 => 75 | n => n, fun | n => n⟩
theorem Tryd.searchL : Go.Proofs.SlLaysO.n16 Tryd.prog Tryd.searchL_ren := {
  mixed := by kernel_rfl
  f16 := Tryd.func22.trans (congrArg some (by kernel_rfl))
  t3 := Tryd.underlying3
  a3 := Tryd.isAgg3
  z3 := Tryd.sizeOf3
  v3 := Tryd.zeroValue3
  t4 := Tryd.underlying4
  a4 := Tryd.isAgg4
  z4 := Tryd.sizeOf4
  v4 := Tryd.zeroValue4
  t35 := Tryd.underlying62
  a35 := Tryd.isAgg62
  z35 := Tryd.sizeOf62
  v35 := Tryd.zeroValue62
  t38 := Tryd.underlying75
  a38 := Tryd.isAgg75
  z38 := Tryd.sizeOf75
  v38 := Tryd.zeroValue75 }
end Go.Proofs
