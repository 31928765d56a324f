/-
  The contracts of the small functions on whole numbers: the greatest common divisor (both packages), the magnitude (both packages). Conditions: the arguments lie where the callers hand them in.
-/
import Derived.Test.YtlocpliljkgfnaaDoorProg
import Derived.Test.YtlocpliljkgfnaaDoorMath
import Derived.WalkKit
import Derived.WalkSpells
import Derived.WalkLawsBesides
import Derived.Deep.QuietTactic
import Derived.BigQuiet
import Derived.Below
namespace Go.Proofs.YtlocpliljkgfnaaDoor
open Go.RowKit

theorem ret_int {k : IntKind} {a b : Int} (h : a = b) : Ending.returned (.int k a) = .returned (.int k b) := by rw [h]

set_option maxHeartbeats 400000 in
theorem specAbs (a : Int) (w : World) (h1 : -9223372036854775807 ≤ a) (h2 : a ≤ 9223372036854775807) :
    Calls Tryd.prog 50 #[.int .i64 a] w fun e w' => e = .returned (.int .i64 a.natAbs) ∧ w' = w := by
  by_cases h : a < 0
  · go_enter Tryd.func50, Tryd.ntmps50
    go_wp2
    go_ret
    exact ⟨ret_int (by omega), rfl⟩
  · go_enter Tryd.func50, Tryd.ntmps50
    go_wp2
    go_ret
    exact ⟨ret_int (by omega), rfl⟩

end Go.Proofs.YtlocpliljkgfnaaDoor
