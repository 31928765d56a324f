/-
  The program's tests of alarms, acts and values.
-/
import Derived.Test.YtlocpliljkgfnaaDoorAlMem
import Derived.Test.YtlocpliljkgfnaaDoorMtI1
import Derived.Test.YtlocpliljkgfnaaDoorReg
namespace Go.Proofs.YtlocpliljkgfnaaDoor
open Go.RowKit Go.Deep

theorem alabout_any (n : Int) (w : World) :
    Calls Tryd.prog 51 #[.int .i64 n, .int .i64 1000000] w fun e w' => e = .returned (.bool (decide (Al.V n))) ∧ w' = w := by
  go_enter Tryd.func51, Tryd.ntmps51
  go_wp2_with fail
  all_goals
    go_ret
    exact ⟨by rw [show decide (Al.V n) = decide (-1000000 ≤ n ∧ n ≤ 1000000) from rfl]; congr 2; simp <;> omega, rfl⟩
set_option maxRecDepth 100000 in
set_option maxHeartbeats 2000000 in
theorem value_any (n : Int) (w : World) :
    Calls Tryd.prog 39 #[.int .i64 n] w fun e w' => e = .returned (.bool (decide (Al.V n))) ∧ Below w.heap.size w w' := by
  go_enter Tryd.func39, Tryd.ntmps39
  go_wp2_with fail
  refine (alabout_any _ _).mono ?_
  rintro e w1 ⟨rfl, rfl⟩
  by_cases c : Al.V n
  · have HE := Lib.hid (decide_eq_true c)
    rw [decide_eq_true c]
    clear c
    go_wp2_with fail
    go_ret
    exact ⟨by rw [HE.out]; rfl, Below.refl _ _⟩
  · have HE := Lib.hid (decide_eq_false c)
    rw [decide_eq_false c]
    clear c
    go_wp2_with fail
    go_ret
    exact ⟨by rw [HE.out]; rfl, Below.refl _ _⟩
end Go.Proofs.YtlocpliljkgfnaaDoor
