/-
  The program's tests that numbers are from 0 to a top.
-/
import Derived.Test.YtmejmpdljckfgaaDoorNums
import Derived.Laws.AppendOwn
import Derived.OwnWalk
import Derived.Deep.OwnRows
import Derived.Deep.Heap
import Derived.WalkMore
import Derived.Lib.Hide
import Derived.Lib.SliceRun
import Derived.Deep.RegionWith
namespace Go.Proofs.YtmejmpdljckfgaaDoor
open Go.RowKit Go.Deep

set_option maxHeartbeats 400000 in
theorem awithin_any (x m : Int) (w : World) :
    Calls Tryd.prog 47 #[.int .i64 x, .int .i64 m] w fun e w' => e = .returned (.bool (decide (0 ≤ x ∧ x ≤ m))) ∧ w' = w := by
  by_cases h1 : 0 ≤ x
  · by_cases h2 : x ≤ m
    · rw [decide_eq_true (show 0 ≤ x ∧ x ≤ m from ⟨h1, h2⟩)]
      go_enter Tryd.func47, Tryd.ntmps47
      go_wp2_with fail
      go_ret
      exact ⟨rfl, rfl⟩
    · rw [decide_eq_false (show ¬ (0 ≤ x ∧ x ≤ m) from fun h => h2 h.2)]
      go_enter Tryd.func47, Tryd.ntmps47
      go_wp2_with fail
      go_ret
      exact ⟨rfl, rfl⟩
  · rw [decide_eq_false (show ¬ (0 ≤ x ∧ x ≤ m) from fun h => h1 h.1)]
    go_enter Tryd.func47, Tryd.ntmps47
    go_wp2_with fail
    go_ret
    exact ⟨rfl, rfl⟩
end Go.Proofs.YtmejmpdljckfgaaDoor
