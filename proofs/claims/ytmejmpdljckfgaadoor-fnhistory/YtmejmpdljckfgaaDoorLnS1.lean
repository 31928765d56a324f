/-
  StationRight: the model's.
-/
import Derived.Test.YtmejmpdljckfgaaDoorLnI1
import Derived.Test.YtmejmpdljckfgaaDoorLnGr
import Derived.BigQuiet
import Derived.Deep.QuietTactic
namespace Go.Proofs.YtmejmpdljckfgaaDoor
open Go.RowKit Go.Deep

theorem sval19_any (n : Int) (w : World) :
    Calls Tryd.prog 73 #[.int .i64 n] w fun e w' => e = .returned (.bool (decide (-1000000 ≤ n ∧ n ≤ 1000000))) ∧ w' = w := by
  go_enter Tryd.func73, Tryd.ntmps73
  go_wp2_with fail
  all_goals
    go_ret
    exact ⟨by congr 2; simp <;> omega, rfl⟩
end Go.Proofs.YtmejmpdljckfgaaDoor
