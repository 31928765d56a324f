/-
  StationRight: the model's.
-/
import Derived.Test.YtlocpliljkgfnaaLnI1
import Derived.Test.YtlocpliljkgfnaaLnGr
import Derived.BigQuiet
import Derived.Deep.QuietTactic
namespace Go.Proofs.Ytlocpliljkgfnaa
open Go.RowKit Go.Deep

theorem sval19_any (n : Int) (w : World) :
    Calls Try.prog 30 #[.int .i64 n] w fun e w' => e = .returned (.bool (decide (-1000000 ≤ n ∧ n ≤ 1000000))) ∧ w' = w := by
  go_enter Try.func30, Try.ntmps30
  go_wp2_with fail
  all_goals
    go_ret
    exact ⟨by congr 2; simp <;> omega, rfl⟩
end Go.Proofs.Ytlocpliljkgfnaa
