/-
  The law FnExactRiverRight.
-/
import Derived.Test.YtdpghhmcibiplaaDoorRvEx1
import Derived.Test.YtdpghhmcibiplaaDoorRvS1
namespace Go.Proofs.YtdpghhmcibiplaaDoor
open Go.RowKit Go.Deep

theorem sz_in (a : Option Addr) (n cap : Nat) (w : World) (hn : n ≤ 1048576) :
    Calls Tryd.prog 12 #[.slice a n cap, .int .i64 1048576] w fun e w' => e = .returned (.int .i64 ((1048576 - n : Nat) : Int)) ∧ w' = w := by
  have h1 : ¬ (1048576 - (n : Int)) < 0 := by omega
  have h2 : (1048576 - (n : Int)) = ((1048576 - n : Nat) : Int) := by omega
  have h3 : ¬ (((1048576 - n : Nat) : Int)) < 0 := by omega
  have h4 : ((1048576 - n : Nat) : Int) ≤ 1048576 := by omega
  have h5 : 0 ≤ ((1048576 - n : Nat) : Int) := by omega
  go_enter Tryd.func12, Tryd.ntmps12
  go_wp2_with fail
  go_ret
  exact ⟨ret_int (by omega), rfl⟩
theorem sz_over (a : Option Addr) (n cap : Nat) (w : World) (hn : 1048576 < n) (hm : n ≤ 9223372036854775807) :
    Calls Tryd.prog 12 #[.slice a n cap, .int .i64 1048576] w fun e w' => e = .returned (.int .i64 (-1)) ∧ w' = w := by
  have h1 : (1048576 - (n : Int)) < 0 := by omega
  go_enter Tryd.func12, Tryd.ntmps12
  go_wp2_with fail
  go_ret
  exact ⟨rfl, rfl⟩

end Go.Proofs.YtdpghhmcibiplaaDoor
