/-
  The law FnExactStoreStep.
-/
import Derived.Test.YtdpghhmcibiplaaDoorStN2
import Derived.Test.YtdpghhmcibiplaaDoorStLawR
namespace Go.Proofs.YtdpghhmcibiplaaDoor
open Go.RowKit Go.Deep

set_option maxRecDepth 100000 in
set_option maxHeartbeats 1000000 in
theorem eqOut_same (x : Ans) (w : World) :
    Calls Tryd.prog 43 #[ansV x, ansV x] w fun e w' => e = .returned (.bool true) ∧ Below w.heap.size w w' := by
  go_enter Tryd.func43, Tryd.ntmps43
  go_wp2_with fail
  go_ret
  exact ⟨rfl, ((Below.refl _ _).alloc (Nat.le_refl _) _).alloc (by simp) _⟩
end Go.Proofs.YtdpghhmcibiplaaDoor
