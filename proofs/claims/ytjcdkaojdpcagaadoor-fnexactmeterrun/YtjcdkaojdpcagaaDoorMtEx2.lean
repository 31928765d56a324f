/-
  The laws' conversions of one meter and one read.
-/
import Derived.Test.YtjcdkaojdpcagaaDoorMtEx1
namespace Go.Proofs.YtjcdkaojdpcagaaDoor
open Go.RowKit Go.Deep

set_option maxRecDepth 100000 in
set_option maxHeartbeats 1000000 in
theorem toMeter_any (m : Mt.M) (w : World) :
    Calls Tryd.prog 6 #[mtV m] w fun e w' => e = .returned (mtV m) ∧ Below w.heap.size w w' := by
  go_enter Tryd.func6, Tryd.ntmps6
  go_wp2_with fail
  exact bodyPost_ret (v := mtV m) (by simp [results, Tryd.results6, go_sem]) rfl ⟨rfl, (((Below.refl _ _).alloc (Nat.le_refl _) _).alloc (by simp) _).alloc (by simp <;> omega) _⟩
end Go.Proofs.YtjcdkaojdpcagaaDoor
