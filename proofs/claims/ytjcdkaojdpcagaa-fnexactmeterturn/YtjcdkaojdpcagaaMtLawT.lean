/-
  The law FnExactMeterTurn.
-/
import Derived.Test.YtjcdkaojdpcagaaMtI1
import Derived.Test.YtjcdkaojdpcagaaMtS1
namespace Go.Proofs.Ytjcdkaojdpcagaa
open Go.RowKit Go.Deep

set_option maxRecDepth 100000 in
set_option maxHeartbeats 2000000 in
theorem meterTurn_law (w : World) (d a b : Int) :
    Calls Try.prog 4 #[.int .i64 d, .int .i64 a, .int .i64 b] w fun e w' => e = .returned (.bool true) ∧ Below w.heap.size w w' := by
  go_enter Try.func4, Try.ntmps4
  go_wp2_with fail
  refine (specTurn_any d a b _).mono ?_
  rintro e w1 ⟨rfl, rfl⟩
  obtain ⟨x, hx⟩ : ∃ x, x = Mt.turn d a b := ⟨_, rfl⟩
  have HX := Lib.hid hx
  rw [← hx]
  clear hx
  go_wp2_with fail
  refine (implTurn_any d a b _).mono ?_
  rintro e w2 ⟨rfl, hb⟩
  rw [← HX.out]
  have HB := Lib.hid hb
  clear hb
  have hbb : (x != x) = false := by simp
  go_wp2_with fail
  go_ret
  exact ⟨rfl, HB.out⟩
end Go.Proofs.Ytjcdkaojdpcagaa
