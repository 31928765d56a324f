/-
  The law FnExactMeterRight.
-/
import Derived.Test.YtjcdkaojdpcagaaMtEx2
import Derived.Test.YtjcdkaojdpcagaaMtI1
import Derived.Test.YtjcdkaojdpcagaaMtS1
namespace Go.Proofs.Ytjcdkaojdpcagaa
open Go.RowKit Go.Deep

set_option maxRecDepth 100000 in
set_option maxHeartbeats 2000000 in
theorem meterRight_law (w : World) (m : Mt.M) :
    Calls Try.prog 3 #[mtV m] w fun e w' => e = .returned (.bool true) ∧ Below w.heap.size w w' := by
  obtain ⟨W, hW⟩ : ∃ W, W = w.alloc (.cells #[.int .i64 m.d, .int .i64 m.u, .int .i64 m.day, .int .i64 m.s] 23) := ⟨_, rfl⟩
  have B0 : Hid (Below w.heap.size w W) := by show Below _ _ _; rw [hW]; exact nbel_alloc _ _
  have R0 : Hid (W.rowIs w.heap.size 23 4 (rowN (mtL m))) := by show W.rowIs _ _ _ _; rw [hW]; exact rowN_alloc w _ _
  have HW := Lib.hid hW
  clear hW
  go_enter Try.func3, Try.ntmps3
  go_wp2_with fail
  rw [← HW.out]
  clear HW
  refine (toMeter_any m _).mono ?_
  rintro e w1 ⟨rfl, hb⟩
  have B1 : Hid (Below w.heap.size w w1) := B0.out.trans (hb.mono B0.out.size)
  have R1 := Lib.hid (nrow_below R0.out hb)
  clear hb B0 R0
  go_wp2_with fail
  refine (specRight_any m _).mono ?_
  rintro e w2 ⟨rfl, hb⟩
  have B2 : Hid (Below w.heap.size w w2) := B1.out.trans (hb.mono B1.out.size)
  have R2 := Lib.hid (nrow_below R1.out hb)
  clear hb B1 R1
  obtain ⟨⟨r0, r1, r2, r3⟩, _⟩ := rowN4 R2.out
  obtain ⟨bb, hbe⟩ : ∃ bb, bb = Mt.dB (Mt.Right m) := ⟨_, rfl⟩
  have HBE := Lib.hid hbe
  rw [← hbe]
  clear hbe
  go_wp2_with fail
  refine (toMeter_any m _).mono ?_
  rintro e w3 ⟨rfl, hb⟩
  have B3 : Hid (Below w.heap.size w w3) := B2.out.trans (hb.mono B2.out.size)
  clear hb B2 R2 r0 r1 r2 r3
  go_wp2_with fail
  refine (implRight_any m _).mono ?_
  rintro e w4 ⟨rfl, hb⟩
  rw [← HBE.out]
  have B4 : Hid (Below w.heap.size w w4) := B3.out.trans (hb.mono B3.out.size)
  clear hb B3
  have hbb : (bb != bb) = false := by simp
  go_wp2_with fail
  go_ret
  exact ⟨rfl, B4.out⟩
end Go.Proofs.Ytjcdkaojdpcagaa
