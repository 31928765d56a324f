/-
  The law FnExactAlarmRight.
-/
import Derived.Test.YtnfdamkjkclnmaaAlEx2
import Derived.Test.YtnfdamkjkclnmaaAlI1
import Derived.Test.YtnfdamkjkclnmaaAlS1
namespace Go.Proofs.Ytnfdamkjkclnmaa
open Go.RowKit Go.Deep

set_option maxRecDepth 100000 in
set_option maxHeartbeats 2000000 in
theorem alarmRight_law (w : World) (a : Al.A) :
    Calls Try.prog 3 #[alV a] w fun e w' => e = .returned (.bool true) ∧ Below w.heap.size w w' := by
  obtain ⟨W, hW⟩ : ∃ W, W = w.alloc (.cells #[.int .i64 a.hi, .int .i64 a.lo, .int .i64 a.dl, .int .i64 a.st, .int .i64 a.ct, .int .i64 a.sh] 23) := ⟨_, rfl⟩
  have B0 : Hid (Below w.heap.size w W) := by show Below _ _ _; rw [hW]; exact nbel_alloc _ _
  have R0 : Hid (W.rowIs w.heap.size 23 6 (rowN (alL a))) := by show W.rowIs _ _ _ _; rw [hW]; exact rowN_alloc w _ _
  have HW := Lib.hid hW
  clear hW
  go_enter Try.func3, Try.ntmps3
  go_wp2_with fail
  rw [← HW.out]
  clear HW
  refine (toAlarm_any a _).mono ?_
  rintro e w1 ⟨rfl, hb⟩
  have B1 : Hid (Below w.heap.size w w1) := B0.out.trans (hb.mono B0.out.size)
  have R1 := Lib.hid (nrow_below R0.out hb)
  clear hb B0 R0
  go_wp2_with fail
  refine (sRight_any a _).mono ?_
  rintro e w2 ⟨rfl, hb⟩
  have B2 : Hid (Below w.heap.size w w2) := B1.out.trans (hb.mono B1.out.size)
  have R2 := Lib.hid (nrow_below R1.out hb)
  clear hb B1 R1
  obtain ⟨⟨r0, r1, r2, r3, r4, r5⟩, _⟩ := rowN6 R2.out
  obtain ⟨bb, hbe⟩ : ∃ bb, bb = decide (Al.Right a) := ⟨_, rfl⟩
  have HBE := Lib.hid hbe
  rw [← hbe]
  clear hbe
  go_wp2_with fail
  refine (toAlarm_any a _).mono ?_
  rintro e w3 ⟨rfl, hb⟩
  have B3 : Hid (Below w.heap.size w w3) := B2.out.trans (hb.mono B2.out.size)
  clear hb B2 R2 r0 r1 r2 r3 r4 r5
  go_wp2_with fail
  refine (alarmRight_any a _).mono ?_
  rintro e w4 ⟨rfl, hb⟩
  rw [← HBE.out]
  have B4 : Hid (Below w.heap.size w w4) := B3.out.trans (hb.mono B3.out.size)
  clear hb B3
  have hbb : (bb != bb) = false := by simp
  go_wp2_with fail
  go_ret
  exact ⟨rfl, B4.out⟩
end Go.Proofs.Ytnfdamkjkclnmaa
