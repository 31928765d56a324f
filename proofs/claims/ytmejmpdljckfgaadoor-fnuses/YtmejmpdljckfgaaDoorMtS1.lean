/-
  The model's meters: how much they show, right ones, how far they turn.
-/
import Derived.Test.YtmejmpdljckfgaaDoorMtMem
import Derived.Deep.QuietTactic
import Derived.BigQuiet
namespace Go.Proofs.YtmejmpdljckfgaaDoor
open Go.RowKit Go.Deep

set_option maxRecDepth 100000 in
set_option maxHeartbeats 2000000 in
theorem sfull_any (d : Int) (hd : 0 ≤ d ∧ d ≤ 8) (w : World) :
    Calls Tryd.prog 63 #[.int .i64 d] w fun e w' => e = .returned (.int .i64 (Mt.full d)) ∧ w' = w := by
  obtain ⟨D, hD⟩ : ∃ D : Nat, d = (D : Int) := ⟨d.toNat, by omega⟩
  subst hD
  have hD8 : D ≤ 8 := by omega
  have HF : Hid (Mt.full (D : Int) = Mt.pw D) := by show Mt.full (D : Int) = Mt.pw D; unfold Mt.full; simp
  clear hd
  go_enter Tryd.func63, Tryd.ntmps63
  go_wp2_with fail
  go_loopw [0, 3] (fun iv fv wr => ∃ (i : Nat) (x : Int), i ≤ D ∧ fv = .int .i64 x ∧ iv = .int .i64 ((D : Int) - (i : Int)) ∧ wr = w ∧ Hid (x = Mt.pw i)) (fun iv _ _ => (intOf iv).toNat)
  case atStart => exact ⟨0, 1, Nat.zero_le _, rfl, by simp, rfl, rfl⟩
  case round =>
    obtain ⟨i, x, hi, rfl, rfl, rfl, hx⟩ := hrel
    have hb : 1 ≤ x ∧ x ≤ 100000000 := by rw [hx.out]; exact Mt.pw_bd i (by omega)
    by_cases hlt : i < D
    · have hltz : 0 < (D : Int) - (i : Int) := by omega
      go_wp2_with fail
      go_roundw
      case rel => exact ⟨i + 1, x * 10, by omega, rfl, by simp; omega, by first | rfl | trivial, by show x * 10 = Mt.pw (i + 1); rw [hx.out]; rfl⟩
      case measure => simp [intOf]; omega
    · obtain rfl : i = D := by omega
      have HE : Hid (x = Mt.full (i : Int)) := by show x = Mt.full (i : Int); rw [HF.out, hx.out]
      clear hx
      go_wp2_with fail
      go_ret
      exact ⟨by rw [HE.out]; rfl, by first | rfl | trivial⟩
set_option maxRecDepth 100000 in
set_option maxHeartbeats 4000000 in
theorem specRight_any (m : Mt.M) (w : World) :
    Calls Tryd.prog 31 #[mtV m] w fun e w' => e = .returned (.bool (Mt.dB (Mt.Right m))) ∧ Below w.heap.size w w' := by
  have HB : Hid (Below w.heap.size w (w.alloc (.cells #[.int .i64 m.d, .int .i64 m.u, .int .i64 m.day, .int .i64 m.s] 24))) := nbel_alloc _ _
  by_cases c1 : 3 ≤ m.d
  case neg =>
    have HE : Hid (Mt.dB (Mt.Right m) = false) := Mt.dB_ff (fun h => c1 h.2.2.1.1)
    have dc1 : decide (3 ≤ m.d) = false := by simpa using c1
    go_enter Tryd.func31, Tryd.ntmps31
    go_wp2_with fail
    go_quiet (fail)
    go_wp2_with fail
    go_ret
    exact ⟨by rw [HE.out]; rfl, by first | exact HB.out | exact HB.out.drew | exact ndrewN HB.out _⟩
  have dc1 : decide (3 ≤ m.d) = true := by simpa using c1
  by_cases c2 : m.d ≤ 7
  case neg =>
    have HE : Hid (Mt.dB (Mt.Right m) = false) := Mt.dB_ff (fun h => c2 h.2.2.1.2)
    have dc2 : decide (m.d ≤ 7) = false := by simpa using c2
    go_enter Tryd.func31, Tryd.ntmps31
    go_wp2_with fail
    go_quiet (fail)
    go_wp2_with fail
    go_ret
    exact ⟨by rw [HE.out]; rfl, by first | exact HB.out | exact HB.out.drew | exact ndrewN HB.out _⟩
  have dc2 : decide (m.d ≤ 7) = true := by simpa using c2
  by_cases c3 : 0 ≤ m.u
  case neg =>
    have HE : Hid (Mt.dB (Mt.Right m) = false) := Mt.dB_ff (fun h => c3 h.1.1)
    have dc3 : decide (0 ≤ m.u) = false := by simpa using c3
    go_enter Tryd.func31, Tryd.ntmps31
    go_wp2_with fail
    go_quiet (fail)
    go_wp2_with fail
    go_ret
    exact ⟨by rw [HE.out]; rfl, by first | exact HB.out | exact HB.out.drew | exact ndrewN HB.out _⟩
  have dc3 : decide (0 ≤ m.u) = true := by simpa using c3
  by_cases c4 : m.u ≤ 10000
  case neg =>
    have HE : Hid (Mt.dB (Mt.Right m) = false) := Mt.dB_ff (fun h => c4 h.1.2)
    have dc4 : decide (m.u ≤ 10000) = false := by simpa using c4
    go_enter Tryd.func31, Tryd.ntmps31
    go_wp2_with fail
    go_quiet (fail)
    go_wp2_with fail
    go_ret
    exact ⟨by rw [HE.out]; rfl, by first | exact HB.out | exact HB.out.drew | exact ndrewN HB.out _⟩
  have dc4 : decide (m.u ≤ 10000) = true := by simpa using c4
  by_cases c5 : 0 ≤ m.day
  case neg =>
    have HE : Hid (Mt.dB (Mt.Right m) = false) := Mt.dB_ff (fun h => c5 h.2.1.1)
    have dc5 : decide (0 ≤ m.day) = false := by simpa using c5
    go_enter Tryd.func31, Tryd.ntmps31
    go_wp2_with fail
    go_quiet (fail)
    go_wp2_with fail
    go_ret
    exact ⟨by rw [HE.out]; rfl, by first | exact HB.out | exact HB.out.drew | exact ndrewN HB.out _⟩
  have dc5 : decide (0 ≤ m.day) = true := by simpa using c5
  by_cases c6 : m.day ≤ 100000
  case neg =>
    have HE : Hid (Mt.dB (Mt.Right m) = false) := Mt.dB_ff (fun h => c6 h.2.1.2)
    have dc6 : decide (m.day ≤ 100000) = false := by simpa using c6
    go_enter Tryd.func31, Tryd.ntmps31
    go_wp2_with fail
    go_quiet (fail)
    go_wp2_with fail
    go_ret
    exact ⟨by rw [HE.out]; rfl, by first | exact HB.out | exact HB.out.drew | exact ndrewN HB.out _⟩
  have dc6 : decide (m.day ≤ 100000) = true := by simpa using c6
  by_cases c7 : 0 ≤ m.s
  case neg =>
    have HE : Hid (Mt.dB (Mt.Right m) = false) := Mt.dB_ff (fun h => c7 h.2.2.2.1)
    have dc7 : decide (0 ≤ m.s) = false := by simpa using c7
    go_enter Tryd.func31, Tryd.ntmps31
    go_wp2_with fail
    go_quiet (fail)
    go_wp2_with fail
    go_ret
    exact ⟨by rw [HE.out]; rfl, by first | exact HB.out | exact HB.out.drew | exact ndrewN HB.out _⟩
  have dc7 : decide (0 ≤ m.s) = true := by simpa using c7
  obtain ⟨F, hF⟩ : ∃ F, Mt.full m.d = F := ⟨_, rfl⟩
  have KF : Hid (∀ w, Calls Tryd.prog 63 #[.int .i64 m.d] w fun e w' => e = .returned (.int .i64 F) ∧ w' = w) := fun w => by rw [← hF]; exact sfull_any m.d ⟨by omega, by omega⟩ w
  by_cases c8 : m.s < F
  · have HE : Hid (Mt.dB (Mt.Right m) = true) := Mt.dB_tt ⟨⟨c3, c4⟩, ⟨c5, c6⟩, ⟨c1, c2⟩, c7, by rw [hF]; exact c8⟩
    have d8 : decide (m.s < F) = true := by simpa using c8
    clear hF
    go_enter Tryd.func31, Tryd.ntmps31
    go_wp2_with fail
    go_quiet ((go_at_call 63; exact Calls.quiet_of_same (KF.out _)))
    go_wp2_with fail
    go_ret
    exact ⟨by rw [HE.out]; rfl, by first | exact HB.out | exact HB.out.drew | exact ndrewN HB.out _⟩
  · have HE : Hid (Mt.dB (Mt.Right m) = false) := Mt.dB_ff (fun h => c8 (by have := h.2.2.2.2; rw [hF] at this; exact this))
    have d8 : decide (m.s < F) = false := by simpa using c8
    clear hF
    go_enter Tryd.func31, Tryd.ntmps31
    go_wp2_with fail
    go_quiet ((go_at_call 63; exact Calls.quiet_of_same (KF.out _)))
    go_wp2_with fail
    go_ret
    exact ⟨by rw [HE.out]; rfl, by first | exact HB.out | exact HB.out.drew | exact ndrewN HB.out _⟩
set_option maxRecDepth 100000 in
set_option maxHeartbeats 2000000 in
theorem specTurn_any (d a b : Int) (w : World) :
    Calls Tryd.prog 66 #[.int .i64 d, .int .i64 a, .int .i64 b] w fun e w' => e = .returned (.int .i64 (Mt.turn d a b)) ∧ w' = w := by
  by_cases c1 : d < 3
  · have HE := Lib.hid (Mt.turn_no (d := d) (a := a) (b := b) (fun h => by have := h.1.1.1; omega))
    go_enter Tryd.func66, Tryd.ntmps66
    go_wp2_with fail
    go_ret
    exact ⟨by rw [HE.out]; rfl, rfl⟩
  by_cases c2 : 7 < d
  · have HE := Lib.hid (Mt.turn_no (d := d) (a := a) (b := b) (fun h => by have := h.1.1.2; omega))
    go_enter Tryd.func66, Tryd.ntmps66
    go_wp2_with fail
    go_ret
    exact ⟨by rw [HE.out]; rfl, rfl⟩
  have HD : Hid (Mt.Digits d) := ⟨by omega, by omega⟩
  obtain ⟨F, hF⟩ : ∃ F, F = Mt.full d := ⟨_, rfl⟩
  have hb0 : 1 ≤ F ∧ F ≤ 10000000 := by rw [hF]; exact Mt.full_bd HD.out.2
  have HF := Lib.hid hF
  clear hF
  by_cases c3 : a < 0
  · have HE := Lib.hid (Mt.turn_no (d := d) (a := a) (b := b) (fun h => by have := h.1.2; rw [← HF.out] at this; omega))
    go_enter Tryd.func66, Tryd.ntmps66
    go_wp2_with fail
    refine (sfull_any d ⟨by have := HD.out.1; omega, by have := HD.out.2; omega⟩ _).mono ?_
    rintro e w1 ⟨rfl, rfl⟩
    rw [← HF.out]
    go_wp2_with fail
    go_ret
    exact ⟨by rw [HE.out]; rfl, rfl⟩
  by_cases c4 : F ≤ a
  · have HE := Lib.hid (Mt.turn_no (d := d) (a := a) (b := b) (fun h => by have := h.1.2; rw [← HF.out] at this; omega))
    go_enter Tryd.func66, Tryd.ntmps66
    go_wp2_with fail
    refine (sfull_any d ⟨by have := HD.out.1; omega, by have := HD.out.2; omega⟩ _).mono ?_
    rintro e w1 ⟨rfl, rfl⟩
    rw [← HF.out]
    go_wp2_with fail
    go_ret
    exact ⟨by rw [HE.out]; rfl, rfl⟩
  by_cases c5 : b < 0
  · have HE := Lib.hid (Mt.turn_no (d := d) (a := a) (b := b) (fun h => by have := h.2.2; rw [← HF.out] at this; omega))
    go_enter Tryd.func66, Tryd.ntmps66
    go_wp2_with fail
    refine (sfull_any d ⟨by have := HD.out.1; omega, by have := HD.out.2; omega⟩ _).mono ?_
    rintro e w1 ⟨rfl, rfl⟩
    rw [← HF.out]
    go_wp2_with fail
    go_ret
    exact ⟨by rw [HE.out]; rfl, rfl⟩
  by_cases c6 : F ≤ b
  · have HE := Lib.hid (Mt.turn_no (d := d) (a := a) (b := b) (fun h => by have := h.2.2; rw [← HF.out] at this; omega))
    go_enter Tryd.func66, Tryd.ntmps66
    go_wp2_with fail
    refine (sfull_any d ⟨by have := HD.out.1; omega, by have := HD.out.2; omega⟩ _).mono ?_
    rintro e w1 ⟨rfl, rfl⟩
    rw [← HF.out]
    go_wp2_with fail
    go_ret
    exact ⟨by rw [HE.out]; rfl, rfl⟩
  have HS : Hid (Mt.Shows d a ∧ Mt.Shows d b) := ⟨⟨HD.out, by omega, by rw [← HF.out]; omega⟩, ⟨HD.out, by omega, by rw [← HF.out]; omega⟩⟩
  by_cases c7 : b < a
  · have HE : Hid (Mt.turn d a b = b - a + F) := by show Mt.turn d a b = b - a + F; rw [Mt.turn_over HS.out c7, ← HF.out]
    go_enter Tryd.func66, Tryd.ntmps66
    go_wp2_with fail
    refine (sfull_any d ⟨by have := HD.out.1; omega, by have := HD.out.2; omega⟩ _).mono ?_
    rintro e w1 ⟨rfl, rfl⟩
    rw [← HF.out]
    go_wp2_with fail
    go_ret
    exact ⟨by rw [HE.out]; rfl, rfl⟩
  · have HE := Lib.hid (Mt.turn_on HS.out c7)
    go_enter Tryd.func66, Tryd.ntmps66
    go_wp2_with fail
    refine (sfull_any d ⟨by have := HD.out.1; omega, by have := HD.out.2; omega⟩ _).mono ?_
    rintro e w1 ⟨rfl, rfl⟩
    rw [← HF.out]
    go_wp2_with fail
    go_ret
    exact ⟨by rw [HE.out]; rfl, rfl⟩
end Go.Proofs.YtmejmpdljckfgaaDoor
