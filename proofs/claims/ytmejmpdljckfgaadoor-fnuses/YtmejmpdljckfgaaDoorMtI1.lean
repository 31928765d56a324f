/-
  The program's meters: how much they show, right ones, how far they turn.
-/
import Derived.Test.YtmejmpdljckfgaaDoorMtMem
import Derived.Test.YtmejmpdljckfgaaDoorAw
namespace Go.Proofs.YtmejmpdljckfgaaDoor
open Go.RowKit Go.Deep

set_option maxRecDepth 100000 in
set_option maxHeartbeats 2000000 in
theorem ifull_any (d : Int) (hd : 0 ≤ d ∧ d ≤ 8) (w : World) :
    Calls Tryd.prog 105 #[.int .i64 d] w fun e w' => e = .returned (.int .i64 (Mt.full d)) ∧ w' = w := by
  obtain ⟨D, hD⟩ : ∃ D : Nat, d = (D : Int) := ⟨d.toNat, by omega⟩
  subst hD
  have hD8 : D ≤ 8 := by omega
  have HF : Hid (Mt.full (D : Int) = Mt.pw D) := by show Mt.full (D : Int) = Mt.pw D; unfold Mt.full; simp
  clear hd
  go_enter Tryd.func105, Tryd.ntmps105
  go_wp2_with fail
  go_loopw [3, 5] (fun fv iv wr => ∃ (i : Nat) (x : Int), i ≤ D ∧ fv = .int .i64 x ∧ iv = .int .i64 i ∧ wr = w ∧ Hid (x = Mt.pw i)) (fun _ iv _ => D - (intOf iv).toNat)
  case atStart => exact ⟨0, 1, Nat.zero_le _, rfl, rfl, rfl, rfl⟩
  case round =>
    obtain ⟨i, x, hi, rfl, rfl, rfl, hx⟩ := hrel
    have hb : 1 ≤ x ∧ x ≤ 100000000 := by rw [hx.out]; exact Mt.pw_bd i (by omega)
    by_cases hlt : i < D
    · have hltz : (i : Int) < (D : Int) := by omega
      go_wp2_with fail
      go_roundw
      case rel => exact ⟨i + 1, x * 10, by omega, rfl, by go_num, by first | rfl | trivial, by show x * 10 = Mt.pw (i + 1); rw [hx.out]; rfl⟩
      case measure => simp [intOf]; omega
    · obtain rfl : i = D := by omega
      have HE : Hid (x = Mt.full (i : Int)) := by show x = Mt.full (i : Int); rw [HF.out, hx.out]
      clear hx
      go_wp2_with fail
      go_ret
      exact ⟨by rw [HE.out]; rfl, by first | rfl | trivial⟩
set_option maxRecDepth 100000 in
set_option maxHeartbeats 1000000 in
theorem mholds_any (a b x : Int) (w : World) :
    Calls Tryd.prog 48 #[.agg #[.int .i64 a, .int .i64 b], .int .i64 x] w fun e w' => e = .returned (.bool (decide (a ≤ x ∧ x ≤ b))) ∧ Below w.heap.size w w' := by
  have HB := Lib.hid (nbel_alloc w (.cells #[.int .i64 a, .int .i64 b] 97))
  by_cases h1 : a ≤ x
  · by_cases h2 : x ≤ b
    · rw [decide_eq_true (show a ≤ x ∧ x ≤ b from ⟨h1, h2⟩)]
      go_enter Tryd.func48, Tryd.ntmps48
      go_wp2_with fail
      go_ret
      exact ⟨rfl, HB.out⟩
    · rw [decide_eq_false (show ¬ (a ≤ x ∧ x ≤ b) from fun h => h2 h.2)]
      go_enter Tryd.func48, Tryd.ntmps48
      go_wp2_with fail
      go_ret
      exact ⟨rfl, HB.out⟩
  · rw [decide_eq_false (show ¬ (a ≤ x ∧ x ≤ b) from fun h => h1 h.1)]
    go_enter Tryd.func48, Tryd.ntmps48
    go_wp2_with fail
    go_ret
    exact ⟨rfl, HB.out⟩
set_option maxRecDepth 100000 in
set_option maxHeartbeats 2000000 in
theorem canShow_any (d x : Int) (w : World) :
    Calls Tryd.prog 86 #[.int .i64 d, .int .i64 x] w fun e w' => e = .returned (.bool (Mt.dB (Mt.Shows d x))) ∧ Below w.heap.size w w' := by
  by_cases c1 : 3 ≤ d ∧ d ≤ 7
  case neg =>
    have HE : Hid (Mt.dB (Mt.Shows d x) = false) := Mt.dB_ff (fun h => c1 h.1)
    go_enter Tryd.func86, Tryd.ntmps86
    go_wp2_with fail
    refine (mholds_any _ _ _ _).mono ?_
    rintro e w1 ⟨rfl, hb⟩
    rw [decide_eq_false c1]
    have HB := Lib.hid hb
    clear hb c1
    go_wp2_with fail
    go_ret
    exact ⟨by rw [HE.out]; rfl, HB.out⟩
  obtain ⟨F, hF⟩ : ∃ F, F = Mt.full d := ⟨_, rfl⟩
  have hb0 : 1 ≤ F ∧ F ≤ 10000000 := by rw [hF]; exact Mt.full_bd c1.2
  by_cases c2 : 0 ≤ x ∧ x ≤ F - 1
  · have HE : Hid (Mt.dB (Mt.Shows d x) = true) := Mt.dB_tt ⟨c1, c2.1, by rw [← hF]; omega⟩
    have HF := Lib.hid hF
    have HC1 := Lib.hid c1
    have HC2 := Lib.hid c2
    clear hF c1 c2
    go_enter Tryd.func86, Tryd.ntmps86
    go_wp2_with fail
    refine (mholds_any _ _ _ _).mono ?_
    rintro e w1 ⟨rfl, hb⟩
    rw [decide_eq_true HC1.out]
    have HB := Lib.hid hb
    clear hb
    go_wp2_with fail
    refine (ifull_any d ⟨by have := HC1.out; omega, by have := HC1.out; omega⟩ _).mono ?_
    rintro e w2 ⟨rfl, rfl⟩
    rw [← HF.out]
    go_wp2_with fail
    refine (awithin_any _ _ _).mono ?_
    rintro e w3 ⟨rfl, rfl⟩
    rw [decide_eq_true HC2.out]
    go_wp2_with fail
    go_ret
    exact ⟨by rw [HE.out]; rfl, HB.out⟩
  · have HE : Hid (Mt.dB (Mt.Shows d x) = false) := Mt.dB_ff (fun h => c2 ⟨h.2.1, by have := h.2.2; rw [← hF] at this; omega⟩)
    have HF := Lib.hid hF
    have HC1 := Lib.hid c1
    have HC2 := Lib.hid c2
    clear hF c1 c2
    go_enter Tryd.func86, Tryd.ntmps86
    go_wp2_with fail
    refine (mholds_any _ _ _ _).mono ?_
    rintro e w1 ⟨rfl, hb⟩
    rw [decide_eq_true HC1.out]
    have HB := Lib.hid hb
    clear hb
    go_wp2_with fail
    refine (ifull_any d ⟨by have := HC1.out; omega, by have := HC1.out; omega⟩ _).mono ?_
    rintro e w2 ⟨rfl, rfl⟩
    rw [← HF.out]
    go_wp2_with fail
    refine (awithin_any _ _ _).mono ?_
    rintro e w3 ⟨rfl, rfl⟩
    rw [decide_eq_false HC2.out]
    go_wp2_with fail
    go_ret
    exact ⟨by rw [HE.out]; rfl, HB.out⟩
set_option maxRecDepth 100000 in
set_option maxHeartbeats 2000000 in
theorem implRight_any (m : Mt.M) (w : World) :
    Calls Tryd.prog 68 #[mtV m] w fun e w' => e = .returned (.bool (Mt.dB (Mt.Right m))) ∧ Below w.heap.size w w' := by
  obtain ⟨W, hW⟩ : ∃ W, W = w.alloc (.cells #[.int .i64 m.d, .int .i64 m.u, .int .i64 m.day, .int .i64 m.s] 24) := ⟨_, rfl⟩
  have HB : Hid (Below w.heap.size w W) := by show Below _ _ _; rw [hW]; exact nbel_alloc _ _
  have HR : Hid (W.rowIs w.heap.size 24 4 (rowN (mtL m))) := by show W.rowIs _ _ _ _; rw [hW]; exact rowN_alloc w _ _
  have HW := Lib.hid hW
  clear hW
  go_enter Tryd.func68, Tryd.ntmps68
  go_wp2_with fail
  rw [← HW.out]
  clear HW
  refine (awithin_any _ _ _).mono ?_
  rintro e w1 ⟨rfl, rfl⟩
  obtain ⟨⟨p0, p1, p2, p3⟩, _⟩ := rowN4 HR.out
  by_cases c1 : 0 ≤ m.u ∧ m.u ≤ 10000
  case neg =>
    rw [decide_eq_false c1]
    have HE : Hid (Mt.dB (Mt.Right m) = false) := Mt.dB_ff (fun h => c1 h.1)
    clear c1
    go_wp2_with fail
    go_ret
    exact ⟨by rw [HE.out]; rfl, HB.out⟩
  rw [decide_eq_true c1]
  have HC1 := Lib.hid c1
  clear c1
  go_wp2_with fail
  refine (awithin_any _ _ _).mono ?_
  rintro e w1 ⟨rfl, rfl⟩
  by_cases c2 : 0 ≤ m.day ∧ m.day ≤ 100000
  case neg =>
    rw [decide_eq_false c2]
    have HE : Hid (Mt.dB (Mt.Right m) = false) := Mt.dB_ff (fun h => c2 h.2.1)
    clear c2
    go_wp2_with fail
    go_ret
    exact ⟨by rw [HE.out]; rfl, HB.out⟩
  rw [decide_eq_true c2]
  have HC2 := Lib.hid c2
  clear c2
  go_wp2_with fail
  refine (canShow_any _ _ _).mono ?_
  rintro e w2 ⟨rfl, hb⟩
  have HB2 : Hid (Below w.heap.size w w2) := HB.out.trans (hb.mono HB.out.size)
  clear hb p0 p1 p2 p3
  by_cases c3 : Mt.Shows m.d m.s
  · rw [Mt.dB_tt c3]
    have HE : Hid (Mt.dB (Mt.Right m) = true) := Mt.dB_tt ⟨HC1.out, HC2.out, c3⟩
    clear c3
    go_wp2_with fail
    go_ret
    exact ⟨by rw [HE.out]; rfl, HB2.out⟩
  · rw [Mt.dB_ff c3]
    have HE : Hid (Mt.dB (Mt.Right m) = false) := Mt.dB_ff (fun h => c3 h.2.2)
    clear c3
    go_wp2_with fail
    go_ret
    exact ⟨by rw [HE.out]; rfl, HB2.out⟩
set_option maxRecDepth 100000 in
set_option maxHeartbeats 2000000 in
theorem implTurn_any (d a b : Int) (w : World) :
    Calls Tryd.prog 110 #[.int .i64 d, .int .i64 a, .int .i64 b] w fun e w' => e = .returned (.int .i64 (Mt.turn d a b)) ∧ Below w.heap.size w w' := by
  by_cases c1 : Mt.Shows d a
  case neg =>
    have HE := Lib.hid (Mt.turn_no (b := b) (fun h => c1 h.1))
    go_enter Tryd.func110, Tryd.ntmps110
    go_wp2_with fail
    refine (canShow_any _ _ _).mono ?_
    rintro e w1 ⟨rfl, hb⟩
    have HB := Lib.hid hb
    rw [Mt.dB_ff c1]
    clear hb c1
    go_wp2_with fail
    go_ret
    exact ⟨by rw [HE.out]; rfl, HB.out⟩
  by_cases c2 : Mt.Shows d b
  case neg =>
    have HE := Lib.hid (Mt.turn_no (a := a) (fun h => c2 h.2))
    go_enter Tryd.func110, Tryd.ntmps110
    go_wp2_with fail
    refine (canShow_any _ _ _).mono ?_
    rintro e w1 ⟨rfl, hb⟩
    have HB := Lib.hid hb
    rw [Mt.dB_tt c1]
    clear hb c1
    go_wp2_with fail
    refine (canShow_any _ _ _).mono ?_
    rintro e w2 ⟨rfl, hb⟩
    have HB2 : Hid (Below w.heap.size w w2) := HB.out.trans (hb.mono HB.out.size)
    rw [Mt.dB_ff c2]
    clear hb c2
    go_wp2_with fail
    go_ret
    exact ⟨by rw [HE.out]; rfl, HB2.out⟩
  obtain ⟨F, hF⟩ : ∃ F, F = Mt.full d := ⟨_, rfl⟩
  have hb0 : 1 ≤ F ∧ F ≤ 10000000 := by rw [hF]; exact Mt.full_bd c1.1.2
  have ha0 : 0 ≤ a ∧ a < F := by rw [hF]; exact c1.2
  have hb1 : 0 ≤ b ∧ b < F := by rw [hF]; exact c2.2
  have HF := Lib.hid hF
  have HC1 := Lib.hid c1
  have HC2 := Lib.hid c2
  clear hF c1 c2
  by_cases c3 : b < a
  · have HE : Hid (Mt.turn d a b = b + F - a) := by show Mt.turn d a b = b + F - a; rw [Mt.turn_over ⟨HC1.out, HC2.out⟩ c3, ← HF.out]; omega
    go_enter Tryd.func110, Tryd.ntmps110
    go_wp2_with fail
    refine (canShow_any _ _ _).mono ?_
    rintro e w1 ⟨rfl, hb⟩
    have HB := Lib.hid hb
    rw [Mt.dB_tt HC1.out]
    clear hb
    go_wp2_with fail
    refine (canShow_any _ _ _).mono ?_
    rintro e w2 ⟨rfl, hb⟩
    have HB2 : Hid (Below w.heap.size w w2) := HB.out.trans (hb.mono HB.out.size)
    rw [Mt.dB_tt HC2.out]
    clear hb
    go_wp2_with fail
    refine (ifull_any d ⟨by have := HC1.out.1.1; omega, by have := HC1.out.1.2; omega⟩ _).mono ?_
    rintro e w3 ⟨rfl, rfl⟩
    rw [← HF.out]
    go_wp2_with fail
    go_ret
    exact ⟨by rw [HE.out]; rfl, HB2.out⟩
  · have HE := Lib.hid (Mt.turn_on ⟨HC1.out, HC2.out⟩ c3)
    go_enter Tryd.func110, Tryd.ntmps110
    go_wp2_with fail
    refine (canShow_any _ _ _).mono ?_
    rintro e w1 ⟨rfl, hb⟩
    have HB := Lib.hid hb
    rw [Mt.dB_tt HC1.out]
    clear hb
    go_wp2_with fail
    refine (canShow_any _ _ _).mono ?_
    rintro e w2 ⟨rfl, hb⟩
    have HB2 : Hid (Below w.heap.size w w2) := HB.out.trans (hb.mono HB.out.size)
    rw [Mt.dB_tt HC2.out]
    clear hb
    go_wp2_with fail
    go_ret
    exact ⟨by rw [HE.out]; rfl, HB2.out⟩
end Go.Proofs.YtmejmpdljckfgaaDoor
