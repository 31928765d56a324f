/-
  The model's RingsOk.
-/
import Derived.Test.YtnfdamkjkclnmaaAlMem
import Derived.Test.YtnfdamkjkclnmaaMtMath
import Derived.Deep.QuietTactic
import Derived.BigQuiet
namespace Go.Proofs.Ytnfdamkjkclnmaa
open Go.RowKit Go.Deep

theorem albelN {B : Nat} {w W : World} (h : Below B w W) (n : Nat) : Below B w (W.drewN n) := ⟨h.os, h.tape, h.output, h.size, h.block⟩
set_option maxRecDepth 100000 in
set_option maxHeartbeats 16000000 in
theorem specRings_any (la : Option Addr) (n cap : Nat) (R : Nat → Int) (w : World) (h : IsAt la (n * 2) R w) (hn : n ≤ 1048576) :
    Calls Try.prog 23 #[.slice la n cap] w fun e w' => e = .returned (.bool (Mt.dB (Al.RingsOk R n))) ∧ Below w.heap.size w w' := by
  have H := Lib.hid h
  clear h
  by_cases hbig : (300 : Int) < (n : Int)
  · have HE := Lib.hid (Mt.dB_ff (show ¬ Al.RingsOk R n from fun h => by have := h.1; omega))
    go_enter Try.func23, Try.ntmps23
    go_wp2_with fail
    go_ret
    exact ⟨by rw [HE.out]; rfl, Below.refl _ _⟩
  have HN3 : Hid (n ≤ 300) := by show n ≤ 300; omega
  go_enter Try.func23, Try.ntmps23
  go_wp2_with fail
  go_loopw [3, 4, 5, 6] (fun sv iv _ _ wr => ∃ (i : Nat), i ≤ n ∧ iv = .int .i64 i ∧ sv = .int .i64 (Al.ahS R i) ∧ Hid (Below w.heap.size w wr) ∧ Hid (∀ j, j < i → Al.RingAt R j)) (fun _ iv _ _ _ => n - (intOf iv).toNat)
  case atStart => exact ⟨0, Nat.zero_le _, rfl, rfl, Below.refl _ _, fun j hj => absurd hj (Nat.not_lt_zero _)⟩
  case round =>
    obtain ⟨i, hi, rfl, rfl, hB, hP⟩ := hrel
    by_cases hlt : i < n
    · have hltz : (i : Int) < (n : Int) := by omega
      obtain ⟨b, e, kk⟩ := (H.out.below hB.out).pos (by omega)
      subst e
      have k0 := kk (i * 2) (by omega)
      have k1 := kk (i * 2 + 1) (by omega)
      obtain ⟨x, hx⟩ : ∃ x, x = R (i * 2) := ⟨_, rfl⟩
      obtain ⟨y, hy⟩ : ∃ x, x = R (i * 2 + 1) := ⟨_, rfl⟩
      obtain ⟨u, hu⟩ : ∃ x, x = Al.ahA R i := ⟨_, rfl⟩
      obtain ⟨s, hs⟩ : ∃ x, x = Al.ahS R i := ⟨_, rfl⟩
      have hk2 : 0 < i → wr.cell? ⟨b, (i - 1) * 2, none⟩ = some (.int .i64 u) := fun h => by rw [kk ((i - 1) * 2) (by omega), hu]; unfold Al.ahA; rw [if_neg (by omega)]
      have hu0 : i = 0 → u = -1 := fun h => by rw [hu, h]; rfl
      have hun := Al.ahA_nn hP.out
      rw [← hx] at k0
      rw [← hy] at k1
      rw [← hu] at hun
      rw [← hs]
      have hs4 : 1 ≤ s ∧ s ≤ 4 := by rw [hs]; exact Al.ahS_in hP.out
      have HRA : Hid (Al.RingAt R i ↔ (u < x ∧ x < 300 ∧ Al.Fol s y)) := by show _ ↔ _; rw [hx, hy, hu, hs]; exact Iff.rfl
      have HNX : Hid (Al.ahS R (i + 1) = y) := by show Al.ahS R (i + 1) = y; rw [Al.ahS_succ, hy]
      have zb : b < wr.heap.size := World.block_lt_of_cell? _ _ k0
      clear hx hy hu hs kk
      have HWB := Lib.hid (hB.out.alloc hB.out.size (.cells #[.int .i64 x, .int .i64 y] 83))
      obtain ⟨W2, hW2⟩ : ∃ W2, W2 = wr.alloc (.cells #[.int .i64 x, .int .i64 y] 83) := ⟨_, rfl⟩
      have HROW : Hid (W2.rowIs wr.heap.size 83 2 (rowN [.int .i64 x, .int .i64 y])) := by show World.rowIs _ _ _ _ _; rw [hW2]; exact rowN_alloc wr [.int .i64 x, .int .i64 y] _
      rw [← hW2] at HWB
      have HK2 : Hid (0 < i → W2.cell? ⟨b, (i - 1) * 2, none⟩ = some (.int .i64 u)) := fun h => by rw [hW2]; exact (((nbel_alloc wr (.cells #[.int .i64 x, .int .i64 y] 83)).cell (p := ⟨b, (i - 1) * 2, none⟩) zb).trans (hk2 h))
      have HW2 := Lib.hid hW2
      clear hW2 hk2
      by_cases c1 : x < 0
      · have HE := Lib.hid (Mt.dB_ff (show ¬ Al.RingsOk R n from fun h => by have := HRA.out.1 (h.2 i hlt); omega))
        have d1 : decide (x < 0) = true := by simpa using c1
        go_wp2_with fail
        rw [← HW2.out]
        clear k0 k1 zb HW2
        obtain ⟨⟨r0, r1⟩, _⟩ := rowN2 HROW.out
        go_quiet (fail)
        go_wp2_with fail
        go_ret
        exact ⟨by rw [HE.out]; rfl, albelN HWB.out _⟩
      have d1 : decide (x < 0) = false := by simpa using c1
      by_cases c2 : 300 ≤ x
      · have HE := Lib.hid (Mt.dB_ff (show ¬ Al.RingsOk R n from fun h => by have := HRA.out.1 (h.2 i hlt); omega))
        have d2 : decide (300 ≤ x) = true := by simpa using c2
        go_wp2_with fail
        rw [← HW2.out]
        clear k0 k1 zb HW2
        obtain ⟨⟨r0, r1⟩, _⟩ := rowN2 HROW.out
        go_quiet (fail)
        go_wp2_with fail
        go_ret
        exact ⟨by rw [HE.out]; rfl, albelN HWB.out _⟩
      have d2 : decide (300 ≤ x) = false := by simpa using c2
      have HX3 : Hid (x < 300) := by show x < 300; omega
      by_cases hi0 : 0 < i
      · have hk2 := HK2.out hi0
        have d3 : decide ((0 : Int) < (i : Int)) = true := by simp; omega
        have e1 : IntKind.i64.wrap ((i : Int) - 1) = (i : Int) - 1 := awrap_id (by omega) (by omega)
        have e2 : ((i : Int) - 1) = ((i - 1 : Nat) : Int) := by omega
        by_cases c3 : x ≤ u
        · have HE := Lib.hid (Mt.dB_ff (show ¬ Al.RingsOk R n from fun h => by have := HRA.out.1 (h.2 i hlt); omega))
          have d4 : decide (x ≤ u) = true := by simpa using c3
          go_wp2_with fail
          rw [← HW2.out]
          clear k0 k1 zb HW2
          obtain ⟨⟨r0, r1⟩, _⟩ := rowN2 HROW.out
          go_quiet (fail)
          go_wp2_with fail
          go_ret
          exact ⟨by rw [HE.out]; rfl, albelN HWB.out _⟩
        have d4 : decide (x ≤ u) = false := by simpa using c3
        have HUX : Hid (u < x) := by show u < x; omega
        go_wp2_with fail
        rw [← HW2.out]
        clear k0 k1 zb HW2
        obtain ⟨⟨r0, r1⟩, _⟩ := rowN2 HROW.out
        go_quiet (fail)
        obtain ⟨V, hV⟩ : ∃ V, V = W2.drewN nq := ⟨_, rfl⟩
        have HVB : Hid (Below w.heap.size w V) := by show Below _ _ _; rw [hV]; exact albelN HWB.out _
        have HVR : Hid (V.rowIs wr.heap.size 83 2 (rowN [.int .i64 x, .int .i64 y])) := by show World.rowIs _ _ _ _ _; rw [hV]; exact HROW.out.of_block rfl
        rw [← hV]
        clear hV HROW HWB r0 r1 HK2
        obtain ⟨⟨r0, r1⟩, _⟩ := rowN2 HVR.out
        rcases (show s = 1 ∨ s = 2 ∨ s = 3 ∨ s = 4 by omega) with rfl | rfl | rfl | rfl
        · clear hs4
          by_cases e2 : y = 2
          · have z2 : (y == 2) = true := by simp [e2]
            have HE := Lib.hid (decide_eq_true (show Al.Fol 1 y from by unfold Al.Fol; omega))
            clear e2
            have HOK : Hid (Al.RingAt R i) := HRA.out.2 ⟨HUX.out, HX3.out, of_decide_eq_true HE.out⟩
            clear HE
            go_wp2_with fail
            go_roundw
            case rel => exact ⟨i + 1, by omega, by go_num, by rw [HNX.out], HVB, fun j hj => by
              by_cases e : j = i
              · subst e; exact HOK.out
              · exact hP.out j (by omega)⟩
            case measure => simp [intOf]; omega
          have z2 : (y == 2) = false := by simpa using e2
          have HE := Lib.hid (decide_eq_false (show ¬ Al.Fol 1 y from fun h => by unfold Al.Fol at h; omega))
          clear e2
          have HF := Lib.hid (Mt.dB_ff (show ¬ Al.RingsOk R n from fun h => absurd (HRA.out.1 (h.2 i hlt)).2.2 (of_decide_eq_false HE.out)))
          clear HE
          go_wp2_with fail
          go_ret
          exact ⟨by rw [HF.out]; rfl, HVB.out⟩
        · clear hs4
          by_cases e3 : y = 3
          · have z3 : (y == 3) = true := by simp [e3]
            have HE := Lib.hid (decide_eq_true (show Al.Fol 2 y from by unfold Al.Fol; omega))
            clear e3
            have HOK : Hid (Al.RingAt R i) := HRA.out.2 ⟨HUX.out, HX3.out, of_decide_eq_true HE.out⟩
            clear HE
            go_wp2_with fail
            go_roundw
            case rel => exact ⟨i + 1, by omega, by go_num, by rw [HNX.out], HVB, fun j hj => by
              by_cases e : j = i
              · subst e; exact HOK.out
              · exact hP.out j (by omega)⟩
            case measure => simp [intOf]; omega
          have z3 : (y == 3) = false := by simpa using e3
          by_cases e4 : y = 4
          · have z4 : (y == 4) = true := by simp [e4]
            have HE := Lib.hid (decide_eq_true (show Al.Fol 2 y from by unfold Al.Fol; omega))
            clear e3 e4
            have HOK : Hid (Al.RingAt R i) := HRA.out.2 ⟨HUX.out, HX3.out, of_decide_eq_true HE.out⟩
            clear HE
            go_wp2_with fail
            go_roundw
            case rel => exact ⟨i + 1, by omega, by go_num, by rw [HNX.out], HVB, fun j hj => by
              by_cases e : j = i
              · subst e; exact HOK.out
              · exact hP.out j (by omega)⟩
            case measure => simp [intOf]; omega
          have z4 : (y == 4) = false := by simpa using e4
          have HE := Lib.hid (decide_eq_false (show ¬ Al.Fol 2 y from fun h => by unfold Al.Fol at h; omega))
          clear e3 e4
          have HF := Lib.hid (Mt.dB_ff (show ¬ Al.RingsOk R n from fun h => absurd (HRA.out.1 (h.2 i hlt)).2.2 (of_decide_eq_false HE.out)))
          clear HE
          go_wp2_with fail
          go_ret
          exact ⟨by rw [HF.out]; rfl, HVB.out⟩
        · clear hs4
          by_cases e1 : y = 1
          · have z1 : (y == 1) = true := by simp [e1]
            have HE := Lib.hid (decide_eq_true (show Al.Fol 3 y from by unfold Al.Fol; omega))
            clear e1
            have HOK : Hid (Al.RingAt R i) := HRA.out.2 ⟨HUX.out, HX3.out, of_decide_eq_true HE.out⟩
            clear HE
            go_wp2_with fail
            go_roundw
            case rel => exact ⟨i + 1, by omega, by go_num, by rw [HNX.out], HVB, fun j hj => by
              by_cases e : j = i
              · subst e; exact HOK.out
              · exact hP.out j (by omega)⟩
            case measure => simp [intOf]; omega
          have z1 : (y == 1) = false := by simpa using e1
          have HE := Lib.hid (decide_eq_false (show ¬ Al.Fol 3 y from fun h => by unfold Al.Fol at h; omega))
          clear e1
          have HF := Lib.hid (Mt.dB_ff (show ¬ Al.RingsOk R n from fun h => absurd (HRA.out.1 (h.2 i hlt)).2.2 (of_decide_eq_false HE.out)))
          clear HE
          go_wp2_with fail
          go_ret
          exact ⟨by rw [HF.out]; rfl, HVB.out⟩
        · clear hs4
          by_cases e2 : y = 2
          · have z2 : (y == 2) = true := by simp [e2]
            have HE := Lib.hid (decide_eq_true (show Al.Fol 4 y from by unfold Al.Fol; omega))
            clear e2
            have HOK : Hid (Al.RingAt R i) := HRA.out.2 ⟨HUX.out, HX3.out, of_decide_eq_true HE.out⟩
            clear HE
            go_wp2_with fail
            go_roundw
            case rel => exact ⟨i + 1, by omega, by go_num, by rw [HNX.out], HVB, fun j hj => by
              by_cases e : j = i
              · subst e; exact HOK.out
              · exact hP.out j (by omega)⟩
            case measure => simp [intOf]; omega
          have z2 : (y == 2) = false := by simpa using e2
          by_cases e1 : y = 1
          · have z1 : (y == 1) = true := by simp [e1]
            have HE := Lib.hid (decide_eq_true (show Al.Fol 4 y from by unfold Al.Fol; omega))
            clear e2 e1
            have HOK : Hid (Al.RingAt R i) := HRA.out.2 ⟨HUX.out, HX3.out, of_decide_eq_true HE.out⟩
            clear HE
            go_wp2_with fail
            go_roundw
            case rel => exact ⟨i + 1, by omega, by go_num, by rw [HNX.out], HVB, fun j hj => by
              by_cases e : j = i
              · subst e; exact HOK.out
              · exact hP.out j (by omega)⟩
            case measure => simp [intOf]; omega
          have z1 : (y == 1) = false := by simpa using e1
          have HE := Lib.hid (decide_eq_false (show ¬ Al.Fol 4 y from fun h => by unfold Al.Fol at h; omega))
          clear e2 e1
          have HF := Lib.hid (Mt.dB_ff (show ¬ Al.RingsOk R n from fun h => absurd (HRA.out.1 (h.2 i hlt)).2.2 (of_decide_eq_false HE.out)))
          clear HE
          go_wp2_with fail
          go_ret
          exact ⟨by rw [HF.out]; rfl, HVB.out⟩
      · have d3 : decide ((0 : Int) < (i : Int)) = false := by simp; omega
        have hu1 := hu0 (by omega)
        have HUX : Hid (u < x) := by show u < x; omega
        clear hu0 hu1
        go_wp2_with fail
        rw [← HW2.out]
        clear k0 k1 zb HW2
        obtain ⟨⟨r0, r1⟩, _⟩ := rowN2 HROW.out
        go_quiet (fail)
        obtain ⟨V, hV⟩ : ∃ V, V = W2.drewN nq := ⟨_, rfl⟩
        have HVB : Hid (Below w.heap.size w V) := by show Below _ _ _; rw [hV]; exact albelN HWB.out _
        have HVR : Hid (V.rowIs wr.heap.size 83 2 (rowN [.int .i64 x, .int .i64 y])) := by show World.rowIs _ _ _ _ _; rw [hV]; exact HROW.out.of_block rfl
        rw [← hV]
        clear hV HROW HWB r0 r1 HK2
        obtain ⟨⟨r0, r1⟩, _⟩ := rowN2 HVR.out
        rcases (show s = 1 ∨ s = 2 ∨ s = 3 ∨ s = 4 by omega) with rfl | rfl | rfl | rfl
        · clear hs4
          by_cases e2 : y = 2
          · have z2 : (y == 2) = true := by simp [e2]
            have HE := Lib.hid (decide_eq_true (show Al.Fol 1 y from by unfold Al.Fol; omega))
            clear e2
            have HOK : Hid (Al.RingAt R i) := HRA.out.2 ⟨HUX.out, HX3.out, of_decide_eq_true HE.out⟩
            clear HE
            go_wp2_with fail
            go_roundw
            case rel => exact ⟨i + 1, by omega, by go_num, by rw [HNX.out], HVB, fun j hj => by
              by_cases e : j = i
              · subst e; exact HOK.out
              · exact hP.out j (by omega)⟩
            case measure => simp [intOf]; omega
          have z2 : (y == 2) = false := by simpa using e2
          have HE := Lib.hid (decide_eq_false (show ¬ Al.Fol 1 y from fun h => by unfold Al.Fol at h; omega))
          clear e2
          have HF := Lib.hid (Mt.dB_ff (show ¬ Al.RingsOk R n from fun h => absurd (HRA.out.1 (h.2 i hlt)).2.2 (of_decide_eq_false HE.out)))
          clear HE
          go_wp2_with fail
          go_ret
          exact ⟨by rw [HF.out]; rfl, HVB.out⟩
        · clear hs4
          by_cases e3 : y = 3
          · have z3 : (y == 3) = true := by simp [e3]
            have HE := Lib.hid (decide_eq_true (show Al.Fol 2 y from by unfold Al.Fol; omega))
            clear e3
            have HOK : Hid (Al.RingAt R i) := HRA.out.2 ⟨HUX.out, HX3.out, of_decide_eq_true HE.out⟩
            clear HE
            go_wp2_with fail
            go_roundw
            case rel => exact ⟨i + 1, by omega, by go_num, by rw [HNX.out], HVB, fun j hj => by
              by_cases e : j = i
              · subst e; exact HOK.out
              · exact hP.out j (by omega)⟩
            case measure => simp [intOf]; omega
          have z3 : (y == 3) = false := by simpa using e3
          by_cases e4 : y = 4
          · have z4 : (y == 4) = true := by simp [e4]
            have HE := Lib.hid (decide_eq_true (show Al.Fol 2 y from by unfold Al.Fol; omega))
            clear e3 e4
            have HOK : Hid (Al.RingAt R i) := HRA.out.2 ⟨HUX.out, HX3.out, of_decide_eq_true HE.out⟩
            clear HE
            go_wp2_with fail
            go_roundw
            case rel => exact ⟨i + 1, by omega, by go_num, by rw [HNX.out], HVB, fun j hj => by
              by_cases e : j = i
              · subst e; exact HOK.out
              · exact hP.out j (by omega)⟩
            case measure => simp [intOf]; omega
          have z4 : (y == 4) = false := by simpa using e4
          have HE := Lib.hid (decide_eq_false (show ¬ Al.Fol 2 y from fun h => by unfold Al.Fol at h; omega))
          clear e3 e4
          have HF := Lib.hid (Mt.dB_ff (show ¬ Al.RingsOk R n from fun h => absurd (HRA.out.1 (h.2 i hlt)).2.2 (of_decide_eq_false HE.out)))
          clear HE
          go_wp2_with fail
          go_ret
          exact ⟨by rw [HF.out]; rfl, HVB.out⟩
        · clear hs4
          by_cases e1 : y = 1
          · have z1 : (y == 1) = true := by simp [e1]
            have HE := Lib.hid (decide_eq_true (show Al.Fol 3 y from by unfold Al.Fol; omega))
            clear e1
            have HOK : Hid (Al.RingAt R i) := HRA.out.2 ⟨HUX.out, HX3.out, of_decide_eq_true HE.out⟩
            clear HE
            go_wp2_with fail
            go_roundw
            case rel => exact ⟨i + 1, by omega, by go_num, by rw [HNX.out], HVB, fun j hj => by
              by_cases e : j = i
              · subst e; exact HOK.out
              · exact hP.out j (by omega)⟩
            case measure => simp [intOf]; omega
          have z1 : (y == 1) = false := by simpa using e1
          have HE := Lib.hid (decide_eq_false (show ¬ Al.Fol 3 y from fun h => by unfold Al.Fol at h; omega))
          clear e1
          have HF := Lib.hid (Mt.dB_ff (show ¬ Al.RingsOk R n from fun h => absurd (HRA.out.1 (h.2 i hlt)).2.2 (of_decide_eq_false HE.out)))
          clear HE
          go_wp2_with fail
          go_ret
          exact ⟨by rw [HF.out]; rfl, HVB.out⟩
        · clear hs4
          by_cases e2 : y = 2
          · have z2 : (y == 2) = true := by simp [e2]
            have HE := Lib.hid (decide_eq_true (show Al.Fol 4 y from by unfold Al.Fol; omega))
            clear e2
            have HOK : Hid (Al.RingAt R i) := HRA.out.2 ⟨HUX.out, HX3.out, of_decide_eq_true HE.out⟩
            clear HE
            go_wp2_with fail
            go_roundw
            case rel => exact ⟨i + 1, by omega, by go_num, by rw [HNX.out], HVB, fun j hj => by
              by_cases e : j = i
              · subst e; exact HOK.out
              · exact hP.out j (by omega)⟩
            case measure => simp [intOf]; omega
          have z2 : (y == 2) = false := by simpa using e2
          by_cases e1 : y = 1
          · have z1 : (y == 1) = true := by simp [e1]
            have HE := Lib.hid (decide_eq_true (show Al.Fol 4 y from by unfold Al.Fol; omega))
            clear e2 e1
            have HOK : Hid (Al.RingAt R i) := HRA.out.2 ⟨HUX.out, HX3.out, of_decide_eq_true HE.out⟩
            clear HE
            go_wp2_with fail
            go_roundw
            case rel => exact ⟨i + 1, by omega, by go_num, by rw [HNX.out], HVB, fun j hj => by
              by_cases e : j = i
              · subst e; exact HOK.out
              · exact hP.out j (by omega)⟩
            case measure => simp [intOf]; omega
          have z1 : (y == 1) = false := by simpa using e1
          have HE := Lib.hid (decide_eq_false (show ¬ Al.Fol 4 y from fun h => by unfold Al.Fol at h; omega))
          clear e2 e1
          have HF := Lib.hid (Mt.dB_ff (show ¬ Al.RingsOk R n from fun h => absurd (HRA.out.1 (h.2 i hlt)).2.2 (of_decide_eq_false HE.out)))
          clear HE
          go_wp2_with fail
          go_ret
          exact ⟨by rw [HF.out]; rfl, HVB.out⟩
    · obtain rfl : i = n := by omega
      have HE := Lib.hid (Mt.dB_tt (show Al.RingsOk R i from ⟨HN3.out, hP.out⟩))
      go_wp2_with fail
      go_ret
      exact ⟨by rw [HE.out]; rfl, hB.out⟩
end Go.Proofs.Ytnfdamkjkclnmaa
