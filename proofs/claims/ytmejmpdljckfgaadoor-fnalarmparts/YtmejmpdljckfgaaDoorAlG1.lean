/-
  The program's RingsOk.
-/
import Derived.Test.YtmejmpdljckfgaaDoorAlMem
import Derived.Test.YtmejmpdljckfgaaDoorMtMath
namespace Go.Proofs.YtmejmpdljckfgaaDoor
open Go.RowKit Go.Deep

set_option maxRecDepth 100000 in
set_option maxHeartbeats 4000000 in
theorem follows_any (x y : Int) (hx : 1 ≤ x ∧ x ≤ 4) (w : World) :
    Calls Tryd.prog 49 #[.int .i64 x, .int .i64 y] w fun e w' => e = .returned (.bool (decide (Al.Fol x y))) ∧ w' = w := by
  rcases (show x = 1 ∨ x = 2 ∨ x = 3 ∨ x = 4 by omega) with rfl | rfl | rfl | rfl
  · clear hx
    by_cases e2 : y = 2
    · have z2 : (y == 2) = true := by simp [e2]
      have HE := Lib.hid (decide_eq_true (show Al.Fol 1 y from by unfold Al.Fol; omega))
      clear e2
      go_enter Tryd.func49, Tryd.ntmps49
      go_wp2_with fail
      go_ret
      exact ⟨by rw [HE.out]; rfl, rfl⟩
    have z2 : (y == 2) = false := by simpa using e2
    have HE := Lib.hid (decide_eq_false (show ¬ Al.Fol 1 y from fun h => by unfold Al.Fol at h; omega))
    clear e2
    go_enter Tryd.func49, Tryd.ntmps49
    go_wp2_with fail
    go_ret
    exact ⟨by rw [HE.out]; rfl, rfl⟩
  · clear hx
    by_cases e3 : y = 3
    · have z3 : (y == 3) = true := by simp [e3]
      have HE := Lib.hid (decide_eq_true (show Al.Fol 2 y from by unfold Al.Fol; omega))
      clear e3
      go_enter Tryd.func49, Tryd.ntmps49
      go_wp2_with fail
      go_ret
      exact ⟨by rw [HE.out]; rfl, rfl⟩
    have z3 : (y == 3) = false := by simpa using e3
    by_cases e4 : y = 4
    · have z4 : (y == 4) = true := by simp [e4]
      have HE := Lib.hid (decide_eq_true (show Al.Fol 2 y from by unfold Al.Fol; omega))
      clear e3 e4
      go_enter Tryd.func49, Tryd.ntmps49
      go_wp2_with fail
      go_ret
      exact ⟨by rw [HE.out]; rfl, rfl⟩
    have z4 : (y == 4) = false := by simpa using e4
    have HE := Lib.hid (decide_eq_false (show ¬ Al.Fol 2 y from fun h => by unfold Al.Fol at h; omega))
    clear e3 e4
    go_enter Tryd.func49, Tryd.ntmps49
    go_wp2_with fail
    go_ret
    exact ⟨by rw [HE.out]; rfl, rfl⟩
  · clear hx
    by_cases e1 : y = 1
    · have z1 : (y == 1) = true := by simp [e1]
      have HE := Lib.hid (decide_eq_true (show Al.Fol 3 y from by unfold Al.Fol; omega))
      clear e1
      go_enter Tryd.func49, Tryd.ntmps49
      go_wp2_with fail
      go_ret
      exact ⟨by rw [HE.out]; rfl, rfl⟩
    have z1 : (y == 1) = false := by simpa using e1
    have HE := Lib.hid (decide_eq_false (show ¬ Al.Fol 3 y from fun h => by unfold Al.Fol at h; omega))
    clear e1
    go_enter Tryd.func49, Tryd.ntmps49
    go_wp2_with fail
    go_ret
    exact ⟨by rw [HE.out]; rfl, rfl⟩
  · clear hx
    by_cases e2 : y = 2
    · have z2 : (y == 2) = true := by simp [e2]
      have HE := Lib.hid (decide_eq_true (show Al.Fol 4 y from by unfold Al.Fol; omega))
      clear e2
      go_enter Tryd.func49, Tryd.ntmps49
      go_wp2_with fail
      go_ret
      exact ⟨by rw [HE.out]; rfl, rfl⟩
    have z2 : (y == 2) = false := by simpa using e2
    by_cases e1 : y = 1
    · have z1 : (y == 1) = true := by simp [e1]
      have HE := Lib.hid (decide_eq_true (show Al.Fol 4 y from by unfold Al.Fol; omega))
      clear e2 e1
      go_enter Tryd.func49, Tryd.ntmps49
      go_wp2_with fail
      go_ret
      exact ⟨by rw [HE.out]; rfl, rfl⟩
    have z1 : (y == 1) = false := by simpa using e1
    have HE := Lib.hid (decide_eq_false (show ¬ Al.Fol 4 y from fun h => by unfold Al.Fol at h; omega))
    clear e2 e1
    go_enter Tryd.func49, Tryd.ntmps49
    go_wp2_with fail
    go_ret
    exact ⟨by rw [HE.out]; rfl, rfl⟩
set_option maxRecDepth 100000 in
set_option maxHeartbeats 4000000 in
theorem implRings_any (la : Option Addr) (n cap : Nat) (R : Nat → Int) (w : World) (h : IsAt la (n * 2) R w) (hn : n ≤ 1048576) :
    Calls Tryd.prog 16 #[.slice la n cap] w fun e w' => e = .returned (.bool (Mt.dB (Al.RingsOk R n))) ∧ Below w.heap.size w w' := by
  have H := Lib.hid h
  clear h
  by_cases hbig : (300 : Int) < (n : Int)
  · have HE := Lib.hid (Mt.dB_ff (show ¬ Al.RingsOk R n from fun h => by have := h.1; omega))
    go_enter Tryd.func16, Tryd.ntmps16
    go_wp2_with fail
    go_ret
    exact ⟨by rw [HE.out]; rfl, Below.refl _ _⟩
  have HN3 : Hid (n ≤ 300) := by show n ≤ 300; omega
  obtain ⟨W, hW⟩ : ∃ W, W = w.alloc (.cells #[.int .i64 (-1), .int .i64 1] 52) := ⟨_, rfl⟩
  have HA0 : Hid (W.rowIs w.heap.size 52 2 (rowN [.int .i64 (Al.ahA R 0), .int .i64 (Al.ahS R 0)])) := by show World.rowIs _ _ _ _ _; rw [hW]; exact rowN_alloc w [.int .i64 (-1), .int .i64 1] _
  have HB0 : Hid (Below w.heap.size w W) := by show Below _ _ _; rw [hW]; exact nbel_alloc _ _
  have HW := Lib.hid hW
  clear hW
  go_enter Tryd.func16, Tryd.ntmps16
  go_wp2_with fail
  rw [← HW.out]
  clear HW
  go_loopw [5, 12] (fun _ iv wr => ∃ (i : Nat), i ≤ n ∧ iv = .int .i64 i ∧ Hid (wr.rowIs w.heap.size 52 2 (rowN [.int .i64 (Al.ahA R i), .int .i64 (Al.ahS R i)])) ∧ Hid (Below w.heap.size w wr) ∧ Hid (∀ j, j < i → Al.RingAt R j)) (fun _ iv _ => n - (intOf iv).toNat)
  case atStart => exact ⟨0, Nat.zero_le _, rfl, HA0, HB0, fun j hj => absurd hj (Nat.not_lt_zero _)⟩
  case round =>
    obtain ⟨i, hi, rfl, hA, hB, hP⟩ := hrel
    clear HA0 HB0
    by_cases hlt : i < n
    · have hltz : (i : Int) < (n : Int) := by omega
      obtain ⟨b, e, k0, k1⟩ := (H.out.below hB.out).at2 hlt
      subst e
      obtain ⟨x, hx⟩ : ∃ x, x = R (i * 2) := ⟨_, rfl⟩
      obtain ⟨y, hy⟩ : ∃ x, x = R (i * 2 + 1) := ⟨_, rfl⟩
      obtain ⟨u, hu⟩ : ∃ x, x = Al.ahA R i := ⟨_, rfl⟩
      obtain ⟨s, hs⟩ : ∃ x, x = Al.ahS R i := ⟨_, rfl⟩
      rw [← hx] at k0
      rw [← hy] at k1
      rw [← hu, ← hs] at hA
      have hs4 : 1 ≤ s ∧ s ≤ 4 := by rw [hs]; exact Al.ahS_in hP.out
      have HRA : Hid (Al.RingAt R i ↔ (u < x ∧ x < 300 ∧ Al.Fol s y)) := by show _ ↔ _; rw [hx, hy, hu, hs]; exact Iff.rfl
      have HNX : Hid (Al.ahA R (i + 1) = x ∧ Al.ahS R (i + 1) = y) := ⟨by rw [Al.ahA_succ, hx], by rw [Al.ahS_succ, hy]⟩
      have zb : b < wr.heap.size := World.block_lt_of_cell? _ _ k0
      have HS4 := Lib.hid hs4
      clear hx hy hu hs hs4
      obtain ⟨⟨a0, a1⟩, g0, g1⟩ := rowN2 hA.out
      have hal := hA.out.lt
      have HWB := Lib.hid (hB.out.alloc hB.out.size (.cells #[.int .i64 x, .int .i64 y] 52))
      by_cases c1 : x ≤ u
      · have HE := Lib.hid (Mt.dB_ff (show ¬ Al.RingsOk R n from fun h => by have := HRA.out.1 (h.2 i hlt); omega))
        go_wp2_with fail
        go_ret
        exact ⟨by rw [HE.out]; rfl, HWB.out⟩
      by_cases c2 : 300 ≤ x
      · have HE := Lib.hid (Mt.dB_ff (show ¬ Al.RingsOk R n from fun h => by have := HRA.out.1 (h.2 i hlt); omega))
        go_wp2_with fail
        go_ret
        exact ⟨by rw [HE.out]; rfl, HWB.out⟩
      have HC : Hid (u < x ∧ x < 300) := ⟨by omega, by omega⟩
      go_wp2_with fail
      refine (follows_any s y HS4.out _).mono ?_
      rintro e w1 ⟨rfl, hw⟩
      rw [hw]
      clear hw w1
      by_cases c : Al.Fol s y
      · rw [decide_eq_true c]
        have HOK : Hid (Al.RingAt R i) := HRA.out.2 ⟨HC.out.1, HC.out.2, c⟩
        clear c c1 c2
        have HA2 : Hid ((((wr.setCell ⟨w.heap.size, 0, none⟩ (.int .i64 x)).setCell ⟨w.heap.size, 1, none⟩ (.int .i64 y)).alloc (.cells #[.int .i64 x, .int .i64 y] 52)).rowIs w.heap.size 52 2 (rowN [.int .i64 x, .int .i64 y])) := nrow_below (rowN_put (rowN_put hA.out 0 (.int .i64 x) (by simp)) 1 (.int .i64 y) (by simp)) (nbel_alloc _ _)
        have HB2 : Hid (Below w.heap.size w (((wr.setCell ⟨w.heap.size, 0, none⟩ (.int .i64 x)).setCell ⟨w.heap.size, 1, none⟩ (.int .i64 y)).alloc (.cells #[.int .i64 x, .int .i64 y] 52))) := ((hB.out.setCell (p := ⟨w.heap.size, 0, none⟩) (Nat.le_refl _) _).setCell (p := ⟨w.heap.size, 1, none⟩) (Nat.le_refl _) _).alloc (by simpa using hB.out.size) _
        go_wp2_with fail
        go_roundw
        case rel => exact ⟨i + 1, by omega, by go_num, by rw [HNX.out.1, HNX.out.2]; exact HA2, HB2, fun j hj => by
          by_cases e : j = i
          · subst e; exact HOK.out
          · exact hP.out j (by omega)⟩
        case measure => simp [intOf]; omega
      · rw [decide_eq_false c]
        have HE := Lib.hid (Mt.dB_ff (show ¬ Al.RingsOk R n from fun h => c (HRA.out.1 (h.2 i hlt)).2.2))
        clear c
        go_wp2_with fail
        go_ret
        exact ⟨by rw [HE.out]; rfl, HWB.out⟩
    · obtain rfl : i = n := by omega
      have HE := Lib.hid (Mt.dB_tt (show Al.RingsOk R i from ⟨HN3.out, hP.out⟩))
      go_wp2_with fail
      go_ret
      exact ⟨by rw [HE.out]; rfl, hB.out⟩
end Go.Proofs.YtmejmpdljckfgaaDoor
