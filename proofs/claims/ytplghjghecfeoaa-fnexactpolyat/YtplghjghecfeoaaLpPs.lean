/-
  PolyAt, the model's.
-/
import Derived.Test.YtplghjghecfeoaaLpPo
namespace Go.Proofs.Ytplghjghecfeoaa
open Go.RowKit Go.Deep

attribute [local go_sem] lrun_store_float lrun_store_complex
/-- What stands while the model reckons: the box, the answer's row, the value's row. -/
structure PoS (w : World) (c d g x y : Nat) (W : World) : Prop where
  box : W.rowIs w.heap.size 25 2 (rowL (cnL c d))
  ans : W.rowIs (w.heap.size + 1) 25 2 (rowL (cnL 0 0))
  val : W.rowIs g 25 2 (rowL (cnL x y))
  bel : Below w.heap.size w W
  num : w.heap.size + 1 < g
theorem PoS.below {w : World} {c d g x y : Nat} {W W' : World} (h : PoS w c d g x y W) (hb : Below W.heap.size W W') : PoS w c d g x y W' := ⟨wrow_below h.box hb, wrow_below h.ans hb, wrow_below h.val hb, h.bel.trans (hb.mono h.bel.size), h.num⟩
theorem PoS.set0 {w : World} {c d g x y : Nat} {W : World} (h : PoS w c d g x y W) (u : Nat) : PoS w c d g u y (W.setCell ⟨g, 0, none⟩ (.float .f64 u)) :=
  have hn := h.num
  ⟨h.box.setOther (a := ⟨g, 0, none⟩) (by show w.heap.size ≠ g; omega) _, h.ans.setOther (a := ⟨g, 0, none⟩) (by show w.heap.size + 1 ≠ g; omega) _, rowL_set h.val 0 (.float .f64 u) (by simp), h.bel.setCell (p := ⟨g, 0, none⟩) (by show w.heap.size ≤ g; omega) _, h.num⟩
theorem PoS.set1 {w : World} {c d g x y : Nat} {W : World} (h : PoS w c d g x y W) (u : Nat) : PoS w c d g x u (W.setCell ⟨g, 1, none⟩ (.float .f64 u)) :=
  have hn := h.num
  ⟨h.box.setOther (a := ⟨g, 1, none⟩) (by show w.heap.size ≠ g; omega) _, h.ans.setOther (a := ⟨g, 1, none⟩) (by show w.heap.size + 1 ≠ g; omega) _, rowL_set h.val 1 (.float .f64 u) (by simp), h.bel.setCell (p := ⟨g, 1, none⟩) (by show w.heap.size ≤ g; omega) _, h.num⟩
theorem PoS.drew {w : World} {c d g x y : Nat} {W : World} (h : PoS w c d g x y W) : PoS w c d g x y W.drew := h.below (Below.refl _ _).drew
set_option maxRecDepth 100000 in
set_option maxHeartbeats 4000000 in
theorem specPolyAt_any (a : Option Addr) (n cap : Nat) (f : Nat → Nat) (c d : Nat) (w : World) (h : FlAt a n f w) (hn : n ≤ 4194304) :
    Calls Try.prog 21 #[.slice a n cap, cnV c d] w fun e w' => e = .returned (cnV (Fl.polyA f n c d).1 (Fl.polyA f n c d).2) ∧ Below w.heap.size w w' := by
  obtain ⟨W, hW⟩ : ∃ W, W = (w.alloc (.cells #[.float .f64 c, .float .f64 d] 25)).alloc (.cells #[.float .f64 0, .float .f64 0] 25) := ⟨_, rfl⟩
  have HB : Hid (Below w.heap.size w W) := by show Below _ _ _; rw [hW]; exact (bel_alloc _ _).alloc (by simp) _
  have HX : Hid (W.rowIs w.heap.size 25 2 (rowL (cnL c d))) := by show World.rowIs _ _ _ _ _; rw [hW]; exact wrow_below (rowL_alloc w (cnL c d) _) (bel_alloc _ _)
  have HR : Hid (W.rowIs (w.heap.size + 1) 25 2 (rowL (cnL 0 0))) := by show World.rowIs _ _ _ _ _; rw [hW]; exact rowL_alloc' (by simp) (cnL 0 0) _
  have HW := Lib.hid hW
  have H := Lib.hid h
  have HN := Lib.hid hn
  clear hW h hn
  by_cases h0 : n = 0
  · subst h0
    have e1 : Fl.polyOk f 0 c d = false := rfl
    have e2 : Fl.polyA f 0 c d = (0, 0) := by unfold Fl.polyA; rw [e1]; rfl
    rw [e2]
    go_enter Try.func21, Try.ntmps21
    go_wp2_with fail
    have HE := HW.out
    exact bodyPost_ret (v := cnV 0 0) (by simp [results, Try.results21, go_sem]) rfl ⟨rfl, (bel_alloc _ _).alloc (by simp) _⟩
  have z0 : ¬ ((n : Int) < 1) := by omega
  by_cases h16 : 16 < n
  · have e1 : Fl.polyOk f n c d = false := by unfold Fl.polyOk; rw [decide_eq_false (show ¬ n ≤ 16 by omega)]; simp
    have e2 : Fl.polyA f n c d = (0, 0) := by unfold Fl.polyA; rw [e1]; rfl
    rw [e2]
    have z16 : (16 : Int) < (n : Int) := by omega
    go_enter Try.func21, Try.ntmps21
    go_wp2_with fail
    exact bodyPost_ret (v := cnV 0 0) (by simp [results, Try.results21, go_sem]) rfl ⟨rfl, (bel_alloc _ _).alloc (by simp) _⟩
  have z16 : ¬ (16 : Int) < (n : Int) := by omega
  cases hr : Fl.rightB c d
  · have e1 : Fl.polyOk f n c d = false := by unfold Fl.polyOk; rw [hr]; simp
    have e2 : Fl.polyA f n c d = (0, 0) := by unfold Fl.polyA; rw [e1]; rfl
    rw [e2]
    go_enter Try.func21, Try.ntmps21
    go_wp2_with fail
    rw [← HW.out]
    clear HW
    refine (sRight_any _ _ _).mono ?_
    rintro e w1 ⟨rfl, hb⟩
    rw [hr]
    replace HR := Lib.hid (wrow_below HR.out hb)
    replace HB : Hid (Below w.heap.size w w1) := HB.out.trans (hb.mono HB.out.size)
    clear hb
    obtain ⟨c0, c1, f0, f1, l0⟩ := told2 HR.out
    go_wp2_with fail
    exact bodyPost_ret (v := cnV 0 0) (by simp [results, Try.results21, go_sem, c0, c1]) rfl ⟨rfl, lbelow_set2 HB.out (by omega) _ _⟩
  have HD := Lib.hid hr
  go_enter Try.func21, Try.ntmps21
  go_wp2_with fail
  rw [← HW.out]
  clear HW
  refine (sRight_any _ _ _).mono ?_
  rintro e w1 ⟨rfl, hb⟩
  rw [hr]
  replace HX := Lib.hid (wrow_below HX.out hb)
  replace HR := Lib.hid (wrow_below HR.out hb)
  replace HB : Hid (Below w.heap.size w w1) := HB.out.trans (hb.mono HB.out.size)
  clear hb hr
  go_wp2_with fail
  go_loopw [5] (fun iv wx => ∃ k : Nat, k ≤ n ∧ iv = .int .i64 k ∧ Hid (Fl.allB f k = true) ∧ wx = w1) (fun i _ => n - (intOf i).toNat)
  case atStart => exact ⟨0, Nat.zero_le _, rfl, rfl, rfl⟩
  case round =>
    obtain ⟨k, hk, rfl, hA, rfl⟩ := hrel
    by_cases hlt : k < n
    · have hltz : (k : Int) < (n : Int) := by omega
      have hk0 : (0 : Int) ≤ (k : Int) := by omega
      obtain ⟨g1, rfl, k1⟩ := (H.out.below HB.out).at_ hlt
      cases hm : Fl.measB (f k)
      · have e1 : Fl.polyOk f n c d = false := by unfold Fl.polyOk; rw [Fl.allB_no hlt hm]; simp
        have E2 : Hid (Fl.polyA f n c d = (0, 0)) := by show _ = _; unfold Fl.polyA; rw [e1]; rfl
        clear e1
        obtain ⟨c0, c1, f0, f1, l0⟩ := told2 HR.out
        go_wp2_with (first | (go_at_call 44; refine (specMeas_any _ _).mono ?_; rintro e w' ⟨rfl, rfl⟩))
        exact bodyPost_ret (v := cnV 0 0) (by simp [results, Try.results21, go_sem, c0, c1]) rfl ⟨by rw [E2.out], lbelow_set2 HB.out (by omega) _ _⟩
      · go_wp2_with (first | (go_at_call 44; refine (specMeas_any _ _).mono ?_; rintro e w' ⟨rfl, rfl⟩))
        go_roundw
        case rel => exact ⟨k + 1, by omega, by go_num, by show (Fl.allB f k && Fl.measB (f k)) = true; rw [hA.out, hm]; rfl, by trivial⟩
        case measure => simp [intOf]; omega
    · obtain rfl : k = n := by omega
      obtain ⟨N, rfl⟩ : ∃ N, k = N + 1 := ⟨k - 1, by omega⟩
      have e1 : Fl.polyOk f (N + 1) c d = true := by unfold Fl.polyOk; rw [hA.out, HD.out, decide_eq_true (show 1 ≤ N + 1 by omega), decide_eq_true (show N + 1 ≤ 16 by omega)]; rfl
      have E2 : Hid (Fl.polyA f (N + 1) c d = Fl.pl f (N + 1) c d N) := by show _ = _; unfold Fl.polyA; rw [e1]; rfl
      clear e1
      obtain ⟨g1, rfl, k1⟩ := (H.out.below HB.out).at_ (show N < N + 1 by omega)
      have eN : (((N + 1 : Nat) : Int) - 1) = (N : Int) := by omega
      have eN2 : (((N + 1 : Nat) : Int) - 2) = (N : Int) - 1 := by omega
      have hk0 : (0 : Int) ≤ (N : Int) := by omega
      have hk1 : (N : Int) < ((N + 1 : Nat) : Int) := by omega
      have hnl : ¬ ((N + 1 : Nat) : Int) < ((N + 1 : Nat) : Int) := by omega
      obtain ⟨W2, hW2⟩ : ∃ W2, W2 = wr.alloc (.cells #[.float .f64 (f N), .float .f64 0] 25) := ⟨_, rfl⟩
      have HP : Hid (PoS w c d wr.heap.size (f N) 0 W2) := by
        have hb : Below wr.heap.size wr W2 := by rw [hW2]; exact bel_alloc _ _
        exact ⟨wrow_below HX.out hb, wrow_below HR.out hb, by rw [hW2]; exact rowL_alloc wr (cnL (f N) 0) _, HB.out.trans (hb.mono HB.out.size), HR.out.lt⟩
      have HW2 := Lib.hid hW2
      obtain ⟨g6, hg6⟩ : ∃ g6, g6 = wr.heap.size := ⟨_, rfl⟩
      rw [← hg6] at HP
      have HG := Lib.hid hg6
      have HC := hA
      clear hA hW2 hg6
      go_wp2_with fail
      rw [← HW2.out, ← HG.out]
      clear HW2 HG HX HR HB k1 eN eN2 hk0 hk1 hnl
      go_loopw [7] (fun kv wx => ∃ j m : Nat, j + m + 1 = N + 1 ∧ kv = .int .i64 ((m : Int) - 1) ∧ Hid (PoS w c d g6 (Fl.pl f (N + 1) c d j).1 (Fl.pl f (N + 1) c d j).2 wx)) (fun kv _ => (intOf kv + 1).toNat)
      case atStart => exact ⟨0, N, by omega, by congr 1; omega, HP⟩
      case round =>
        obtain ⟨j, m, hjm, rfl, HQ⟩ := hrel
        clear HP
        cases m with
        | zero =>
          have eN2 : (((0 : Nat) : Int) - 1) = -1 := by omega
          rw [eN2]
          obtain rfl : j = N := by omega
          obtain ⟨q0, q1, _, _, _⟩ := told2 HQ.out.val
          obtain ⟨c0, c1, f0, f1, l0⟩ := told2 HQ.out.ans
          go_wp2_with fail
          exact bodyPost_ret (v := cnV (Fl.pl f (j + 1) c d j).1 (Fl.pl f (j + 1) c d j).2) (by simp [results, Try.results21, go_sem, c0, c1]) rfl ⟨by rw [E2.out], lbelow_set2 HQ.out.bel (by omega) _ _⟩
        | succ m =>
          have eM : (((m + 1 : Nat) : Int) - 1) = (m : Int) := by omega
          rw [eM]
          have hs := Fl.pl_step (m := m) (j := j) HC.out HD.out hjm (by omega)
          have HS := Lib.hid hs
          have hq2 := fun (wx : World) => run_float_arith (P := Try.prog) (w := wx) .add 23 .f64 (Fl.cRe (Fl.pl f (N + 1) c d j).1 (Fl.pl f (N + 1) c d j).2 c d) (f m) _ hs.2.1
          have hm0 : (0 : Int) ≤ (m : Int) := by omega
          have hm1 : (m : Int) < ((N : Nat) : Int) + 1 := by omega
          clear hs
          obtain ⟨q0, q1, _, _, _⟩ := told2 HQ.out.val
          obtain ⟨p0, p1, _, _, _⟩ := told2 HQ.out.box
          go_wp2_with fail
          clear q0 q1 p0 p1
          refine (sMulW_any _ _ c d _ _ HS.out.1).mono ?_
          rintro e w5 ⟨rfl, hb⟩
          have HQ2 := Lib.hid (HQ.out.below hb)
          clear hb HQ
          rw [HS.out.2.2]
          obtain ⟨W6, hW6⟩ : ∃ W6, W6 = (w5.setCell ⟨g6, 0, none⟩ (.float .f64 (Fl.cRe (Fl.pl f (N + 1) c d j).1 (Fl.pl f (N + 1) c d j).2 c d))).setCell ⟨g6, 1, none⟩ (.float .f64 (Fl.pl f (N + 1) c d (j + 1)).2) := ⟨_, rfl⟩
          have HQ3 : Hid (PoS w c d g6 (Fl.cRe (Fl.pl f (N + 1) c d j).1 (Fl.pl f (N + 1) c d j).2 c d) (Fl.pl f (N + 1) c d (j + 1)).2 W6) := by show PoS _ _ _ _ _ _ _; rw [hW6]; exact (HQ2.out.set0 _).set1 _
          have HW6 := Lib.hid hW6
          obtain ⟨q0, q1, f0, f1, l0⟩ := told2 HQ2.out.val
          clear hW6 HS
          generalize Fl.cRe (Fl.pl f (N + 1) c d j).1 (Fl.pl f (N + 1) c d j).2 c d = X at *
          go_wp2_with fail
          rw [← HW6.out]
          clear q0 q1 f0 f1 l0 HW6 HQ2
          obtain ⟨g2, eg, k1⟩ := (H.out.below HQ3.out.bel).at_ (show m < N + 1 by omega)
          injection eg with eg
          injection eg with eg
          subst eg
          obtain ⟨q0, q1, f0, f1, l0⟩ := told2 HQ3.out.val
          go_region
          go_wp2_with fail
          go_roundw
          case rel => exact ⟨j + 1, m, by omega, by trivial, HQ3.out.drew.set0 _⟩
          case measure => simp [intOf]
end Go.Proofs.Ytplghjghecfeoaa
