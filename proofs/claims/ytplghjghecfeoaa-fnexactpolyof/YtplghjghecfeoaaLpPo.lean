/-
  PolyAt, both packages'.
-/
import Derived.Test.YtplghjghecfeoaaLpFl
import Derived.Test.YtplghjghecfeoaaLpS1
namespace Go.Proofs.Ytplghjghecfeoaa
open Go.RowKit Go.Deep

attribute [local go_sem] lrun_store_float lrun_store_complex
namespace Fl
open Ieee
/-- A polynomial's value behind j of its steps. -/
def pl (f : Nat → Nat) (n c d : Nat) : Nat → Nat × Nat
  | 0 => (f (n - 1), 0)
  | j + 1 => (addW (cRe (pl f n c d j).1 (pl f n c d j).2 c d) (f (n - 2 - j)), cIm (pl f n c d j).1 (pl f n c d j).2 c d)
theorem bd_zero (k : Int) : Bd k 0 := ⟨false, 0, -1074, zero_read, Or.inl rfl⟩
theorem pl_bd {f : Nat → Nat} {n c d : Nat} (hn : 1 ≤ n) (h : allB f n = true) (hr : rightB c d = true) : ∀ j : Nat, j + 1 ≤ n → n ≤ 16 → Bd (29 + 36 * j) (pl f n c d j).1 ∧ Bd (29 + 36 * j) (pl f n c d j).2
  | 0, _, _ => ⟨(meas_bd (allB_at h (n - 1) (by omega))).mono (by omega), bd_zero _⟩
  | j + 1, hj, h16 => by
    have ih := pl_bd hn h hr j (by omega) h16
    have hc := cmul_bd ih.1 ih.2 (rightB_iff hr).1 (rightB_iff hr).2 (by omega) (by omega)
    have hf : Bd 29 (f (n - 2 - j)) := meas_bd (allB_at h _ (by omega))
    have ha := addW_bd hc.bre (hf.mono (by omega)) (by omega) (by omega)
    exact ⟨ha.2.mono (by omega), hc.bim.mono (by omega)⟩
theorem pl_step {f : Nat → Nat} {n c d : Nat} (h : allB f n = true) (hr : rightB c d = true) {j m : Nat} (hj : j + (m + 1) + 1 = n) (h16 : n ≤ 16) : CMul (29 + 36 * j + 29 + 4) (pl f n c d j).1 (pl f n c d j).2 c d ∧ floatBits .add .f64 (cRe (pl f n c d j).1 (pl f n c d j).2 c d) (f m) = some (pl f n c d (j + 1)).1 ∧ cIm (pl f n c d j).1 (pl f n c d j).2 c d = (pl f n c d (j + 1)).2 := by
  have ih := pl_bd (by omega) h hr j (by omega) h16
  have hc := cmul_bd ih.1 ih.2 (rightB_iff hr).1 (rightB_iff hr).2 (by omega) (by omega)
  have hf : Bd 29 (f m) := meas_bd (allB_at h _ (by omega))
  have ha := addW_bd hc.bre (hf.mono (by omega)) (by omega) (by omega)
  have e : n - 2 - j = m := by omega
  refine ⟨hc, ?_, rfl⟩
  rw [ha.1]
  show some _ = some (addW _ (f (n - 2 - j)))
  rw [e]
def polyOk (f : Nat → Nat) (n c d : Nat) : Bool := (decide (1 ≤ n) && decide (n ≤ 16)) && (rightB c d && allB f n)
def polyA (f : Nat → Nat) (n c d : Nat) : Nat × Nat := if polyOk f n c d then pl f n c d (n - 1) else (0, 0)
end Fl
set_option maxRecDepth 100000 in
set_option maxHeartbeats 2000000 in
theorem implPolyAt_any (a : Option Addr) (n cap : Nat) (f : Nat → Nat) (c d : Nat) (w : World) (h : FlAt a n f w) (hn : n ≤ 4194304) :
    Calls Try.prog 23 #[.slice a n cap, cnV c d] w fun e w' => e = .returned (cnV (Fl.polyA f n c d).1 (Fl.polyA f n c d).2) ∧ Below w.heap.size w w' := by
  obtain ⟨W, hW⟩ : ∃ W, W = (w.alloc (.cells #[.float .f64 c, .float .f64 d] 25)).alloc (.cells #[.float .f64 0, .float .f64 0] 25) := ⟨_, rfl⟩
  have HB : Hid (Below w.heap.size w W) := by show Below _ _ _; rw [hW]; exact (bel_alloc _ _).alloc (by simp) _
  have HR : Hid (W.rowIs (w.heap.size + 1) 25 2 (rowL (cnL 0 0))) := by show World.rowIs _ _ _ _ _; rw [hW]; exact rowL_alloc' (by simp) (cnL 0 0) _
  have HW := Lib.hid hW
  have H := Lib.hid h
  have HN := Lib.hid hn
  clear hW h hn
  unfold Fl.polyA
  by_cases h0 : n = 0
  · subst h0
    have e1 : Fl.polyOk f 0 c d = false := rfl
    rw [e1]
    simp only [Bool.false_eq_true, if_false]
    go_enter Try.func23, Try.ntmps23
    go_wp2_with fail
    rw [← HW.out]
    clear HW
    refine (inside_any _ _ _).mono ?_
    rintro e w1 ⟨rfl, hb⟩
    replace HR := Lib.hid (wrow_below HR.out hb)
    replace HB : Hid (Below w.heap.size w w1) := HB.out.trans (hb.mono HB.out.size)
    clear hb
    obtain ⟨c0, c1, f0, f1, l0⟩ := told2 HR.out
    go_wp2_with fail
    exact bodyPost_ret (v := cnV 0 0) (by simp [results, Try.results23, go_sem, c0, c1]) rfl ⟨rfl, lbelow_set2 HB.out (by omega) _ _⟩
  have z0 : ((n : Int) == 0) = false := by simp; omega
  by_cases h16 : 16 < n
  · have e1 : Fl.polyOk f n c d = false := by unfold Fl.polyOk; rw [decide_eq_false (show ¬ n ≤ 16 by omega)]; simp
    rw [e1]
    simp only [Bool.false_eq_true, if_false]
    have z16 : (16 : Int) < (n : Int) := by omega
    go_enter Try.func23, Try.ntmps23
    go_wp2_with fail
    rw [← HW.out]
    clear HW
    refine (inside_any _ _ _).mono ?_
    rintro e w1 ⟨rfl, hb⟩
    replace HR := Lib.hid (wrow_below HR.out hb)
    replace HB : Hid (Below w.heap.size w w1) := HB.out.trans (hb.mono HB.out.size)
    clear hb
    obtain ⟨c0, c1, f0, f1, l0⟩ := told2 HR.out
    go_wp2_with fail
    exact bodyPost_ret (v := cnV 0 0) (by simp [results, Try.results23, go_sem, c0, c1]) rfl ⟨rfl, lbelow_set2 HB.out (by omega) _ _⟩
  have z16 : ¬ (16 : Int) < (n : Int) := by omega
  cases hA : Fl.allB f n
  · have e1 : Fl.polyOk f n c d = false := by unfold Fl.polyOk; rw [hA]; simp
    rw [e1]
    simp only [Bool.false_eq_true, if_false]
    go_enter Try.func23, Try.ntmps23
    go_wp2_with fail
    rw [← HW.out]
    clear HW
    refine (inside_any _ _ _).mono ?_
    rintro e w1 ⟨rfl, hb⟩
    replace HR := Lib.hid (wrow_below HR.out hb)
    replace HB : Hid (Below w.heap.size w w1) := HB.out.trans (hb.mono HB.out.size)
    clear hb
    go_wp2_with fail
    refine (measures_any a n cap f _ (H.out.below HB.out) HN.out).mono ?_
    rintro e w2 ⟨rfl, rfl⟩
    rw [hA]
    obtain ⟨c0, c1, f0, f1, l0⟩ := told2 HR.out
    go_wp2_with fail
    exact bodyPost_ret (v := cnV 0 0) (by simp [results, Try.results23, go_sem, c0, c1]) rfl ⟨rfl, lbelow_set2 HB.out (by omega) _ _⟩
  cases hr : Fl.rightB c d
  · have e1 : Fl.polyOk f n c d = false := by unfold Fl.polyOk; rw [hr]; simp
    rw [e1]
    simp only [Bool.false_eq_true, if_false]
    go_enter Try.func23, Try.ntmps23
    go_wp2_with fail
    rw [← HW.out]
    clear HW
    refine (inside_any _ _ _).mono ?_
    rintro e w1 ⟨rfl, hb⟩
    replace HR := Lib.hid (wrow_below HR.out hb)
    replace HB : Hid (Below w.heap.size w w1) := HB.out.trans (hb.mono HB.out.size)
    clear hb
    go_wp2_with fail
    refine (measures_any a n cap f _ (H.out.below HB.out) HN.out).mono ?_
    rintro e w2 ⟨rfl, rfl⟩
    rw [hA]
    go_wp2_with fail
    refine (cright_any _ _ _).mono ?_
    rintro e w3 ⟨rfl, rfl⟩
    rw [hr]
    obtain ⟨c0, c1, f0, f1, l0⟩ := told2 HR.out
    go_wp2_with fail
    exact bodyPost_ret (v := cnV 0 0) (by simp [results, Try.results23, go_sem, c0, c1]) rfl ⟨rfl, lbelow_set2 HB.out (by omega) _ _⟩
  have e1 : Fl.polyOk f n c d = true := by unfold Fl.polyOk; rw [hA, hr, decide_eq_true (show 1 ≤ n by omega), decide_eq_true (show n ≤ 16 by omega)]; rfl
  rw [e1]
  simp only [if_true]
  have HC := Lib.hid hA
  have HD := Lib.hid hr
  go_enter Try.func23, Try.ntmps23
  go_wp2_with fail
  rw [← HW.out]
  clear HW
  refine (inside_any _ _ _).mono ?_
  rintro e w1 ⟨rfl, hb⟩
  replace HR := Lib.hid (wrow_below HR.out hb)
  replace HB : Hid (Below w.heap.size w w1) := HB.out.trans (hb.mono HB.out.size)
  clear hb
  go_wp2_with fail
  refine (measures_any a n cap f _ (H.out.below HB.out) HN.out).mono ?_
  rintro e w2 ⟨rfl, rfl⟩
  rw [hA]
  go_wp2_with fail
  refine (cright_any _ _ _).mono ?_
  rintro e w3 ⟨rfl, rfl⟩
  rw [hr]
  obtain ⟨N, rfl⟩ : ∃ N, n = N + 1 := ⟨n - 1, by omega⟩
  obtain ⟨g1, rfl, k1⟩ := (H.out.below HB.out).at_ (show N < N + 1 by omega)
  have eN : (((N + 1 : Nat) : Int) - 1) = (N : Int) := by omega
  have hk0 : (0 : Int) ≤ (N : Int) := by omega
  have hk1 : (N : Int) < ((N + 1 : Nat) : Int) := by omega
  clear hA hr e1
  go_wp2_with fail
  clear k1
  go_loopw [7, 8] (fun sv kv wx => ∃ j m : Nat, j + m + 1 = N + 1 ∧ sv = .complex .f64 (Fl.pl f (N + 1) c d j).1 (Fl.pl f (N + 1) c d j).2 ∧ kv = .int .i64 ((m : Int) - 1) ∧ wx = w3) (fun _ kv _ => (intOf kv + 1).toNat)
  case atStart => exact ⟨0, N, by omega, rfl, by congr 1, rfl⟩
  case round =>
    obtain ⟨j, m, hjm, rfl, rfl, rfl⟩ := hrel
    cases m with
    | zero =>
      have eN2 : (((0 : Nat) : Int) - 1) = -1 := by omega
      rw [eN2]
      obtain rfl : j = N := by omega
      go_wp2_with fail
      refine (tell_any _ _ _).mono ?_
      rintro e w4 ⟨rfl, hb⟩
      replace HR := Lib.hid (wrow_below HR.out hb)
      replace HB : Hid (Below w.heap.size w w4) := HB.out.trans (hb.mono HB.out.size)
      clear hb
      obtain ⟨c0, c1, f0, f1, l0⟩ := told2 HR.out
      go_wp2_with fail
      exact bodyPost_ret (v := cnV (Fl.pl f (j + 1) c d j).1 (Fl.pl f (j + 1) c d j).2) (by simp [results, Try.results23, go_sem, c0, c1]) rfl ⟨rfl, lbelow_set2 HB.out (by omega) _ _⟩
    | succ m =>
      have eM : (((m + 1 : Nat) : Int) - 1) = (m : Int) := by omega
      rw [eM]
      have hs := Fl.pl_step (m := m) (j := j) HC.out HD.out hjm (by omega)
      have hq := fun (wx : World) => run_complex_mul (P := Try.prog) (w := wx) 51 (Fl.pl f (N + 1) c d j).1 (Fl.pl f (N + 1) c d j).2 c d _ _ hs.1.bits
      have hq2 := fun (wx : World) => run_float_arith (P := Try.prog) (w := wx) .add 23 .f64 (Fl.cRe (Fl.pl f (N + 1) c d j).1 (Fl.pl f (N + 1) c d j).2 c d) (f m) _ hs.2.1
      rw [hs.2.2] at hq
      obtain ⟨g2, eg, k1⟩ := (H.out.below HB.out).at_ (show m < N + 1 by omega)
      injection eg with eg
      injection eg with eg
      subst eg
      have hm0 : (0 : Int) ≤ (m : Int) := by omega
      have hm1 : (m : Int) < ((N + 1 : Nat) : Int) := by omega
      clear hs
      generalize Fl.cRe (Fl.pl f (N + 1) c d j).1 (Fl.pl f (N + 1) c d j).2 c d = X at hq hq2
      go_wp2_with fail
      go_roundw
      case rel => exact ⟨j + 1, m, by omega, rfl, by trivial, by trivial⟩
      case measure => simp [intOf]
end Go.Proofs.Ytplghjghecfeoaa
