/-
  The model's Cnums: sizes, products and quotients; the laws' conversion and comparison.
-/
import Derived.Test.YthcgffnkpeiddaaLpI1
namespace Go.Proofs.Ythcgffnkpeiddaa
open Go.RowKit Go.Deep

attribute [local go_sem] lrun_store_float lrun_store_complex

set_option maxHeartbeats 1000000 in
theorem sRight_any (a b : Nat) (w : World) :
    Calls Try.prog 35 #[cnV a b] w fun e w' => e = .returned (.bool (Fl.rightB a b)) ∧ Below w.heap.size w w' := by
  unfold Fl.rightB
  cases h : Fl.measB a
  · go_enter Try.func35, Try.ntmps35
    go_wp2_with (first | (go_at_call 26; refine (specMeas_any _ _).mono ?_; rintro e w' ⟨rfl, rfl⟩))
    go_ret
    exact ⟨rfl, bel_alloc _ _⟩
  · go_enter Try.func35, Try.ntmps35
    go_wp2_with (first | (go_at_call 26; refine (specMeas_any _ _).mono ?_; rintro e w' ⟨rfl, rfl⟩))
    go_ret
    exact ⟨rfl, bel_alloc _ _⟩
set_option maxHeartbeats 1000000 in
theorem sSizeW_any (a b : Nat) (w : World) (ha : Fl.Bd 29 a) (hb : Fl.Bd 29 b) :
    Calls Try.prog 38 #[cnV a b] w fun e w' => e = .returned (.float .f64 (Fl.szW a b)) ∧ Below w.heap.size w w' := by
  have H := Fl.size_bits ha hb
  have q1 := fun (wx : World) => run_float_arith (P := Try.prog) (w := wx) .mul 22 .f64 a a _ H.2.1
  have q2 := fun (wx : World) => run_float_arith (P := Try.prog) (w := wx) .mul 22 .f64 b b _ H.2.2.1
  have q3 := fun (wx : World) => run_float_arith (P := Try.prog) (w := wx) .add 22 .f64 (Fl.mulW a a) (Fl.mulW b b) _ H.2.2.2.1
  clear H ha hb
  go_enter Try.func38, Try.ntmps38
  go_wp2
  go_ret
  exact ⟨rfl, bel_alloc _ _⟩
set_option maxHeartbeats 1000000 in
theorem specSize_any (a b : Nat) (w : World) :
    Calls Try.prog 21 #[cnV a b] w fun e w' => e = .returned (.float .f64 (Fl.sizeA a b)) ∧ Below w.heap.size w w' := by
  unfold Fl.sizeA
  have HR : Hid (∀ W, Below (w.alloc (.cells #[.float .f64 a, .float .f64 b] 33)).heap.size (w.alloc (.cells #[.float .f64 a, .float .f64 b] 33)) W → W.rowIs w.heap.size 33 2 (rowL (cnL a b)) ∧ Below w.heap.size w W) := fun W hb => ⟨wrow_below (rowL_alloc w (cnL a b) _) hb, (bel_alloc _ _).trans (hb.mono (by simp))⟩
  cases h : Fl.rightB a b
  · go_enter Try.func21, Try.ntmps21
    go_wp2_with fail
    refine (sRight_any _ _ _).mono ?_
    rintro e w1 ⟨rfl, hb⟩
    rw [h]
    have HB := Lib.hid (HR.out _ hb)
    clear hb
    go_wp2_with fail
    go_ret
    exact ⟨rfl, HB.out.2⟩
  · go_enter Try.func21, Try.ntmps21
    go_wp2_with fail
    refine (sRight_any _ _ _).mono ?_
    rintro e w1 ⟨rfl, hb⟩
    rw [h]
    have HB := Lib.hid (HR.out _ hb)
    obtain ⟨⟨c0, c1⟩, _⟩ := row2_cells HB.out.1
    clear hb
    go_wp2_with fail
    clear c0 c1
    refine (sSizeW_any _ _ _ (Fl.rightB_iff h).1 (Fl.rightB_iff h).2).mono ?_
    rintro e w2 ⟨rfl, hb⟩
    have HB2 : Hid (Below w.heap.size w w2) := HB.out.2.trans (hb.mono HB.out.2.size)
    clear hb HB
    go_wp2_with fail
    go_ret
    exact ⟨rfl, HB2.out⟩
set_option maxHeartbeats 1000000 in
theorem sDivW_any (a b c d : Nat) (w : World) (ha : Fl.Bd 29 a) (hb : Fl.Bd 29 b) (hc : Fl.Bd 29 c) (hd : Fl.Bd 29 d) :
    Calls Try.prog 28 #[cnV a b, cnV c d] w fun e w' => e = .returned (cnV (if Fl.posB c d then Fl.divW (Fl.dRe a b c d) (Fl.szW c d) else 0) (if Fl.posB c d then Fl.divW (Fl.dIm a b c d) (Fl.szW c d) else 0)) ∧ Below w.heap.size w w' := by
  unfold Fl.posB
  have HC : Hid (Fl.Bd 29 c ∧ Fl.Bd 29 d) := ⟨hc, hd⟩
  have H := Fl.cdiv_bd ha hb hc hd
  rcases Fl.sz_order hc hd with ⟨ho, hm⟩ | ho
  · have hp : (FloatKind.f64.format.order (Fl.szW c d) 0 == some .gt) = true := by rw [ho]; rfl
    rw [if_pos hp, if_pos hp]
    have q1 := fun (wx : World) => run_float_arith (P := Try.prog) (w := wx) .mul 22 .f64 a c _ H.ac
    have q2 := fun (wx : World) => run_float_arith (P := Try.prog) (w := wx) .mul 22 .f64 b d _ H.bd
    have q3 := fun (wx : World) => run_float_arith (P := Try.prog) (w := wx) .mul 22 .f64 a d _ H.ad
    have q4 := fun (wx : World) => run_float_arith (P := Try.prog) (w := wx) .mul 22 .f64 b c _ H.bc
    have q5 := fun (wx : World) => run_float_arith (P := Try.prog) (w := wx) .add 22 .f64 (Fl.mulW a c) (Fl.mulW b d) _ H.re
    have q6 := fun (wx : World) => run_float_arith (P := Try.prog) (w := wx) .sub 22 .f64 (Fl.mulW b c) (Fl.mulW a d) _ H.im
    have q7 := fun (wx : World) => run_float_arith (P := Try.prog) (w := wx) .quo 22 .f64 (Fl.dRe a b c d) (Fl.szW c d) _ (Fl.divW_some H.bre hm)
    have q8 := fun (wx : World) => run_float_arith (P := Try.prog) (w := wx) .quo 22 .f64 (Fl.dIm a b c d) (Fl.szW c d) _ (Fl.divW_some H.bim hm)
    clear H ha hb hc hd hp hm
    go_enter Try.func28, Try.ntmps28
    go_wp2_with fail
    refine (sSizeW_any _ _ _ HC.out.1 HC.out.2).mono ?_
    rintro e w1 ⟨rfl, hb⟩
    have hs := cm_later (hb.mono (by simp))
    have HH := Lib.hid hs
    have HB := Lib.hid hs.2.2.2.2.2.out.2
    obtain ⟨d0, d1, f0, f1, l0⟩ := told2 hs.2.2.2.2.2.out.1
    obtain ⟨c1, c2, c3, c4, hz, _⟩ := hs
    clear hb HH
    go_wp2_with fail
    exact bodyPost_ret (v := cnV (Fl.divW (Fl.dRe a b c d) (Fl.szW c d)) (Fl.divW (Fl.dIm a b c d) (Fl.szW c d))) (by simp [results, Try.results28, go_sem, d0, d1]) rfl ⟨rfl, lbelow_set2 HB.out (by omega) _ _⟩
  · have hp : ¬ ((FloatKind.f64.format.order (Fl.szW c d) 0 == some .gt) = true) := by rw [ho]; decide
    rw [if_neg hp, if_neg hp]
    clear H ha hb hc hd hp
    go_enter Try.func28, Try.ntmps28
    go_wp2_with fail
    refine (sSizeW_any _ _ _ HC.out.1 HC.out.2).mono ?_
    rintro e w1 ⟨rfl, hb⟩
    have hs := cm_later (hb.mono (by simp))
    have HH := Lib.hid hs
    have HB := Lib.hid hs.2.2.2.2.2.out.2
    obtain ⟨d0, d1, f0, f1, l0⟩ := told2 hs.2.2.2.2.2.out.1
    obtain ⟨c1, c2, c3, c4, hz, _⟩ := hs
    clear hb HH
    clear c1 c2 c3 c4
    go_wp2_with fail
    exact bodyPost_ret (v := cnV 0 0) (by simp [results, Try.results28, go_sem, d0, d1]) rfl ⟨rfl, lbelow_set2 HB.out (by omega) _ _⟩
set_option maxHeartbeats 1000000 in
theorem specDiv_any (a b c d : Nat) (w : World) :
    Calls Try.prog 18 #[cnV a b, cnV c d] w fun e w' => e = .returned (cnV (Fl.divRe a b c d) (Fl.divIm a b c d)) ∧ Below w.heap.size w w' := by
  unfold Fl.divRe Fl.divIm
  cases h1 : Fl.rightB a b
  · simp only [Bool.false_and, Bool.false_eq_true, if_false]
    go_enter Try.func18, Try.ntmps18
    go_wp2_with fail
    refine (sRight_any _ _ _).mono ?_
    rintro e w1 ⟨rfl, hb⟩
    rw [h1]
    have hs := cm_later (hb.mono (by simp))
    have HH := Lib.hid hs
    obtain ⟨c1, c2, c3, c4, hz, _⟩ := hs
    clear hb
    clear c1 c2 c3 c4
    have HB := Lib.hid HH.out.2.2.2.2.2.out.2
    obtain ⟨c0, c1, f0, f1, l0⟩ := told2 HH.out.2.2.2.2.2.out.1
    clear HH
    go_wp2_with fail
    exact bodyPost_ret (v := cnV 0 0) (by simp [results, Try.results18, go_sem, c0, c1]) rfl ⟨rfl, lbelow_set2 HB.out (by omega) _ _⟩
  · cases h2 : Fl.rightB c d
    · simp only [Bool.and_false, Bool.false_and, Bool.false_eq_true, if_false]
      go_enter Try.func18, Try.ntmps18
      go_wp2_with fail
      refine (sRight_any _ _ _).mono ?_
      rintro e w1 ⟨rfl, hb⟩
      rw [h1]
      have hs := cm_later (hb.mono (by simp))
      have HH := Lib.hid hs
      obtain ⟨c1, c2, c3, c4, hz, _⟩ := hs
      clear hb
      go_wp2_with fail
      clear c1 c2 c3 c4 hz
      refine (sRight_any _ _ _).mono ?_
      rintro e w2 ⟨rfl, hb⟩
      rw [h2]
      have hs := cm_keep hb HH.out
      replace HH := Lib.hid hs
      obtain ⟨c1, c2, c3, c4, hz, _⟩ := hs
      clear hb
      clear c1 c2 c3 c4
      have HB := Lib.hid HH.out.2.2.2.2.2.out.2
      obtain ⟨c0, c1, f0, f1, l0⟩ := told2 HH.out.2.2.2.2.2.out.1
      clear HH
      go_wp2_with fail
      exact bodyPost_ret (v := cnV 0 0) (by simp [results, Try.results18, go_sem, c0, c1]) rfl ⟨rfl, lbelow_set2 HB.out (by omega) _ _⟩
    · simp only [Bool.true_and]
      have HDV := fun wx => sDivW_any a b c d wx (Fl.rightB_iff h1).1 (Fl.rightB_iff h1).2 (Fl.rightB_iff h2).1 (Fl.rightB_iff h2).2
      generalize (if Fl.posB c d = true then Fl.divW (Fl.dRe a b c d) (Fl.szW c d) else 0) = X at HDV ⊢
      generalize (if Fl.posB c d = true then Fl.divW (Fl.dIm a b c d) (Fl.szW c d) else 0) = Y at HDV ⊢
      have HDV' := Lib.hid HDV
      clear HDV
      go_enter Try.func18, Try.ntmps18
      go_wp2_with fail
      refine (sRight_any _ _ _).mono ?_
      rintro e w1 ⟨rfl, hb⟩
      rw [h1]
      have hs := cm_later (hb.mono (by simp))
      have HH := Lib.hid hs
      obtain ⟨c1, c2, c3, c4, hz, _⟩ := hs
      clear hb
      go_wp2_with fail
      clear c1 c2 c3 c4 hz
      refine (sRight_any _ _ _).mono ?_
      rintro e w2 ⟨rfl, hb⟩
      rw [h2]
      have hs := cm_keep hb HH.out
      replace HH := Lib.hid hs
      obtain ⟨c1, c2, c3, c4, hz, _⟩ := hs
      clear hb
      go_wp2_with fail
      clear c1 c2 c3 c4 hz
      refine (HDV'.out _).mono ?_
      rintro e w3 ⟨rfl, hb⟩
      have hs := cm_keep hb HH.out
      replace HH := Lib.hid hs
      obtain ⟨c1, c2, c3, c4, hz, _⟩ := hs
      clear hb
      clear c1 c2 c3 c4
      have HB := Lib.hid HH.out.2.2.2.2.2.out.2
      obtain ⟨c0, c1, f0, f1, l0⟩ := told2 HH.out.2.2.2.2.2.out.1
      clear HH
      go_wp2_with fail
      exact bodyPost_ret (v := cnV X Y) (by simp [results, Try.results18, go_sem, c0, c1]) rfl ⟨rfl, lbelow_set2 HB.out (by omega) _ _⟩
set_option maxHeartbeats 1000000 in
theorem toCnum_any (a b : Nat) (w : World) :
    Calls Try.prog 19 #[cnV a b] w fun e w' => e = .returned (cnV a b) ∧ Below w.heap.size w w' := by
  go_enter Try.func19, Try.ntmps19
  go_wp2
  exact bodyPost_ret (v := cnV a b) (by simp [results, Try.results19, go_sem]) rfl ⟨rfl, (((bel_alloc _ _).alloc (by simp) _).alloc (by simp; omega) _)⟩
set_option maxHeartbeats 1000000 in
theorem eqCnum_same (a b : Nat) (w : World) :
    Calls Try.prog 16 #[cnV a b, cnV a b] w fun e w' => e = .returned (.bool true) ∧ Below w.heap.size w w' := by
  go_enter Try.func16, Try.ntmps16
  go_wp2_with (first | (go_at_call 11; refine (same_any _ _).mono ?_; rintro e w' ⟨rfl, rfl⟩))
  go_ret
  exact ⟨rfl, ((bel_alloc _ _).alloc (by simp) _)⟩
end Go.Proofs.Ythcgffnkpeiddaa
