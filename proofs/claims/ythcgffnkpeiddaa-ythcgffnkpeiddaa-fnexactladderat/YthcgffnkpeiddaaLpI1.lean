/-
  The program's Cnums: parts, conjugates, sizes, products and quotients.
-/
import Derived.Test.YthcgffnkpeiddaaLpFn
import Derived.Test.YthcgffnkpeiddaaLpMem
import Derived.Test.YthcgffnkpeiddaaKeep
namespace Go.Proofs.Ythcgffnkpeiddaa
open Go.RowKit Go.Deep

attribute [local go_sem] lrun_store_float lrun_store_complex

theorem neg_run (x : Nat) (w : World) : (Op.unary .neg (.float .f64 x)).run Try.prog w = .ok (.float .f64 (Fl.ng x)) w := rfl

set_option maxHeartbeats 400000 in
theorem inside_any (a b : Nat) (w : World) :
    Calls Try.prog 36 #[cnV a b] w fun e w' => e = .returned (.complex .f64 a b) ∧ Below w.heap.size w w' := by
  go_enter Try.func36, Try.ntmps36
  go_wp2
  go_ret
  exact ⟨rfl, bel_alloc _ _⟩

set_option maxHeartbeats 400000 in
theorem tell_any (a b : Nat) (w : World) :
    Calls Try.prog 33 #[.complex .f64 a b] w fun e w' => e = .returned (cnV a b) ∧ Below w.heap.size w w' := by
  go_enter Try.func33, Try.ntmps33
  go_wp2
  exact bodyPost_ret (v := cnV a b) (by simp [results, Try.results33, go_sem]) rfl ⟨rfl, bel_alloc _ _⟩

set_option maxHeartbeats 400000 in
theorem cright_any (a b : Nat) (w : World) :
    Calls Try.prog 37 #[.complex .f64 a b] w fun e w' => e = .returned (.bool (Fl.rightB a b)) ∧ w' = w := by
  unfold Fl.rightB
  cases h : Fl.measB a
  · go_enter Try.func37, Try.ntmps37
    go_wp2_with (go_at_call 27; refine (implMeas_any _ _).mono ?_; rintro e w' ⟨rfl, rfl⟩)
    go_ret
    exact ⟨rfl, rfl⟩
  · go_enter Try.func37, Try.ntmps37
    go_wp2_with (go_at_call 27; refine (implMeas_any _ _).mono ?_; rintro e w' ⟨rfl, rfl⟩)
    go_ret
    exact ⟨rfl, rfl⟩

set_option maxHeartbeats 400000 in
theorem conj_any (a b : Nat) (w : World) :
    Calls Try.prog 42 #[.complex .f64 a b] w fun e w' => e = .returned (.complex .f64 a (Fl.ng b)) ∧ w' = w := by
  have hn := neg_run b
  go_enter Try.func42, Try.ntmps42
  go_wp2
  go_ret
  exact ⟨rfl, rfl⟩
set_option maxHeartbeats 400000 in
theorem sizeOf_any (a b : Nat) (w : World) (ha : Fl.Bd 29 a) (hb : Fl.Bd 29 b) :
    Calls Try.prog 39 #[.complex .f64 a b] w fun e w' => e = .returned (.complex .f64 (Fl.szW a b) 0) ∧ w' = w := by
  have hq := fun (wx : World) => run_complex_mul (P := Try.prog) (w := wx) 56 a b a (Fl.ng b) _ _ (Fl.size_bits ha hb).1
  clear ha hb
  go_enter Try.func39, Try.ntmps39
  go_wp2_with (go_at_call 42; refine (conj_any _ _ _).mono ?_; rintro e w' ⟨rfl, rfl⟩)
  go_ret
  exact ⟨rfl, rfl⟩
set_option maxHeartbeats 1000000 in
theorem quot_any (a b c d : Nat) (w : World) (h1 : Fl.rightB a b = true) (h2 : Fl.rightB c d = true) :
    Calls Try.prog 32 #[.complex .f64 a b, .complex .f64 c d] w fun e w' => e = .returned (.complex .f64 (Fl.divRe a b c d) (Fl.divIm a b c d)) ∧ w' = w := by
  unfold Fl.divRe Fl.divIm Fl.posB
  rw [h1, h2]
  have HC := Lib.hid (Fl.rightB_iff h2)
  have z0 := Fl.zz_order
  rcases Fl.sz_order HC.out.1 HC.out.2 with ⟨ho, hm⟩ | ho
  · have hp : ((true && true) && (FloatKind.f64.format.order (Fl.szW c d) 0 == some .gt)) = true := by rw [ho]; rfl
    rw [if_pos hp, if_pos hp]
    have hbd := Fl.cdiv_bd (Fl.rightB_iff h1).1 (Fl.rightB_iff h1).2 HC.out.1 HC.out.2
    have hq := fun (wx : World) => run_complex_mul (P := Try.prog) (w := wx) 56 a b c (Fl.ng d) _ _ hbd.bits
    have hd1 := fun (wx : World) => run_float_arith (P := Try.prog) (w := wx) .quo 22 .f64 (Fl.dRe a b c d) (Fl.szW c d) _ (Fl.divW_some hbd.bre hm)
    have hd2 := fun (wx : World) => run_float_arith (P := Try.prog) (w := wx) .quo 22 .f64 (Fl.dIm a b c d) (Fl.szW c d) _ (Fl.divW_some hbd.bim hm)
    obtain ⟨sg, mg, eg, rg, _⟩ := hm
    have os := Fl.ord_self rg
    clear hp hbd rg
    go_enter Try.func32, Try.ntmps32
    go_wp2_with (first | (go_at_call 39; refine (sizeOf_any _ _ _ HC.out.1 HC.out.2).mono ?_; rintro e w' ⟨rfl, rfl⟩) | (go_at_call 42; refine (conj_any _ _ _).mono ?_; rintro e w' ⟨rfl, rfl⟩))
    go_ret
    exact ⟨rfl, rfl⟩
  · have hp : ¬ (((true && true) && (FloatKind.f64.format.order (Fl.szW c d) 0 == some .gt)) = true) := by rw [ho]; decide
    rw [if_neg hp, if_neg hp]
    clear hp
    go_enter Try.func32, Try.ntmps32
    go_wp2_with (first | (go_at_call 39; refine (sizeOf_any _ _ _ HC.out.1 HC.out.2).mono ?_; rintro e w' ⟨rfl, rfl⟩))
    go_ret
    exact ⟨rfl, rfl⟩
set_option maxHeartbeats 400000 in
theorem implSize_any (a b : Nat) (w : World) :
    Calls Try.prog 22 #[cnV a b] w fun e w' => e = .returned (.float .f64 (Fl.sizeA a b)) ∧ Below w.heap.size w w' := by
  unfold Fl.sizeA
  cases h : Fl.rightB a b
  · go_enter Try.func22, Try.ntmps22
    go_wp2_with fail
    refine (inside_any _ _ _).mono ?_
    rintro e w1 ⟨rfl, hb⟩
    have HB : Hid (Below w.heap.size w w1) := (bel_alloc _ _).trans (hb.mono (by simp))
    clear hb
    go_wp2_with (go_at_call 37; refine (cright_any _ _ _).mono ?_; rintro e w' ⟨rfl, rfl⟩)
    go_ret
    exact ⟨rfl, HB.out⟩
  · have hb2 := Lib.hid (Fl.rightB_iff h)
    go_enter Try.func22, Try.ntmps22
    go_wp2_with fail
    refine (inside_any _ _ _).mono ?_
    rintro e w1 ⟨rfl, hb⟩
    have HB : Hid (Below w.heap.size w w1) := (bel_alloc _ _).trans (hb.mono (by simp))
    clear hb
    go_wp2_with (first | (go_at_call 37; refine (cright_any _ _ _).mono ?_; rintro e w' ⟨rfl, rfl⟩) | (go_at_call 39; refine (sizeOf_any _ _ _ hb2.out.1 hb2.out.2).mono ?_; rintro e w' ⟨rfl, rfl⟩))
    go_ret
    exact ⟨rfl, HB.out⟩
set_option maxHeartbeats 1000000 in
theorem implMul_any (a b c d : Nat) (w : World) :
    Calls Try.prog 24 #[cnV a b, cnV c d] w fun e w' => e = .returned (cnV (Fl.mulRe a b c d) (Fl.mulIm a b c d)) ∧ Below w.heap.size w w' := by
  unfold Fl.mulRe Fl.mulIm
  cases h1 : Fl.rightB a b
  · simp only [Bool.false_and, Bool.false_eq_true, if_false]
    go_enter Try.func24, Try.ntmps24
    go_wp2_with fail
    go_region_held3 (fun w' => w'.cell? ⟨w.heap.size, 0, none⟩ = some (.float .f64 a) ∧ w'.cell? ⟨w.heap.size, 1, none⟩ = some (.float .f64 b) ∧ w'.cell? ⟨w.heap.size + 1, 0, none⟩ = some (.float .f64 c) ∧ w'.cell? ⟨w.heap.size + 1, 1, none⟩ = some (.float .f64 d) ∧ w.heap.size + 1 < w'.heap.size ∧ Hid (w'.rowIs (w.heap.size + 2) 33 2 (rowL (cnL 0 0)) ∧ Below w.heap.size w w')) (first | exact cm_later (Below.refl _ _).drew | exact cm_keep (Below.refl _ _).drew (by assumption) | exact cm_keep (by assumption) (by assumption)) (first | (go_at_call 36; refine (inside_any _ _ _).mono ?_; rintro e w' ⟨rfl, hb⟩))
    rename_i hh
    have HH := Lib.hid hh
    have HB := Lib.hid hh.2.2.2.2.2.out.2
    obtain ⟨c0, c1, f0, f1, l0⟩ := told2 hh.2.2.2.2.2.out.1
    clear hh
    clear HH
    go_wp2_with (first | (go_at_call 37; refine (cright_any _ _ _).mono ?_; rintro e w' ⟨rfl, rfl⟩))
    exact bodyPost_ret (v := cnV 0 0) (by simp [results, Try.results24, go_sem, c0, c1]) rfl ⟨rfl, lbelow_set2 HB.out (by omega) _ _⟩
  · cases h2 : Fl.rightB c d
    · simp only [Bool.and_false, Bool.false_eq_true, if_false]
      go_enter Try.func24, Try.ntmps24
      go_wp2_with fail
      go_region_held3 (fun w' => w'.cell? ⟨w.heap.size, 0, none⟩ = some (.float .f64 a) ∧ w'.cell? ⟨w.heap.size, 1, none⟩ = some (.float .f64 b) ∧ w'.cell? ⟨w.heap.size + 1, 0, none⟩ = some (.float .f64 c) ∧ w'.cell? ⟨w.heap.size + 1, 1, none⟩ = some (.float .f64 d) ∧ w.heap.size + 1 < w'.heap.size ∧ Hid (w'.rowIs (w.heap.size + 2) 33 2 (rowL (cnL 0 0)) ∧ Below w.heap.size w w')) (first | exact cm_later (Below.refl _ _).drew | exact cm_keep (Below.refl _ _).drew (by assumption) | exact cm_keep (by assumption) (by assumption)) (first | (go_at_call 36; refine (inside_any _ _ _).mono ?_; rintro e w' ⟨rfl, hb⟩))
      rename_i hh
      have HH := Lib.hid hh
      have HB := Lib.hid hh.2.2.2.2.2.out.2
      obtain ⟨c0, c1, f0, f1, l0⟩ := told2 hh.2.2.2.2.2.out.1
      clear hh
      clear HH
      go_wp2_with (first | (go_at_call 37; refine (cright_any _ _ _).mono ?_; rintro e w' ⟨rfl, rfl⟩))
      exact bodyPost_ret (v := cnV 0 0) (by simp [results, Try.results24, go_sem, c0, c1]) rfl ⟨rfl, lbelow_set2 HB.out (by omega) _ _⟩
    · simp only [Bool.and_self, if_true]
      have hq := fun (wx : World) => run_complex_mul (P := Try.prog) (w := wx) 56 a b c d _ _ (Fl.cmul_bd (p := 29) (q := 29) (Fl.rightB_iff h1).1 (Fl.rightB_iff h1).2 (Fl.rightB_iff h2).1 (Fl.rightB_iff h2).2 (by omega) (by omega)).bits
      go_enter Try.func24, Try.ntmps24
      go_wp2_with fail
      go_region_held3 (fun w' => w'.cell? ⟨w.heap.size, 0, none⟩ = some (.float .f64 a) ∧ w'.cell? ⟨w.heap.size, 1, none⟩ = some (.float .f64 b) ∧ w'.cell? ⟨w.heap.size + 1, 0, none⟩ = some (.float .f64 c) ∧ w'.cell? ⟨w.heap.size + 1, 1, none⟩ = some (.float .f64 d) ∧ w.heap.size + 1 < w'.heap.size ∧ Hid (w'.rowIs (w.heap.size + 2) 33 2 (rowL (cnL 0 0)) ∧ Below w.heap.size w w')) (first | exact cm_later (Below.refl _ _).drew | exact cm_keep (Below.refl _ _).drew (by assumption) | exact cm_keep (by assumption) (by assumption)) (first | (go_at_call 36; refine (inside_any _ _ _).mono ?_; rintro e w' ⟨rfl, hb⟩))
      rename_i hh
      have HH := Lib.hid hh
      clear hh
      go_wp2_with (first | (go_at_call 37; refine (cright_any _ _ _).mono ?_; rintro e w' ⟨rfl, rfl⟩))
      refine (tell_any _ _ _).mono ?_
      rintro e w2 ⟨rfl, hb⟩
      have HR := Lib.hid (cm_keep hb HH.out)
      have HB := Lib.hid HR.out.2.2.2.2.2.out.2
      obtain ⟨c0, c1, f0, f1, l0⟩ := told2 HR.out.2.2.2.2.2.out.1
      clear hb HR HH
      go_wp2_with fail
      exact bodyPost_ret (v := cnV (Fl.cRe a b c d) (Fl.cIm a b c d)) (by simp [results, Try.results24, go_sem, c0, c1]) rfl ⟨rfl, lbelow_set2 HB.out (by omega) _ _⟩
set_option maxHeartbeats 1000000 in
theorem implDiv_any (a b c d : Nat) (w : World) :
    Calls Try.prog 20 #[cnV a b, cnV c d] w fun e w' => e = .returned (cnV (Fl.divRe a b c d) (Fl.divIm a b c d)) ∧ Below w.heap.size w w' := by
  unfold Fl.divRe Fl.divIm Fl.posB
  cases h1 : Fl.rightB a b
  · simp only [Bool.false_and, Bool.false_eq_true, if_false]
    go_enter Try.func20, Try.ntmps20
    go_wp2_with fail
    go_region_held3 (fun w' => w'.cell? ⟨w.heap.size, 0, none⟩ = some (.float .f64 a) ∧ w'.cell? ⟨w.heap.size, 1, none⟩ = some (.float .f64 b) ∧ w'.cell? ⟨w.heap.size + 1, 0, none⟩ = some (.float .f64 c) ∧ w'.cell? ⟨w.heap.size + 1, 1, none⟩ = some (.float .f64 d) ∧ w.heap.size + 1 < w'.heap.size ∧ Hid (w'.rowIs (w.heap.size + 2) 33 2 (rowL (cnL 0 0)) ∧ Below w.heap.size w w')) (first | exact cm_later (Below.refl _ _).drew | exact cm_keep (Below.refl _ _).drew (by assumption) | exact cm_keep (by assumption) (by assumption)) (first | (go_at_call 36; refine (inside_any _ _ _).mono ?_; rintro e w' ⟨rfl, hb⟩))
    rename_i hh
    have HH := Lib.hid hh
    have HB := Lib.hid hh.2.2.2.2.2.out.2
    obtain ⟨c0, c1, f0, f1, l0⟩ := told2 hh.2.2.2.2.2.out.1
    clear hh
    clear HH
    go_wp2_with (first | (go_at_call 37; refine (cright_any _ _ _).mono ?_; rintro e w' ⟨rfl, rfl⟩))
    exact bodyPost_ret (v := cnV 0 0) (by simp [results, Try.results20, go_sem, c0, c1]) rfl ⟨rfl, lbelow_set2 HB.out (by omega) _ _⟩
  · cases h2 : Fl.rightB c d
    · simp only [Bool.and_false, Bool.false_and, Bool.false_eq_true, if_false]
      go_enter Try.func20, Try.ntmps20
      go_wp2_with fail
      go_region_held3 (fun w' => w'.cell? ⟨w.heap.size, 0, none⟩ = some (.float .f64 a) ∧ w'.cell? ⟨w.heap.size, 1, none⟩ = some (.float .f64 b) ∧ w'.cell? ⟨w.heap.size + 1, 0, none⟩ = some (.float .f64 c) ∧ w'.cell? ⟨w.heap.size + 1, 1, none⟩ = some (.float .f64 d) ∧ w.heap.size + 1 < w'.heap.size ∧ Hid (w'.rowIs (w.heap.size + 2) 33 2 (rowL (cnL 0 0)) ∧ Below w.heap.size w w')) (first | exact cm_later (Below.refl _ _).drew | exact cm_keep (Below.refl _ _).drew (by assumption) | exact cm_keep (by assumption) (by assumption)) (first | (go_at_call 36; refine (inside_any _ _ _).mono ?_; rintro e w' ⟨rfl, hb⟩))
      rename_i hh
      have HH := Lib.hid hh
      have HB := Lib.hid hh.2.2.2.2.2.out.2
      obtain ⟨c0, c1, f0, f1, l0⟩ := told2 hh.2.2.2.2.2.out.1
      clear hh
      clear HH
      go_wp2_with (first | (go_at_call 37; refine (cright_any _ _ _).mono ?_; rintro e w' ⟨rfl, rfl⟩))
      exact bodyPost_ret (v := cnV 0 0) (by simp [results, Try.results20, go_sem, c0, c1]) rfl ⟨rfl, lbelow_set2 HB.out (by omega) _ _⟩
    · have HQ := fun wx => quot_any a b c d wx h1 h2
      unfold Fl.divRe Fl.divIm Fl.posB at HQ
      rw [h1, h2] at HQ
      generalize (if (true && true) && (FloatKind.f64.format.order (Fl.szW c d) 0 == some .gt) then Fl.divW (Fl.dRe a b c d) (Fl.szW c d) else 0) = X at HQ ⊢
      generalize (if (true && true) && (FloatKind.f64.format.order (Fl.szW c d) 0 == some .gt) then Fl.divW (Fl.dIm a b c d) (Fl.szW c d) else 0) = Y at HQ ⊢
      have HDV := Lib.hid HQ
      clear HQ
      go_enter Try.func20, Try.ntmps20
      go_wp2_with fail
      go_region_held3 (fun w' => w'.cell? ⟨w.heap.size, 0, none⟩ = some (.float .f64 a) ∧ w'.cell? ⟨w.heap.size, 1, none⟩ = some (.float .f64 b) ∧ w'.cell? ⟨w.heap.size + 1, 0, none⟩ = some (.float .f64 c) ∧ w'.cell? ⟨w.heap.size + 1, 1, none⟩ = some (.float .f64 d) ∧ w.heap.size + 1 < w'.heap.size ∧ Hid (w'.rowIs (w.heap.size + 2) 33 2 (rowL (cnL 0 0)) ∧ Below w.heap.size w w')) (first | exact cm_later (Below.refl _ _).drew | exact cm_keep (Below.refl _ _).drew (by assumption) | exact cm_keep (by assumption) (by assumption)) (first | (go_at_call 36; refine (inside_any _ _ _).mono ?_; rintro e w' ⟨rfl, hb⟩))
      rename_i hh
      have HH := Lib.hid hh
      clear hh
      go_wp2_with (first | (go_at_call 37; refine (cright_any _ _ _).mono ?_; rintro e w' ⟨rfl, rfl⟩) | (go_at_call 32; refine (HDV.out _).mono ?_; rintro e w' ⟨rfl, rfl⟩))
      refine (tell_any _ _ _).mono ?_
      rintro e w2 ⟨rfl, hb⟩
      have HR := Lib.hid (cm_keep hb HH.out)
      have HB := Lib.hid HR.out.2.2.2.2.2.out.2
      obtain ⟨c0, c1, f0, f1, l0⟩ := told2 HR.out.2.2.2.2.2.out.1
      clear hb HR HH
      go_wp2_with fail
      exact bodyPost_ret (v := cnV X Y) (by simp [results, Try.results20, go_sem, c0, c1]) rfl ⟨rfl, lbelow_set2 HB.out (by omega) _ _⟩
end Go.Proofs.Ythcgffnkpeiddaa
