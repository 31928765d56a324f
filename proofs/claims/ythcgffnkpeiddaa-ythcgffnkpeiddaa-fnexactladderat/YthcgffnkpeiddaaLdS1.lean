/-
  The model's sizes and quotients of whatever Cnums come up in a ladder.
-/
import Derived.Test.YthcgffnkpeiddaaLdMath
import Derived.Test.YthcgffnkpeiddaaLpS1
namespace Go.Proofs.Ythcgffnkpeiddaa
open Go.RowKit Go.Deep

attribute [local go_sem] lrun_store_float lrun_store_complex
set_option maxHeartbeats 400000 in
theorem sSizeBig_any (p q : Nat) (w : World) (C : Fl.CInv p q) :
    Calls Try.prog 38 #[cnV p q] w fun e w' => e = .returned (.float .f64 (Fl.szW p q)) ∧ Below w.heap.size w w' := by
  have q1 := fun (wx : World) => run_float_arith (P := Try.prog) (w := wx) .mul 22 .f64 p p _ C.pp
  have q2 := fun (wx : World) => run_float_arith (P := Try.prog) (w := wx) .mul 22 .f64 q q _ C.qq
  have q3 := fun (wx : World) => run_float_arith (P := Try.prog) (w := wx) .add 22 .f64 (Fl.mulW p p) (Fl.mulW q q) _ C.sz
  clear C
  go_enter Try.func38, Try.ntmps38
  go_wp2
  go_ret
  exact ⟨rfl, bel_alloc _ _⟩
set_option maxHeartbeats 1000000 in
theorem sDivOne_any (p q : Nat) (w : World) (hp : Fl.Bd 545 p) (hq : Fl.Bd 545 q) :
    Calls Try.prog 28 #[cnV 4607182418800017408 0, cnV p q] w fun e w' => e = .returned (cnV (Fl.qRe p q) (Fl.qIm p q)) ∧ Below w.heap.size w w' := by
  unfold Fl.qRe Fl.qIm Fl.posB
  have C := Fl.cinv_bd hp hq
  have HC := Lib.hid C
  rcases Fl.order_zero C.nn with ⟨ho, hm⟩ | ho
  · have hp1 : (FloatKind.f64.format.order (Fl.szW p q) 0 == some .gt) = true := by rw [ho]; rfl
    rw [if_pos hp1, if_pos hp1]
    have q1 := fun (wx : World) => run_float_arith (P := Try.prog) (w := wx) .mul 22 .f64 4607182418800017408 p _ C.a1
    have q2 := fun (wx : World) => run_float_arith (P := Try.prog) (w := wx) .mul 22 .f64 0 q _ C.a2
    have q3 := fun (wx : World) => run_float_arith (P := Try.prog) (w := wx) .mul 22 .f64 4607182418800017408 q _ C.a3
    have q4 := fun (wx : World) => run_float_arith (P := Try.prog) (w := wx) .mul 22 .f64 0 p _ C.a4
    have q5 := fun (wx : World) => run_float_arith (P := Try.prog) (w := wx) .add 22 .f64 (Fl.mulW Fl.one p) (Fl.mulW 0 q) _ C.re
    have q6 := fun (wx : World) => run_float_arith (P := Try.prog) (w := wx) .sub 22 .f64 (Fl.mulW 0 p) (Fl.mulW Fl.one q) _ C.im
    have q7 := fun (wx : World) => run_float_arith (P := Try.prog) (w := wx) .quo 22 .f64 (Fl.dRe Fl.one 0 p q) (Fl.szW p q) _ (Fl.inv_re hp hq hm).1
    have q8 := fun (wx : World) => run_float_arith (P := Try.prog) (w := wx) .quo 22 .f64 (Fl.dIm Fl.one 0 p q) (Fl.szW p q) _ (Fl.inv_im hp hq hm).1
    clear hp1 C hm hp hq
    go_enter Try.func28, Try.ntmps28
    go_wp2_with fail
    refine (sSizeBig_any _ _ _ HC.out).mono ?_
    rintro e w1 ⟨rfl, hb⟩
    have hs := cm_later (hb.mono (by simp))
    have HH := Lib.hid hs
    have HB := Lib.hid hs.2.2.2.2.2.out.2
    obtain ⟨d0, d1, f0, f1, l0⟩ := told2 hs.2.2.2.2.2.out.1
    obtain ⟨c1, c2, c3, c4, hz, _⟩ := hs
    clear hb HH
    go_wp2_with fail
    exact bodyPost_ret (v := cnV (Fl.divW (Fl.dRe Fl.one 0 p q) (Fl.szW p q)) (Fl.divW (Fl.dIm Fl.one 0 p q) (Fl.szW p q))) (by simp [results, Try.results28, go_sem, d0, d1]) rfl ⟨rfl, lbelow_set2 HB.out (by omega) _ _⟩
  · have hp1 : ¬ ((FloatKind.f64.format.order (Fl.szW p q) 0 == some .gt) = true) := by rw [ho]; decide
    rw [if_neg hp1, if_neg hp1]
    clear hp1 C hp hq
    go_enter Try.func28, Try.ntmps28
    go_wp2_with fail
    refine (sSizeBig_any _ _ _ HC.out).mono ?_
    rintro e w1 ⟨rfl, hb⟩
    have hs := cm_later (hb.mono (by simp))
    have HH := Lib.hid hs
    have HB := Lib.hid hs.2.2.2.2.2.out.2
    obtain ⟨d0, d1, f0, f1, l0⟩ := told2 hs.2.2.2.2.2.out.1
    obtain ⟨c1, c2, c3, c4, hz, _⟩ := hs
    clear hb HH
    clear c1 c2 c3 c4
    go_wp2_with fail
    exact bodyPost_ret (v := cnV 0 0) (by simp [results, Try.results28, go_sem, d0, d1]) rfl ⟨rfl, lbelow_set2 HB.out (by omega) _ _⟩
end Go.Proofs.Ythcgffnkpeiddaa
