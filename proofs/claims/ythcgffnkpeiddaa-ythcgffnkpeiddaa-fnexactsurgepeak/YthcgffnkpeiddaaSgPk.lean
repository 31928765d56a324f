/-
  SurgePeak: both walks and the exact law.
-/
import Derived.Test.YthcgffnkpeiddaaLpFn
import Derived.Test.YthcgffnkpeiddaaLpMem
import Derived.Test.YthcgffnkpeiddaaKeep
import Derived.Test.YthcgffnkpeiddaaSgIn
namespace Go.Proofs.Ythcgffnkpeiddaa
open Go.RowKit Go.Deep

attribute [local go_sem] lrun_store_float lrun_store_complex
def peakA (a x : Nat) : Nat := if Fl.rightB a x then Fl.mulW a x else 0
set_option maxHeartbeats 400000 in
theorem toLine_any (s : Int) (a b c d : Nat) (w : World) :
    Calls Try.prog 9 #[lnV s a b c d] w fun e w' => e = .returned (lnV s a b c d) ∧ Below w.heap.size w w' := by
  go_enter Try.func9, Try.ntmps9
  go_wp2
  exact bodyPost_ret (v := lnV s a b c d) (by simp [results, Try.results9, go_sem]) rfl ⟨rfl, (((bel_alloc _ _).alloc (by simp) _).alloc (by simp; omega) _)⟩
set_option maxHeartbeats 400000 in
theorem iPeak_any (s : Int) (a b c d x : Nat) (w : World) :
    Calls Try.prog 10 #[lnV s a b c d, .float .f64 x] w fun e w' => e = .returned (.float .f64 (peakA a x)) ∧ Below w.heap.size w w' := by
  unfold peakA
  cases h : Fl.rightB a x
  · rw [if_neg (by decide)]
    unfold Fl.rightB at h
    cases h1 : Fl.measB a
    · go_enter Try.func10, Try.ntmps10
      go_wp2_with (go_at_call 27; refine (implMeas_any _ _).mono ?_; rintro e w' ⟨rfl, rfl⟩)
      go_ret
      exact ⟨rfl, bel_alloc _ _⟩
    · have h2 : Fl.measB x = false := by rw [h1] at h; simpa using h
      go_enter Try.func10, Try.ntmps10
      go_wp2_with (go_at_call 27; refine (implMeas_any _ _).mono ?_; rintro e w' ⟨rfl, rfl⟩)
      go_ret
      exact ⟨rfl, bel_alloc _ _⟩
  · rw [if_pos rfl]
    have hb := Fl.rightB_iff h
    have h1 : Fl.measB a = true := (Bool.and_eq_true_iff.1 h).1
    have h2 : Fl.measB x = true := (Bool.and_eq_true_iff.1 h).2
    have hq := fun (wx : World) => run_float_arith (P := Try.prog) (w := wx) .mul 22 .f64 a x _ (Fl.mulW_bd hb.1 hb.2 (by omega) (by omega)).1
    clear h hb
    go_enter Try.func10, Try.ntmps10
    go_wp2_with (go_at_call 27; refine (implMeas_any _ _).mono ?_; rintro e w' ⟨rfl, rfl⟩)
    go_ret
    exact ⟨rfl, bel_alloc _ _⟩
set_option maxHeartbeats 400000 in
theorem sPeak_any (s : Int) (a b c d x : Nat) (w : World) :
    Calls Try.prog 8 #[lnV s a b c d, .float .f64 x] w fun e w' => e = .returned (.float .f64 (peakA a x)) ∧ Below w.heap.size w w' := by
  unfold peakA
  cases h : Fl.rightB a x
  · rw [if_neg (by decide)]
    unfold Fl.rightB at h
    cases h1 : Fl.measB a
    · go_enter Try.func8, Try.ntmps8
      go_wp2_with (go_at_call 26; refine (specMeas_any _ _).mono ?_; rintro e w' ⟨rfl, rfl⟩)
      go_ret
      exact ⟨rfl, bel_alloc _ _⟩
    · have h2 : Fl.measB x = false := by rw [h1] at h; simpa using h
      go_enter Try.func8, Try.ntmps8
      go_wp2_with (go_at_call 26; refine (specMeas_any _ _).mono ?_; rintro e w' ⟨rfl, rfl⟩)
      go_ret
      exact ⟨rfl, bel_alloc _ _⟩
  · rw [if_pos rfl]
    have hb := Fl.rightB_iff h
    have h1 : Fl.measB a = true := (Bool.and_eq_true_iff.1 h).1
    have h2 : Fl.measB x = true := (Bool.and_eq_true_iff.1 h).2
    have hq := fun (wx : World) => run_float_arith (P := Try.prog) (w := wx) .mul 22 .f64 a x _ (Fl.mulW_bd hb.1 hb.2 (by omega) (by omega)).1
    clear h hb
    go_enter Try.func8, Try.ntmps8
    go_wp2_with (go_at_call 26; refine (specMeas_any _ _).mono ?_; rintro e w' ⟨rfl, rfl⟩)
    go_ret
    exact ⟨rfl, bel_alloc _ _⟩
set_option maxHeartbeats 400000 in
theorem surgePeak_law (w : World) (s : Int) (a b c d x : Nat) (_ : x < 18446744073709551616) :
    Calls Try.prog 3 #[lnV s a b c d, .float .f64 x] w fun e w' => e = .returned (.bool true) ∧ Below w.heap.size w w' := by
  obtain ⟨W0, hW0⟩ : ∃ W0, W0 = w.alloc (.cells #[.int .i64 s, .float .f64 a, .float .f64 b, .float .f64 c, .float .f64 d] 24) := ⟨_, rfl⟩
  have B0 : Hid (Below w.heap.size w W0 ∧ W0.rowIs w.heap.size 24 5 (rowL (lnL s a b c d))) := by
    show _ ∧ _
    rw [hW0]
    exact ⟨bel_alloc _ _, rowL_alloc w (lnL s a b c d) _⟩
  have HW0 := Lib.hid hW0
  clear hW0
  have CE : Hid (∀ {W : World}, W.rowIs w.heap.size 24 5 (rowL (lnL s a b c d)) → W.cell? ⟨w.heap.size, 0, none⟩ = some (.int .i64 s) ∧ W.cell? ⟨w.heap.size, 1, none⟩ = some (.float .f64 a) ∧ W.cell? ⟨w.heap.size, 2, none⟩ = some (.float .f64 b) ∧ W.cell? ⟨w.heap.size, 3, none⟩ = some (.float .f64 c) ∧ W.cell? ⟨w.heap.size, 4, none⟩ = some (.float .f64 d)) := fun h => ⟨h.cell (i := 0) (by omega), h.cell (i := 1) (by omega), h.cell (i := 2) (by omega), h.cell (i := 3) (by omega), h.cell (i := 4) (by omega)⟩
  obtain ⟨c0, c1, c2, c3, c4⟩ := CE.out B0.out.2
  go_enter Try.func3, Try.ntmps3
  go_wp2_with fail
  rw [← HW0.out]
  clear c0 c1 c2 c3 c4
  refine (toLine_any _ _ _ _ _ _).mono ?_
  rintro e w1 ⟨rfl, hb⟩
  have B1 : Hid (Below w.heap.size w w1 ∧ w1.rowIs w.heap.size 24 5 (rowL (lnL s a b c d))) := ⟨B0.out.1.trans (hb.mono B0.out.1.size), wrow_below B0.out.2 hb⟩
  clear hb
  go_wp2_with fail
  refine (sPeak_any _ _ _ _ _ _ _).mono ?_
  rintro e w2 ⟨rfl, hb⟩
  have B2 : Hid (Below w.heap.size w w2 ∧ w2.rowIs w.heap.size 24 5 (rowL (lnL s a b c d))) := ⟨B1.out.1.trans (hb.mono B1.out.1.size), wrow_below B1.out.2 hb⟩
  clear hb
  obtain ⟨c0, c1, c2, c3, c4⟩ := CE.out B2.out.2
  go_wp2_with fail
  clear c0 c1 c2 c3 c4
  refine (toLine_any _ _ _ _ _ _).mono ?_
  rintro e w3 ⟨rfl, hb⟩
  have B3 : Hid (Below w.heap.size w w3) := B2.out.1.trans (hb.mono B2.out.1.size)
  clear hb
  go_wp2_with fail
  refine (iPeak_any _ _ _ _ _ _ _).mono ?_
  rintro e w4 ⟨rfl, hb⟩
  have B4 : Hid (Below w.heap.size w w4) := B3.out.trans (hb.mono B3.out.size)
  clear hb
  go_wp2_with (go_at_call 11; refine (same_any _ _).mono ?_; rintro e w' ⟨rfl, rfl⟩)
  go_ret
  exact ⟨rfl, B4.out⟩
end Go.Proofs.Ythcgffnkpeiddaa
