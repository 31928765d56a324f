/-
  The program's LadderAt, at every list and turn.
-/
import Derived.Test.YthcgffnkpeiddaaLdI3
namespace Go.Proofs.Ythcgffnkpeiddaa
open Go.RowKit Go.Deep

attribute [local go_sem] lrun_store_float lrun_store_complex
/-- The first n rungs, and noughts behind them. -/
def clipR (f : (Nat → Nat) × (Nat → Nat) × (Nat → Nat)) (n : Nat) : (Nat → Nat) × (Nat → Nat) × (Nat → Nat) := (fun i => if i < n then f.1 i else 0, fun i => if i < n then f.2.1 i else 0, fun i => if i < n then f.2.2 i else 0)
theorem clip_at (f : (Nat → Nat) × (Nat → Nat) × (Nat → Nat)) {n i : Nat} (h : i < n) : (clipR f n).1 i = f.1 i ∧ (clipR f n).2.1 i = f.2.1 i ∧ (clipR f n).2.2 i = f.2.2 i := ⟨if_pos h, if_pos h, if_pos h⟩
theorem measB_zero : Fl.measB 0 = true := by decide +kernel
theorem clip_right {f : (Nat → Nat) × (Nat → Nat) × (Nat → Nat)} {n : Nat} (h : rgsB f n = true) (i : Nat) : rgB (clipR f n) i = true := by
  by_cases hi : i < n
  · have := rgsB_at h i hi
    unfold rgB at this ⊢
    rw [(clip_at f hi).1, (clip_at f hi).2.1, (clip_at f hi).2.2]
    exact this
  · unfold rgB clipR
    simp only [if_neg hi, measB_zero]
    rfl
theorem clip_blk {g n : Nat} {f : (Nat → Nat) × (Nat → Nat) × (Nat → Nat)} {w : World} (h : RgBlk g n f w) : RgBlk g n (clipR f n) w := by
  obtain ⟨M, F, h1, h2, h3⟩ := h
  exact ⟨M, F, h1, h2, fun i hi => by rw [(clip_at f hi).1, (clip_at f hi).2.1, (clip_at f hi).2.2]; exact h3 i hi⟩
/-- What LadderAt tells. -/
def ladA (f : (Nat → Nat) × (Nat → Nat) × (Nat → Nat)) (n t : Nat) : Nat × Nat := if decide (n ≤ 30) && (rgsB f n && Fl.measB t) then ladL (clipR f n) t (dn n n) else (0, 0)
set_option maxRecDepth 100000 in
set_option maxHeartbeats 1000000 in
theorem implLadder_any (g n cap : Nat) (f : (Nat → Nat) × (Nat → Nat) × (Nat → Nat)) (t : Nat) (w : World) (h : RgBlk g n f w) (hn : n ≤ 1048576) :
    Calls Try.prog 15 #[.slice (some ⟨g, 0, none⟩) n cap, .float .f64 t] w fun e w' => e = .returned (cnV (ladA f n t).1 (ladA f n t).2) ∧ Below w.heap.size w w' := by
  unfold ladA
  by_cases h30 : n ≤ 30
  case neg =>
    rw [decide_eq_false h30]
    simp only [Bool.false_and, Bool.false_eq_true, if_false]
    have hz : (30 : Int) < (n : Int) := by omega
    clear h
    go_enter Try.func15, Try.ntmps15
    go_wp2_with fail
    exact bodyPost_ret (v := cnV 0 0) (by simp [results, Try.results15, go_sem]) rfl ⟨rfl, (bel_alloc _ _).alloc (by simp) _⟩
  case pos =>
  rw [decide_eq_true h30]
  simp only [Bool.true_and]
  cases hr : rgsB f n
  · simp only [Bool.false_and, Bool.false_eq_true, if_false]
    obtain ⟨W0, hW0⟩ : ∃ W0, W0 = (w.alloc (.cells #[.float .f64 t] 22)).alloc (.cells #[.float .f64 0, .float .f64 0] 33) := ⟨_, rfl⟩
    have HB0 : Hid (Below w.heap.size w W0) := by show Below _ _ _; rw [hW0]; exact (bel_alloc _ _).alloc (by simp) _
    have HR0 : Hid (W0.rowIs (w.heap.size + 1) 33 2 (rowL (cnL 0 0))) := by show World.rowIs _ _ _ _ _; rw [hW0]; exact rowL_alloc' (by simp) (cnL 0 0) _
    have HW0 := Lib.hid hW0
    have H := Lib.hid h
    have hnz : ¬ (30 : Int) < (n : Int) := by omega
    clear h hW0
    go_enter Try.func15, Try.ntmps15
    go_wp2_with fail
    rw [← HW0.out]
    clear HW0
    refine (rungsRight_any g n cap f _ (H.out.below HB0.out) hn).mono ?_
    rintro e w1 ⟨rfl, hb⟩
    rw [hr]
    have HB : Hid (Below w.heap.size w w1) := HB0.out.trans (hb.mono HB0.out.size)
    obtain ⟨c0, c1, f0, f1, l0⟩ := told2 (wrow_below HR0.out hb)
    clear hb
    go_wp2_with fail
    exact bodyPost_ret (v := cnV 0 0) (by simp [results, Try.results15, go_sem, c0, c1]) rfl ⟨rfl, lbelow_set2 HB.out (by omega) _ _⟩
  · cases ht : Fl.measB t
    · simp only [Bool.and_false, Bool.false_eq_true, if_false]
      obtain ⟨W0, hW0⟩ : ∃ W0, W0 = (w.alloc (.cells #[.float .f64 t] 22)).alloc (.cells #[.float .f64 0, .float .f64 0] 33) := ⟨_, rfl⟩
      have HB0 : Hid (Below w.heap.size w W0) := by show Below _ _ _; rw [hW0]; exact (bel_alloc _ _).alloc (by simp) _
      have HR0 : Hid (W0.rowIs (w.heap.size + 1) 33 2 (rowL (cnL 0 0))) := by show World.rowIs _ _ _ _ _; rw [hW0]; exact rowL_alloc' (by simp) (cnL 0 0) _
      have HT0 : Hid (W0.rowIs w.heap.size 22 1 (rowL [.float .f64 t])) := by show World.rowIs _ _ _ _ _; rw [hW0]; exact wrow_below (rowL_alloc w [.float .f64 t] _) (bel_alloc _ _)
      have HW0 := Lib.hid hW0
      have H := Lib.hid h
      have hnz : ¬ (30 : Int) < (n : Int) := by omega
      clear h hW0
      go_enter Try.func15, Try.ntmps15
      go_wp2_with fail
      rw [← HW0.out]
      clear HW0
      refine (rungsRight_any g n cap f _ (H.out.below HB0.out) hn).mono ?_
      rintro e w1 ⟨rfl, hb⟩
      rw [hr]
      have HB : Hid (Below w.heap.size w w1) := HB0.out.trans (hb.mono HB0.out.size)
      obtain ⟨c0, c1, f0, f1, l0⟩ := told2 (wrow_below HR0.out hb)
      have ct : w1.cell? ⟨w.heap.size, 0, none⟩ = some (.float .f64 t) := (wrow_below HT0.out hb).cell (i := 0) (by omega)
      clear hb
      go_wp2_with (go_at_call 27; refine (implMeas_any _ _).mono ?_; rintro e w' ⟨rfl, hw⟩; subst w')
      exact bodyPost_ret (v := cnV 0 0) (by simp [results, Try.results15, go_sem, c0, c1]) rfl ⟨rfl, lbelow_set2 HB.out (by omega) _ _⟩
    · simp only [Bool.and_self, if_true]
      exact ladderOk g n cap (clipR f n) t w (clip_blk h) h30 (clip_right hr) ht
end Go.Proofs.Ythcgffnkpeiddaa
