/-
  The program's loops: the test of a loop, a cycle.
-/
import Derived.Test.YtplghjghecfeoaaDoorLrMath
namespace Go.Proofs.YtplghjghecfeoaaDoor
open Go.RowKit Go.Deep

attribute [local go_sem] lrun_store_float lrun_store_complex
abbrev loV (l : Fl.Lo) : Value := .agg #[.float .f64 l.up, .float .f64 l.sum, .float .f64 l.gain, .float .f64 l.lag, .float .f64 l.low, .float .f64 l.high]
abbrev loL (l : Fl.Lo) : List Value := [.float .f64 l.up, .float .f64 l.sum, .float .f64 l.gain, .float .f64 l.lag, .float .f64 l.low, .float .f64 l.high]
abbrev lsV (x : Fl.Ls) : Value := .agg #[.float .f64 x.v, .float .f64 x.s, .float .f64 x.d]
abbrev lsL (x : Fl.Ls) : List Value := [.float .f64 x.v, .float .f64 x.s, .float .f64 x.d]
theorem row6_cells {w : World} {g : Nat} {t : TypeId} {x0 x1 x2 x3 x4 x5 : Value} (h : w.rowIs g t 6 (rowL [x0, x1, x2, x3, x4, x5])) : (w.cell? ⟨g, 0, none⟩ = some x0 ∧ w.cell? ⟨g, 1, none⟩ = some x1 ∧ w.cell? ⟨g, 2, none⟩ = some x2) ∧ (w.cell? ⟨g, 3, none⟩ = some x3 ∧ w.cell? ⟨g, 4, none⟩ = some x4 ∧ w.cell? ⟨g, 5, none⟩ = some x5) :=
  ⟨⟨h.cell (i := 0) (by omega), h.cell (i := 1) (by omega), h.cell (i := 2) (by omega)⟩, h.cell (i := 3) (by omega), h.cell (i := 4) (by omega), h.cell (i := 5) (by omega)⟩

set_option maxHeartbeats 1000000 in
theorem loopRight_any (l : Fl.Lo) (w : World) :
    Calls Tryd.prog 30 #[loV l] w fun e w' => e = .returned (.bool (Fl.rightL l)) ∧ Below w.heap.size w w' := by
  obtain ⟨W, hW⟩ : ∃ W, W = (w.alloc (.cells #[.float .f64 l.up, .float .f64 l.sum, .float .f64 l.gain, .float .f64 l.lag, .float .f64 l.low, .float .f64 l.high] 25)).alloc (.cells #[.float .f64 l.up, .float .f64 l.sum, .float .f64 l.gain, .float .f64 l.lag, .float .f64 l.low, .float .f64 l.high] 23) := ⟨_, rfl⟩
  have HB : Hid (Below w.heap.size w W) := by show Below _ _ _; rw [hW]; exact (bel_alloc _ _).alloc (by simp) _
  have HX : Hid (W.rowIs w.heap.size 25 6 (rowL (loL l))) := by show World.rowIs _ _ _ _ _; rw [hW]; exact wrow_below (rowL_alloc w (loL l) _) (bel_alloc _ _)
  have HF : Hid (FlAt (some ⟨w.heap.size + 1, 0, none⟩) 6 l.at_ W) := by
    refine Or.inr ⟨w.heap.size + 1, rfl, fun i hi => ?_⟩
    have hr : W.rowIs (w.heap.size + 1) 23 6 (rowL (loL l)) := by rw [hW]; exact rowL_alloc' (by simp) (loL l) _
    have := row6_cells hr
    have h6 : i = 0 ∨ i = 1 ∨ i = 2 ∨ i = 3 ∨ i = 4 ∨ i = 5 := by omega
    rcases h6 with rfl | rfl | rfl | rfl | rfl | rfl
    · exact this.1.1
    · exact this.1.2.1
    · exact this.1.2.2
    · exact this.2.1
    · exact this.2.2.1
    · exact this.2.2.2
  have HW := Lib.hid hW
  clear hW
  unfold Fl.rightL
  obtain ⟨⟨_, _, _⟩, c3, c4, c5⟩ := row6_cells HX.out
  cases h1 : Fl.allB l.at_ 6
  · go_enter Tryd.func30, Tryd.ntmps30
    go_wp2_with fail
    rw [← HW.out]
    clear HW
    refine (measures_any _ 6 6 l.at_ _ HF.out (by omega)).mono ?_
    rintro e w1 ⟨rfl, rfl⟩
    rw [h1]
    go_wp2_with fail
    go_ret
    exact ⟨rfl, HB.out⟩
  cases h2 : Fl.gtB l.lag 0
  · have e1 : (FloatKind.f64.format.order l.lag 0 == some .gt) = false := h2
    go_enter Tryd.func30, Tryd.ntmps30
    go_wp2_with fail
    rw [← HW.out]
    clear HW
    refine (measures_any _ 6 6 l.at_ _ HF.out (by omega)).mono ?_
    rintro e w1 ⟨rfl, rfl⟩
    rw [h1]
    go_wp2_with fail
    go_ret
    exact ⟨rfl, HB.out⟩
  have e1 : (FloatKind.f64.format.order l.lag 0 == some .gt) = true := h2
  cases h3 : Fl.leB l.lag 4607182418800017408
  · have e2 : (FloatKind.f64.format.order l.lag 4607182418800017408 == some .lt || FloatKind.f64.format.order l.lag 4607182418800017408 == some .eq) = false := h3
    go_enter Tryd.func30, Tryd.ntmps30
    go_wp2_with fail
    rw [← HW.out]
    clear HW
    refine (measures_any _ 6 6 l.at_ _ HF.out (by omega)).mono ?_
    rintro e w1 ⟨rfl, rfl⟩
    rw [h1]
    go_wp2_with fail
    go_ret
    exact ⟨rfl, HB.out⟩
  have e2 : (FloatKind.f64.format.order l.lag 4607182418800017408 == some .lt || FloatKind.f64.format.order l.lag 4607182418800017408 == some .eq) = true := h3
  cases h4 : Fl.leB l.low l.high
  · have e3 : (FloatKind.f64.format.order l.low l.high == some .lt || FloatKind.f64.format.order l.low l.high == some .eq) = false := h4
    go_enter Tryd.func30, Tryd.ntmps30
    go_wp2_with fail
    rw [← HW.out]
    clear HW
    refine (measures_any _ 6 6 l.at_ _ HF.out (by omega)).mono ?_
    rintro e w1 ⟨rfl, rfl⟩
    rw [h1]
    go_wp2_with fail
    go_ret
    exact ⟨rfl, HB.out⟩
  · have e3 : (FloatKind.f64.format.order l.low l.high == some .lt || FloatKind.f64.format.order l.low l.high == some .eq) = true := h4
    go_enter Tryd.func30, Tryd.ntmps30
    go_wp2_with fail
    rw [← HW.out]
    clear HW
    refine (measures_any _ 6 6 l.at_ _ HF.out (by omega)).mono ?_
    rintro e w1 ⟨rfl, rfl⟩
    rw [h1]
    go_wp2_with fail
    go_ret
    exact ⟨rfl, HB.out⟩
end Go.Proofs.YtplghjghecfeoaaDoor
