/-
  Filters: the model's step.
-/
import Derived.Test.YtcjeieagpcphjaaDoorWkFl2
import Derived.Test.YtcjeieagpcphjaaDoorStB3x
namespace Go.Proofs.YtcjeieagpcphjaaDoor
open Go.RowKit Go.Deep

theorem fl_row_set {w : World} {g : Nat} {t : TypeId} {n : Nat} {l : List Value} (h : w.rowIs g t n (rowL l)) (i : Nat) (x : Value) (hi : i < l.length) : (w.setCell ⟨g, i, none⟩ x).rowIs g t n (rowL (l.set i x)) :=
  (h.set i x).congr (fun j _ => by
    unfold rowL
    by_cases e : j = i
    · subst e; simp [hi]
    · rw [if_neg e]
      have e2 : i ≠ j := fun h => e h.symm
      simp [e2])
theorem madeX {w : World} {g : Nat} (e : w.heap.size = g) (n : Nat) : (w.alloc (mkO n)).rowIs g 2 n (fun _ => .int .i64 0) := by subst e; exact World.rowIs_made w (.int .i64 0) n 2
set_option maxRecDepth 100000 in
set_option maxHeartbeats 2000000 in
theorem sFilterR_any (f : Wk.Fl) (w : World) :
    Calls Tryd.prog 40 #[flV f] w fun e w' => BoolEnd (Wk.FlOk f) e ∧ Gr w w' := by
  have HG : Hid (Gr w (w.alloc (.cells #[.int .i64 f.held, .int .i64 f.most, .int .i64 f.catch_, .int .i64 f.wash] 29))) := (Gr.refl _).alloc _
  by_cases c0 : 0 ≤ f.held
  case neg =>
    have K : Hid (¬ Wk.FlOk f) := fun h => c0 h.1.1
    go_enter Tryd.func40, Tryd.ntmps40
    go_wp2_with fail
    go_ret
    exact ⟨.ff K.out, HG.out⟩
  by_cases c1 : f.held ≤ 1000000000
  case neg =>
    have K : Hid (¬ Wk.FlOk f) := fun h => c1 h.1.2
    go_enter Tryd.func40, Tryd.ntmps40
    go_wp2_with fail
    go_ret
    exact ⟨.ff K.out, HG.out⟩
  by_cases c2 : 0 ≤ f.most
  case neg =>
    have K : Hid (¬ Wk.FlOk f) := fun h => c2 h.2.1.1
    go_enter Tryd.func40, Tryd.ntmps40
    go_wp2_with fail
    go_ret
    exact ⟨.ff K.out, HG.out⟩
  by_cases c3 : f.most ≤ 1000000000
  case neg =>
    have K : Hid (¬ Wk.FlOk f) := fun h => c3 h.2.1.2
    go_enter Tryd.func40, Tryd.ntmps40
    go_wp2_with fail
    go_ret
    exact ⟨.ff K.out, HG.out⟩
  by_cases c4 : 0 ≤ f.catch_
  case neg =>
    have K : Hid (¬ Wk.FlOk f) := fun h => c4 h.2.2.1.1
    go_enter Tryd.func40, Tryd.ntmps40
    go_wp2_with fail
    go_ret
    exact ⟨.ff K.out, HG.out⟩
  by_cases c5 : f.catch_ ≤ 1000
  case neg =>
    have K : Hid (¬ Wk.FlOk f) := fun h => c5 h.2.2.1.2
    go_enter Tryd.func40, Tryd.ntmps40
    go_wp2_with fail
    go_ret
    exact ⟨.ff K.out, HG.out⟩
  by_cases c6 : 0 ≤ f.wash
  case neg =>
    have K : Hid (¬ Wk.FlOk f) := fun h => c6 h.2.2.2.1
    go_enter Tryd.func40, Tryd.ntmps40
    go_wp2_with fail
    go_ret
    exact ⟨.ff K.out, HG.out⟩
  by_cases c7 : f.wash ≤ 1000000
  case neg =>
    have K : Hid (¬ Wk.FlOk f) := fun h => c7 h.2.2.2.2
    go_enter Tryd.func40, Tryd.ntmps40
    go_wp2_with fail
    go_ret
    exact ⟨.ff K.out, HG.out⟩
  have K : Hid (Wk.FlOk f) := ⟨⟨c0, c1⟩, ⟨c2, c3⟩, ⟨c4, c5⟩, c6, c7⟩
  go_enter Tryd.func40, Tryd.ntmps40
  go_wp2_with fail
  go_ret
  exact ⟨⟨true, rfl, by simpa using K.out⟩, HG.out⟩
/-- What stands in the model's step. -/
def FsR (w : World) (fl : Wk.Fl) (wt : Int) (a : Option Addr) (n k b5 : Nat) (L : List Value) (g1 : Nat) (f1 : Nat → Int) (g2 : Nat) (f2 : Nat → Int) (W : World) : Prop :=
  FlB w fl fl.held wt a n k W ∧ W.rowIs (w.heap.size + 1 + 1) 54 10 (rowL foZ) ∧ W.rowIs b5 54 10 (rowL L) ∧ InBlk g1 n f1 W ∧ InBlk g2 n f2 W
set_option maxRecDepth 100000 in
set_option maxHeartbeats 16000000 in
theorem sFilter_any (fl : Wk.Fl) (b : Wk.Bt) (a : Option Addr) (k : Nat) (w : World) (h : IntsAt a b.n b.f w) (hn : b.n ≤ 4194304) :
    Calls Tryd.prog 22 #[flV fl, btV b.wt a b.n k] w fun e w' => FoEnd w.heap.size (Wk.step fl b) e w' ∧ Below w.heap.size w w' := by
  obtain ⟨wt, n, f⟩ := b
  obtain ⟨b1, hb1⟩ := bool_of (Wk.FlOk fl)
  obtain ⟨b2, hb2⟩ := bool_of (Wk.OkB wt n f)
  have K1 := Lib.hid hb1
  have K2 := Lib.hid hb2
  obtain ⟨W, hW⟩ : ∃ W, W = ((w.alloc (.cells #[.int .i64 fl.held, .int .i64 fl.most, .int .i64 fl.catch_, .int .i64 fl.wash] 29)).alloc (.cells #[.int .i64 wt, .slice a n k] 28)).alloc (.cells ⟨foZ⟩ 54) := ⟨_, rfl⟩
  have hF : FlB w fl fl.held wt a n k W := by
    rw [hW]
    exact ⟨wrow_below (wrow_below (rowL_alloc w (flL fl) _) (bel_alloc _ _)) (bel_alloc _ _), wrow_below (row2' (by simp) _ _ _) (bel_alloc _ _), ((bel_alloc _ _).alloc (by simp) _).alloc (by simp; omega) _⟩
  have hO : W.rowIs (w.heap.size + 1 + 1) 54 10 (rowL foZ) := by
    rw [hW]
    have := rowL_alloc ((w.alloc (.cells #[.int .i64 fl.held, .int .i64 fl.most, .int .i64 fl.catch_, .int .i64 fl.wash] 29)).alloc (.cells #[.int .i64 wt, .slice a n k] 28)) foZ 54
    rwa [World.size_alloc, World.size_alloc] at this
  have HF := Lib.hid hF
  have HO := Lib.hid hO
  have HW := Lib.hid hW
  have H := Lib.hid h
  have HN := Lib.hid hn
  have bad : ¬ Wk.StepOk fl ⟨wt, n, f⟩ → Hid (Wk.step fl ⟨wt, n, f⟩ = Wk.badF 1) := fun h => by show _ = _; unfold Wk.step; rw [if_neg h]
  have HBAD := Lib.hid bad
  clear hb1 hb2 hW hF hO h hn bad
  go_enter Tryd.func22, Tryd.ntmps22
  go_wp2_with fail
  rw [← HW.out]
  refine ((sFilterR_any fl W).mono fun e w' ⟨g1, g2⟩ => ⟨g1.eq K1.out, g2⟩ : Calls Tryd.prog 40 #[flV fl] W fun e w' => e = .returned (.bool b1) ∧ Gr W w').mono ?_
  rintro e W1 ⟨rfl, hG⟩
  have HF1 := Lib.hid (HF.out.below hG.bel)
  have HO1 := Lib.hid (wrow_below HO.out hG.bel)
  clear hG HF HO HW
  have o0 := HO1.out.cell (i := 0) (by omega)
  have z0 := HO1.out.frozen 0
  have o1 := HO1.out.cell (i := 1) (by omega)
  have z1 := HO1.out.frozen 1
  have o2 := HO1.out.cell (i := 2) (by omega)
  have z2 := HO1.out.frozen 2
  have o3 := HO1.out.cell (i := 3) (by omega)
  have z3 := HO1.out.frozen 3
  have o4 := HO1.out.cell (i := 4) (by omega)
  have z4 := HO1.out.frozen 4
  have o5 := HO1.out.cell (i := 5) (by omega)
  have z5 := HO1.out.frozen 5
  have o6 := HO1.out.cell (i := 6) (by omega)
  have z6 := HO1.out.frozen 6
  have o7 := HO1.out.cell (i := 7) (by omega)
  have z7 := HO1.out.frozen 7
  have o8 := HO1.out.cell (i := 8) (by omega)
  have z8 := HO1.out.frozen 8
  have o9 := HO1.out.cell (i := 9) (by omega)
  have z9 := HO1.out.frozen 9
  obtain ⟨⟨y0, y1⟩, _⟩ := row2_cells HF1.out.bb
  cases b1 with
  | false =>
    have hP := HBAD.out (fun h => by have := K1.out.2 h.1; cases this)
    go_wp2_with fail
    obtain ⟨WZ, hWZ⟩ : ∃ WZ, WZ = setAll (w.heap.size + 1 + 1) 0 (foL (Wk.badF 1) none 0 none 0) W1 := ⟨_, rfl⟩
    have hS : WZ.rowIs (w.heap.size + 1 + 1) 54 10 (rowL (foL (Wk.badF 1) none 0 none 0)) := by rw [hWZ]; exact setAll_row _ HO1.out rfl
    have hBZ : Below w.heap.size w WZ := by rw [hWZ]; exact setAll_below (by omega) _ _ _ HF1.out.bel
    have hW2 : WZ = ((((((((((W1.setCell ⟨w.heap.size + 1 + 1, 0, none⟩ (.int .i64 0)).setCell ⟨w.heap.size + 1 + 1, 1, none⟩ (.int .i64 0)).setCell ⟨w.heap.size + 1 + 1, 2, none⟩ (.int .i64 0)).setCell ⟨w.heap.size + 1 + 1, 3, none⟩ (.int .i64 0)).setCell ⟨w.heap.size + 1 + 1, 4, none⟩ (.int .i64 0)).setCell ⟨w.heap.size + 1 + 1, 5, none⟩ (.slice none 0 0)).setCell ⟨w.heap.size + 1 + 1, 6, none⟩ (.int .i64 0)).setCell ⟨w.heap.size + 1 + 1, 7, none⟩ (.slice none 0 0)).setCell ⟨w.heap.size + 1 + 1, 8, none⟩ (.int .i64 0)).setCell ⟨w.heap.size + 1 + 1, 9, none⟩ (.int .i64 1)) := hWZ
    rw [← hW2]
    clear hW2 hWZ
    refine bodyPost_ret (v := foV (Wk.badF 1) none 0 none 0) ?_ rfl ⟨by rw [hP.out]; exact FoEnd.bad _ _ _, hBZ⟩
    obtain ⟨⟨x0, x1, x2, x3, x4⟩, x5, x6, x7, x8, x9⟩ := row10_cells hS
    simp only [results, Tryd.results22]
    simp [go_sem, x0, x1, x2, x3, x4, x5, x6, x7, x8, x9]
  | true =>
  have hokF : Hid (Wk.FlOk fl) := by show Wk.FlOk fl; have := K1.out; simpa using this
  go_wp2_with fail
  refine ((sBRight_any wt a n k f _ (H.out.below HF1.out.bel) HN.out).mono fun e w' ⟨g1, g2⟩ => ⟨g1.eq K2.out, g2⟩ : Calls Tryd.prog 38 #[btV wt a n k] W1 fun e w' => e = .returned (.bool b2) ∧ Gr W1 w').mono ?_
  rintro e W2 ⟨rfl, hG⟩
  have HF2 := Lib.hid (HF1.out.below hG.bel)
  have HO2 := Lib.hid (wrow_below HO1.out hG.bel)
  clear hG HF1 HO1 y0 y1
  clear o0 z0 o1 z1 o2 z2 o3 z3 o4 z4 o5 z5 o6 z6 o7 z7 o8 z8 o9 z9
  have o0 := HO2.out.cell (i := 0) (by omega)
  have z0 := HO2.out.frozen 0
  have o1 := HO2.out.cell (i := 1) (by omega)
  have z1 := HO2.out.frozen 1
  have o2 := HO2.out.cell (i := 2) (by omega)
  have z2 := HO2.out.frozen 2
  have o3 := HO2.out.cell (i := 3) (by omega)
  have z3 := HO2.out.frozen 3
  have o4 := HO2.out.cell (i := 4) (by omega)
  have z4 := HO2.out.frozen 4
  have o5 := HO2.out.cell (i := 5) (by omega)
  have z5 := HO2.out.frozen 5
  have o6 := HO2.out.cell (i := 6) (by omega)
  have z6 := HO2.out.frozen 6
  have o7 := HO2.out.cell (i := 7) (by omega)
  have z7 := HO2.out.frozen 7
  have o8 := HO2.out.cell (i := 8) (by omega)
  have z8 := HO2.out.frozen 8
  have o9 := HO2.out.cell (i := 9) (by omega)
  have z9 := HO2.out.frozen 9
  obtain ⟨⟨y0, y1⟩, _⟩ := row2_cells HF2.out.bb
  obtain ⟨f0, f1, f2, f3⟩ := row4_cells HF2.out.bf
  cases b2 with
  | false =>
    have hP := HBAD.out (fun h => by have := K2.out.2 h.2.1; cases this)
    go_wp2_with fail
    obtain ⟨WZ, hWZ⟩ : ∃ WZ, WZ = setAll (w.heap.size + 1 + 1) 0 (foL (Wk.badF 1) none 0 none 0) W2 := ⟨_, rfl⟩
    have hS : WZ.rowIs (w.heap.size + 1 + 1) 54 10 (rowL (foL (Wk.badF 1) none 0 none 0)) := by rw [hWZ]; exact setAll_row _ HO2.out rfl
    have hBZ : Below w.heap.size w WZ := by rw [hWZ]; exact setAll_below (by omega) _ _ _ HF2.out.bel
    have hW2 : WZ = ((((((((((W2.setCell ⟨w.heap.size + 1 + 1, 0, none⟩ (.int .i64 0)).setCell ⟨w.heap.size + 1 + 1, 1, none⟩ (.int .i64 0)).setCell ⟨w.heap.size + 1 + 1, 2, none⟩ (.int .i64 0)).setCell ⟨w.heap.size + 1 + 1, 3, none⟩ (.int .i64 0)).setCell ⟨w.heap.size + 1 + 1, 4, none⟩ (.int .i64 0)).setCell ⟨w.heap.size + 1 + 1, 5, none⟩ (.slice none 0 0)).setCell ⟨w.heap.size + 1 + 1, 6, none⟩ (.int .i64 0)).setCell ⟨w.heap.size + 1 + 1, 7, none⟩ (.slice none 0 0)).setCell ⟨w.heap.size + 1 + 1, 8, none⟩ (.int .i64 0)).setCell ⟨w.heap.size + 1 + 1, 9, none⟩ (.int .i64 1)) := hWZ
    rw [← hW2]
    clear hW2 hWZ
    refine bodyPost_ret (v := foV (Wk.badF 1) none 0 none 0) ?_ rfl ⟨by rw [hP.out]; exact FoEnd.bad _ _ _, hBZ⟩
    obtain ⟨⟨x0, x1, x2, x3, x4⟩, x5, x6, x7, x8, x9⟩ := row10_cells hS
    simp only [results, Tryd.results22]
    simp [go_sem, x0, x1, x2, x3, x4, x5, x6, x7, x8, x9]
  | true =>
  have hokB : Hid (Wk.OkB wt n f) := by show Wk.OkB wt n f; have := K2.out; simpa using this
  by_cases hn0 : n = 0
  · have hz0 : ((n : Int) == 0) = true := by simp [hn0]
    have hP := HBAD.out (fun h => by have : 0 < n := h.2.2; omega)
    go_wp2_with fail
    obtain ⟨WZ, hWZ⟩ : ∃ WZ, WZ = setAll (w.heap.size + 1 + 1) 0 (foL (Wk.badF 1) none 0 none 0) W2 := ⟨_, rfl⟩
    have hS : WZ.rowIs (w.heap.size + 1 + 1) 54 10 (rowL (foL (Wk.badF 1) none 0 none 0)) := by rw [hWZ]; exact setAll_row _ HO2.out rfl
    have hBZ : Below w.heap.size w WZ := by rw [hWZ]; exact setAll_below (by omega) _ _ _ HF2.out.bel
    have hW2 : WZ = ((((((((((W2.setCell ⟨w.heap.size + 1 + 1, 0, none⟩ (.int .i64 0)).setCell ⟨w.heap.size + 1 + 1, 1, none⟩ (.int .i64 0)).setCell ⟨w.heap.size + 1 + 1, 2, none⟩ (.int .i64 0)).setCell ⟨w.heap.size + 1 + 1, 3, none⟩ (.int .i64 0)).setCell ⟨w.heap.size + 1 + 1, 4, none⟩ (.int .i64 0)).setCell ⟨w.heap.size + 1 + 1, 5, none⟩ (.slice none 0 0)).setCell ⟨w.heap.size + 1 + 1, 6, none⟩ (.int .i64 0)).setCell ⟨w.heap.size + 1 + 1, 7, none⟩ (.slice none 0 0)).setCell ⟨w.heap.size + 1 + 1, 8, none⟩ (.int .i64 0)).setCell ⟨w.heap.size + 1 + 1, 9, none⟩ (.int .i64 1)) := hWZ
    rw [← hW2]
    clear hW2 hWZ
    refine bodyPost_ret (v := foV (Wk.badF 1) none 0 none 0) ?_ rfl ⟨by rw [hP.out]; exact FoEnd.bad _ _ _, hBZ⟩
    obtain ⟨⟨x0, x1, x2, x3, x4⟩, x5, x6, x7, x8, x9⟩ := row10_cells hS
    simp only [results, Tryd.results22]
    simp [go_sem, x0, x1, x2, x3, x4, x5, x6, x7, x8, x9]
  have hz0 : ((n : Int) == 0) = false := by simp; omega
  have HN1 : Hid (1 ≤ n) := by show 1 ≤ n; omega
  have HN6 : Hid (n ≤ 6) := hokB.out.2.1
  have HOK : Hid (Wk.StepOk fl ⟨wt, n, f⟩) := ⟨hokF.out, hokB.out, by show 0 < n; omega⟩
  obtain ⟨bb, ea, hcb⟩ : ∃ bb, a = some ⟨bb, 0, none⟩ ∧ ∀ i, i < n → w.cell? ⟨bb, i, none⟩ = some (.int .i64 (f i)) := by
    rcases H.out with h0 | h0
    · exact absurd h0 hn0
    · exact h0
  subst ea
  have HCB : Hid (∀ W', Below w.heap.size w W' → ∀ i, i < n → W'.cell? ⟨bb, i, none⟩ = some (.int .i64 (f i))) := fun W' hb i hi => (hb.cell (World.block_lt_of_cell? _ _ (hcb i hi))).trans (hcb i hi)
  clear hcb
  obtain ⟨V0, hV0⟩ : ∃ V0, V0 = W2.alloc (.cells #[.int .i64 fl.held, .int .i64 fl.most, .int .i64 fl.catch_, .int .i64 fl.wash, .int .i64 0, .slice none 0 0, .int .i64 0, .slice none 0 0, .int .i64 0, .int .i64 0] 54) := ⟨_, rfl⟩
  have hb0 : Below W2.heap.size W2 V0 := by rw [hV0]; exact bel_alloc _ _
  have R0 : V0.rowIs W2.heap.size 54 10 (rowL [.int .i64 fl.held, .int .i64 fl.most, .int .i64 fl.catch_, .int .i64 fl.wash, .int .i64 0, .slice none 0 0, .int .i64 0, .slice none 0 0, .int .i64 0, .int .i64 0]) := by rw [hV0]; exact rowL_alloc _ [.int .i64 fl.held, .int .i64 fl.most, .int .i64 fl.catch_, .int .i64 fl.wash, .int .i64 0, .slice none 0 0, .int .i64 0, .slice none 0 0, .int .i64 0, .int .i64 0] _
  have HF0 := Lib.hid (HF2.out.below hb0)
  have HO0 := Lib.hid (wrow_below HO2.out hb0)
  obtain ⟨b5, hb5⟩ : ∃ b5, b5 = W2.heap.size := ⟨_, rfl⟩
  have HB5 : Hid (w.heap.size + 1 + 1 < b5) := by show _ < _; rw [hb5]; exact HO2.out.lt
  rw [← hb5] at R0
  have HR0 := Lib.hid R0
  have HV0 := Lib.hid hV0
  clear hb0 R0 hV0
  go_wp2_with fail
  rw [← HV0.out, ← hb5]
  clear HV0 hb5 HF2 HO2 y0 y1 f0 f1 f2 f3
  clear o0 z0 o1 z1 o2 z2 o3 z3 o4 z4 o5 z5 o6 z6 o7 z7 o8 z8 o9 z9
  refine wp_region_held_drew (S := FlB w fl fl.held wt (some ⟨bb, 0, none⟩) n k) (by kernel_rfl) (HF0.out.below (Below.refl _ _).drew) (fun hHeld => ?_)
  have HRz : Hid (V0.drew.rowIs (b5) 54 10 (rowL [.int .i64 fl.held, .int .i64 fl.most, .int .i64 fl.catch_, .int .i64 fl.wash, .int .i64 0, .slice none 0 0, .int .i64 0, .slice none 0 0, .int .i64 0, .int .i64 0])) := HR0.out.of_block rfl
  have HOz : Hid (V0.drew.rowIs (w.heap.size + 1 + 1) 54 10 (rowL foZ)) := HO0.out.of_block rfl
  obtain ⟨Z, hZ⟩ : ∃ Z, Z = V0.drew := ⟨_, rfl⟩
  rw [← hZ] at hHeld HRz HOz ⊢
  clear hZ HF0 HO0 HR0
  refine take_do (i := 0) (v := (.pointer (some ⟨w.heap.size + 1, 0, none⟩))) rfl (by kernel_rfl) (by kernel_rfl) (by kernel_rfl) (fun _ _ _ h => h) (by rfl) ?_ (by assumption) ?_
  · intro w hSw
    clear hSw
    go_simp
  simp only [Act.put, List.setIfInBounds_toArray, List.set_cons_zero, List.set_cons_succ]
  refine take_do (i := 1) (v := (.int .i64 wt)) rfl (by kernel_rfl) (by kernel_rfl) (by kernel_rfl) (fun _ _ _ h => h) (by rfl) ?_ (by assumption) ?_
  · intro w hSw
    obtain ⟨⟨q0, q1⟩, _⟩ := row2_cells hSw.bb
    go_simp
  simp only [Act.put, List.setIfInBounds_toArray, List.set_cons_zero, List.set_cons_succ]
  refine take_do (i := 3) (v := (.pointer (some ⟨w.heap.size + 1, 1, none⟩))) rfl (by kernel_rfl) (by kernel_rfl) (by kernel_rfl) (fun _ _ _ h => h) (by rfl) ?_ (by assumption) ?_
  · intro w hSw
    clear hSw
    go_simp
  simp only [Act.put, List.setIfInBounds_toArray, List.set_cons_zero, List.set_cons_succ]
  refine take_do (i := 4) (v := (.slice (some ⟨bb, 0, none⟩) n k)) rfl (by kernel_rfl) (by kernel_rfl) (by kernel_rfl) (fun _ _ _ h => h) (by rfl) ?_ (by assumption) ?_
  · intro w hSw
    obtain ⟨⟨q0, q1⟩, _⟩ := row2_cells hSw.bb
    go_simp
  simp only [Act.put, List.setIfInBounds_toArray, List.set_cons_zero, List.set_cons_succ]
  refine take_call (i := 2) rfl (by kernel_rfl) (fun K2 hK => ?_)
  have hbA : Below Z.heap.size Z (Z.alloc (.cells #[] 2)) := bel_alloc _ _
  go_simp
  refine hK.out _ _ (hHeld.below hbA) (fun hHeld2 => ?_)
  clear hK hHeld2
  refine take_call (i := 5) rfl (by kernel_rfl) (fun K2 hK => ?_)
  obtain ⟨i0, hi, hz0', hz1, hz2⟩ := info_parts info_i64
  refine step_append_ownx rfl (.tmp 26) (.tmp 28) 24 rfl Z.heap.size 2 i0 (.int .i64 0) 1 8 Tryd.underlying24 hi hz0' hz1 hz2 rfl (by decide) (.slice (some ⟨Z.heap.size, 0, none⟩) 0 0) 0 [] rfl (World.ownsRow_made Z #[] 0 (Nat.le_refl _) (Nat.zero_le _) rfl) ⟨bb, 0, none⟩ n k (flVs f n) rfl ?_ ?_ ?_ ?_ ?_ ?_ ?_
  · simp [flVs, listOf_len]
  · intro j u hj
    have hjn : j < n := by
      have := (List.getElem?_eq_some_iff.1 hj).1
      simpa [flVs, listOf_len] using this
    rw [Addr.add_lit]
    refine Lib.cell?_alloc_some _ ?_
    rw [Nat.zero_add, HCB.out Z hHeld.bel j hjn, ← hj]
    simp [flVs, listOf, hjn]
  · intro u hu
    unfold flVs at hu
    obtain ⟨x, _, rfl⟩ := List.mem_map.1 hu
    rfl
  · have := HN6.out; unfold maxLen; omega
  · have := HN6.out; omega
  · simp
  intro v' Zb hown hgrow
  have hbB : Below Z.heap.size Z Zb := ((Below.refl _ Z).alloc (Nat.le_refl _) _).grown hgrow (by simp) (by intro k hk; simp [Value.ownBlock] at hk; omega)
  have hown' : Zb.ownsRow Z.heap.size 2 1 v' n (flVs f n) := by simpa using hown
  have h' : Zb.ownsRow Z.heap.size 2 1 v' (listOf f n).length ((listOf f n).map (Value.int .i64)) := by rw [listOf_len]; exact hown'
  obtain ⟨g1, c, e1, hg1, hblk⟩ : ∃ g c, v' = .slice (some ⟨g, 0, none⟩) n c ∧ Z.heap.size ≤ g ∧ InBlk g n f Zb := by
    rcases own_ints h' with ⟨e1, e2⟩ | ⟨g, c, e1, hg, hblk⟩
    · have hn : n = 0 := by have := congrArg List.length e2; simpa [listOf_len] using this
      have := HN1.out
      omega
    · rw [listOf_len] at e1 hblk
      exact ⟨g, c, e1, hg, hblk.congr (fun j hj => inList_of f hj)⟩
  subst e1
  have HBK := Lib.hid hblk
  have HRb := Lib.hid (wrow_below HRz.out hbB)
  have HOb := Lib.hid (wrow_below HOz.out hbB)
  have HG1 : Hid (b5 < g1) := by have h1 := HRz.out.lt; show _ < _; omega
  have hHeldB := hHeld.below hbB
  refine hK.out _ _ hHeldB (fun hHeld2 => ?_)
  clear hK hHeld hHeld2 hown hown' h' hgrow hblk hbA hg1 hbB HRz HOz hi hz0' hz1 hz2
  simp only [Act.put, List.setIfInBounds_toArray, List.set_cons_zero, List.set_cons_succ]
  refine take_do (i := 6) (v := (.agg #[.int .i64 wt, .slice (some ⟨g1, 0, none⟩) n c])) rfl (by kernel_rfl) (by kernel_rfl) (by kernel_rfl) (fun _ _ _ h => h) (by rfl) ?_ (by assumption) ?_
  · intro w hSw
    clear hSw
    go_simp
  simp only [Act.put, List.setIfInBounds_toArray, List.set_cons_zero, List.set_cons_succ]
  refine take_do (i := 7) (v := (.pointer (some ⟨b5, 4, none⟩))) rfl (by kernel_rfl) (by kernel_rfl) (by kernel_rfl) (fun _ _ _ h => h) (by rfl) ?_ (by assumption) ?_
  · intro w hSw
    clear hSw
    go_simp
  simp only [Act.put, List.setIfInBounds_toArray, List.set_cons_zero, List.set_cons_succ]
  have o0 := HRb.out.cell (i := 0) (by omega)
  have z0 := HRb.out.frozen 0
  have o1 := HRb.out.cell (i := 1) (by omega)
  have z1 := HRb.out.frozen 1
  have o2 := HRb.out.cell (i := 2) (by omega)
  have z2 := HRb.out.frozen 2
  have o3 := HRb.out.cell (i := 3) (by omega)
  have z3 := HRb.out.frozen 3
  have o4 := HRb.out.cell (i := 4) (by omega)
  have z4 := HRb.out.frozen 4
  have o5 := HRb.out.cell (i := 5) (by omega)
  have z5 := HRb.out.frozen 5
  have o6 := HRb.out.cell (i := 6) (by omega)
  have z6 := HRb.out.frozen 6
  have o7 := HRb.out.cell (i := 7) (by omega)
  have z7 := HRb.out.frozen 7
  have o8 := HRb.out.cell (i := 8) (by omega)
  have z8 := HRb.out.frozen 8
  have o9 := HRb.out.cell (i := 9) (by omega)
  have z9 := HRb.out.frozen 9
  obtain ⟨V1, hV1⟩ : ∃ V1, V1 = (Zb.setCell ⟨b5, 4, none⟩ (.int .i64 wt)).setCell ⟨b5, 5, none⟩ (.slice (some ⟨g1, 0, none⟩) n c) := ⟨_, rfl⟩
  have hl5 := HB5.out
  have hl1 := HG1.out
  have hfar : ∀ q, q ≠ b5 → V1.heap[q]? = Zb.heap[q]? := fun q hq => by rw [hV1]; exact (Below.heap_setCell _ ⟨b5, 5, none⟩ _ _ hq).trans (Below.heap_setCell _ ⟨b5, 4, none⟩ _ _ hq)
  have HF1 : Hid (FlB w fl fl.held wt (some ⟨bb, 0, none⟩) n k V1) := by show FlB _ _ _ _ _ _ _ _; rw [hV1]; exact (hHeldB.set (p := ⟨b5, 4, none⟩) (by show w.heap.size + 1 < b5; omega) _).set (p := ⟨b5, 5, none⟩) (by show w.heap.size + 1 < b5; omega) _
  have HO1 : Hid (V1.rowIs (w.heap.size + 1 + 1) 54 10 (rowL foZ)) := HOb.out.of_block (hfar _ (by omega))
  have HR1 : Hid (V1.rowIs (b5) 54 10 (rowL [.int .i64 (fl.held), .int .i64 fl.most, .int .i64 fl.catch_, .int .i64 fl.wash, .int .i64 (wt), .slice (some ⟨g1, 0, none⟩) n c, .int .i64 (0), .slice none 0 0, .int .i64 (0), .int .i64 0])) := by show World.rowIs _ _ _ _ _; rw [hV1]; exact fl_row_set (fl_row_set HRb.out 4 (.int .i64 wt) (by simp)) 5 (.slice (some ⟨g1, 0, none⟩) n c) (by simp)
  have HI1 : Hid (InBlk g1 n f V1) := HBK.out.block (hfar _ (by omega))
  have HV1 := Lib.hid hV1
  clear hV1 hfar
  refine take_call (i := 8) rfl (by kernel_rfl) (fun K2 hK => ?_)
  go_simp
  rw [← HV1.out]
  refine hK.out _ _ HF1.out (fun hHeld2 => ?_)
  clear hK hHeld2 hHeldB HV1 HBK HRb HOb
  clear o0 z0 o1 z1 o2 z2 o3 z3 o4 z4 o5 z5 o6 z6 o7 z7 o8 z8 o9 z9
  refine wpAnyH_done (by kernel_rfl) ?_ _
  have hmk := run_make_row' (P := Tryd.prog) 24 2 (.int .i64 0) 8 Tryd.underlying24 info_i64 rfl .i64 .i64 n (by have := HN6.out; omega) (by have := HN6.out; omega)
  have o0 := HR1.out.cell (i := 0) (by omega)
  have z0 := HR1.out.frozen 0
  have o1 := HR1.out.cell (i := 1) (by omega)
  have z1 := HR1.out.frozen 1
  have o2 := HR1.out.cell (i := 2) (by omega)
  have z2 := HR1.out.frozen 2
  have o3 := HR1.out.cell (i := 3) (by omega)
  have z3 := HR1.out.frozen 3
  have o4 := HR1.out.cell (i := 4) (by omega)
  have z4 := HR1.out.frozen 4
  have o5 := HR1.out.cell (i := 5) (by omega)
  have z5 := HR1.out.frozen 5
  have o6 := HR1.out.cell (i := 6) (by omega)
  have z6 := HR1.out.frozen 6
  have o7 := HR1.out.cell (i := 7) (by omega)
  have z7 := HR1.out.frozen 7
  have o8 := HR1.out.cell (i := 8) (by omega)
  have z8 := HR1.out.frozen 8
  have o9 := HR1.out.cell (i := 9) (by omega)
  have z9 := HR1.out.frozen 9
  obtain ⟨⟨y0, y1⟩, _⟩ := row2_cells HF1.out.bb
  have l5 : b5 < V1.heap.size := HR1.out.lt
  have l1 : w.heap.size + 1 < V1.heap.size := HF1.out.bb.lt
  go_wp2_with fail
  obtain ⟨V2, hV2⟩ : ∃ V2, V2 = ((V1.setCell ⟨b5, 6, none⟩ (.int .i64 0)).setCell ⟨b5, 7, none⟩ (.slice (some ⟨V1.heap.size, 0, none⟩) n n)).alloc (mkO n) := ⟨_, rfl⟩
  obtain ⟨g2, hg2⟩ : ∃ g2, g2 = V1.heap.size := ⟨_, rfl⟩
  have hsz : ((V1.setCell ⟨b5, 6, none⟩ (.int .i64 0)).setCell ⟨b5, 7, none⟩ (.slice (some ⟨V1.heap.size, 0, none⟩) n n)).heap.size = g2 := by rw [hg2]; simp
  have hfar : ∀ q, q ≠ b5 → q < V1.heap.size → V2.heap[q]? = V1.heap[q]? := fun q hq hl => by rw [hV2]; exact ((bel_alloc _ (mkO n)).block _ (by simp; exact hl)).trans ((Below.heap_setCell _ ⟨b5, 7, none⟩ _ _ hq).trans (Below.heap_setCell _ ⟨b5, 6, none⟩ _ _ hq))
  have HF2 : Hid (FlB w fl fl.held wt (some ⟨bb, 0, none⟩) n k V2) := by show FlB _ _ _ _ _ _ _ _; rw [hV2]; exact ((HF1.out.set (p := ⟨b5, 6, none⟩) (by show w.heap.size + 1 < b5; omega) _).set (p := ⟨b5, 7, none⟩) (by show w.heap.size + 1 < b5; omega) _).below (bel_alloc _ _)
  have HO2 : Hid (V2.rowIs (w.heap.size + 1 + 1) 54 10 (rowL foZ)) := HO1.out.of_block (hfar _ (by omega) HO1.out.lt)
  have HR2 : Hid (V2.rowIs (b5) 54 10 (rowL [.int .i64 (fl.held), .int .i64 fl.most, .int .i64 fl.catch_, .int .i64 fl.wash, .int .i64 (wt), .slice (some ⟨g1, 0, none⟩) n c, .int .i64 (0), .slice (some ⟨g2, 0, none⟩) n n, .int .i64 (0), .int .i64 0])) := by show World.rowIs _ _ _ _ _; rw [hV2, hg2]; exact wrow_below (fl_row_set (fl_row_set HR1.out 6 (.int .i64 0) (by simp)) 7 (.slice (some ⟨V1.heap.size, 0, none⟩) n n) (by simp)) (bel_alloc _ _)
  have HJ1 : Hid (InBlk g1 n f V2) := HI1.out.block (hfar _ (by omega) HI1.out.lt)
  have HJ2 : Hid (InBlk g2 n (fun _ => 0) V2) := by show InBlk _ _ _ _; rw [hV2]; exact ⟨n, _, Nat.le_refl _, madeX hsz n, fun _ _ => rfl⟩
  have HG2 : Hid (g1 < g2) := by show _ < _; rw [hg2]; exact HI1.out.lt
  rw [← hV2]
  have hl2 := HG2.out
  clear hV2 hg2 hsz hfar HF1 HO1 HR1 HI1 hmk y0 y1 l5 l1
  clear o0 z0 o1 z1 o2 z2 o3 z3 o4 z4 o5 z5 o6 z6 o7 z7 o8 z8 o9 z9
  have c0 := HCB.out V2 HF2.out.bel 0 (by omega)
  have c1 := HJ1.out.cell (i := 0) (by omega)
  have cz := HJ1.out.frozen 0
  have hnz : (0 : Int) < (n : Int) := by omega
  obtain ⟨cc, hcc⟩ : ∃ cc, f 0 * fl.catch_ / 1000 = cc := ⟨_, rfl⟩
  have hcb2 : 0 ≤ cc ∧ cc ≤ f 0 := by have := Wk.caught_bounds HOK.out; unfold Wk.caught at this; rw [← hcc]; exact this
  have hf0 := hokB.out.2.2 0 (by omega)
  have hcat := hokF.out.2.2.1
  have hhe := hokF.out.1
  obtain ⟨hm0, hm1⟩ := Wk.mul_le hf0.1 hcat.1 hf0.2 hcat.2
  have hm2 : f 0 * fl.catch_ ≤ 1000000000000 := by omega
  have HCC : Hid (Wk.caught fl ⟨wt, n, f⟩ = cc) := hcc
  have HMO : Hid (0 ≤ fl.most ∧ fl.most ≤ 1000000000) := hokF.out.2.1
  have HWT : Hid (0 ≤ wt ∧ wt ≤ 1000000000) := hokB.out.1
  have HWA : Hid (0 ≤ fl.wash ∧ fl.wash ≤ 1000000) := hokF.out.2.2.2
  clear hm1 hcat
  obtain ⟨⟨y0, y1⟩, _⟩ := row2_cells HF2.out.bb
  obtain ⟨f0, f1, f2, f3⟩ := row4_cells HF2.out.bf
  obtain ⟨⟨o0, o1, o2, o3, o4⟩, o5, o6, o7, o8, o9⟩ := row10_cells HR2.out
  have z0 := HR2.out.frozen 0
  have z1 := HR2.out.frozen 1
  have z2 := HR2.out.frozen 2
  have z3 := HR2.out.frozen 3
  have z4 := HR2.out.frozen 4
  have z5 := HR2.out.frozen 5
  have z6 := HR2.out.frozen 6
  have z7 := HR2.out.frozen 7
  have z8 := HR2.out.frozen 8
  have z9 := HR2.out.frozen 9
  have dd1 : g1 ≠ b5 := by omega
  have dd2 : g1 ≠ w.heap.size := by omega
  have dd3 : g1 ≠ w.heap.size + 1 := by omega
  have dd4 : b5 ≠ w.heap.size := by omega
  have dd5 : b5 ≠ w.heap.size + 1 := by omega
  go_region
  go_wp2_with fail
  have hnz2 : 0 < n := HN1.out
  have hnz3 : (0 : Int) < (n : Int) := by omega
  go_region
  obtain ⟨V3, hV3⟩ : ∃ V3, V3 = (V2.setCell ⟨g1, 0, none⟩ (.int .i64 (f 0 - cc))).setCell ⟨b5, 0, none⟩ (.int .i64 (fl.held + cc)) := ⟨_, rfl⟩
  have hfar : ∀ q, q ≠ b5 → q ≠ g1 → V3.heap[q]? = V2.heap[q]? := fun q hq hq1 => by rw [hV3]; exact (Below.heap_setCell _ ⟨b5, 0, none⟩ _ _ hq).trans (Below.heap_setCell _ ⟨g1, 0, none⟩ _ _ hq1)
  have HF3 : Hid (FlB w fl fl.held wt (some ⟨bb, 0, none⟩) n k V3) := by show FlB _ _ _ _ _ _ _ _; rw [hV3]; exact (HF2.out.set (p := ⟨g1, 0, none⟩) (by show w.heap.size + 1 < g1; omega) _).set (p := ⟨b5, 0, none⟩) (by show w.heap.size + 1 < b5; omega) _
  have HO3 : Hid (V3.rowIs (w.heap.size + 1 + 1) 54 10 (rowL foZ)) := HO2.out.of_block (hfar _ (by omega) (by omega))
  have HR3 : Hid (V3.rowIs (b5) 54 10 (rowL [.int .i64 (fl.held + cc), .int .i64 fl.most, .int .i64 fl.catch_, .int .i64 fl.wash, .int .i64 (wt), .slice (some ⟨g1, 0, none⟩) n c, .int .i64 (0), .slice (some ⟨g2, 0, none⟩) n n, .int .i64 (0), .int .i64 0])) := by show World.rowIs _ _ _ _ _; rw [hV3]; exact fl_row_set (wrow_set HR2.out (p := ⟨g1, 0, none⟩) (by show b5 ≠ g1; omega) _) 0 (.int .i64 (fl.held + cc)) (by simp)
  have HK1 : Hid (InBlk g1 n (Wk.upd0 f (f 0 - cc)) V3) := by show InBlk _ _ _ _; rw [hV3]; exact (inBlk_set0 HJ1.out (f 0 - cc)).block (Below.heap_setCell _ ⟨b5, 0, none⟩ _ _ dd1)
  have HK2 : Hid (InBlk g2 n (fun _ => 0) V3) := HJ2.out.block (hfar _ (by omega) (by omega))
  have HV3 := Lib.hid hV3
  clear hV3 hfar
  have HC0 : Hid (0 ≤ cc) := hcb2.1
  rw [hcc]
  clear hcc hm0 hm2 c0 c1 cz hnz3 hnz2
  by_cases hov : 1000000000 < fl.held + cc
  · have hP : Hid (Wk.step fl ⟨wt, n, f⟩ = Wk.badF 5) := by show _ = _; unfold Wk.step; rw [if_pos HOK.out, HCC.out, if_pos hov]
    obtain ⟨u0, u1⟩ : 0 ≤ cc ∧ cc ≤ 1000000000 := by omega
    clear hcb2 hf0
    clear y0 y1 f1 f2 f3 o1 o2 o3 o4 o5 o6 o7 o8 o9 z1 z2 z3 z4 z5 z6 z7 z8 z9
    have p0 := HO2.out.cell (i := 0) (by omega)
    have r0 := HO2.out.frozen 0
    have p1 := HO2.out.cell (i := 1) (by omega)
    have r1 := HO2.out.frozen 1
    have p2 := HO2.out.cell (i := 2) (by omega)
    have r2 := HO2.out.frozen 2
    have p3 := HO2.out.cell (i := 3) (by omega)
    have r3 := HO2.out.frozen 3
    have p4 := HO2.out.cell (i := 4) (by omega)
    have r4 := HO2.out.frozen 4
    have p5 := HO2.out.cell (i := 5) (by omega)
    have r5 := HO2.out.frozen 5
    have p6 := HO2.out.cell (i := 6) (by omega)
    have r6 := HO2.out.frozen 6
    have p7 := HO2.out.cell (i := 7) (by omega)
    have r7 := HO2.out.frozen 7
    have p8 := HO2.out.cell (i := 8) (by omega)
    have r8 := HO2.out.frozen 8
    have p9 := HO2.out.cell (i := 9) (by omega)
    have r9 := HO2.out.frozen 9
    have dd6 : g1 ≠ w.heap.size + 1 + 1 := by omega
    have dd7 : b5 ≠ w.heap.size + 1 + 1 := by omega
    go_wp2_with fail
    rw [← HV3.out]
    clear HV3
    obtain ⟨WZ, hWZ⟩ : ∃ WZ, WZ = setAll (w.heap.size + 1 + 1) 0 (foL (Wk.badF 5) none 0 none 0) V3 := ⟨_, rfl⟩
    have hS : WZ.rowIs (w.heap.size + 1 + 1) 54 10 (rowL (foL (Wk.badF 5) none 0 none 0)) := by rw [hWZ]; exact setAll_row _ HO3.out rfl
    have hBZ : Below w.heap.size w WZ := by rw [hWZ]; exact setAll_below (by omega) _ _ _ HF3.out.bel
    have hW2 : WZ = ((((((((((V3.setCell ⟨w.heap.size + 1 + 1, 0, none⟩ (.int .i64 0)).setCell ⟨w.heap.size + 1 + 1, 1, none⟩ (.int .i64 0)).setCell ⟨w.heap.size + 1 + 1, 2, none⟩ (.int .i64 0)).setCell ⟨w.heap.size + 1 + 1, 3, none⟩ (.int .i64 0)).setCell ⟨w.heap.size + 1 + 1, 4, none⟩ (.int .i64 0)).setCell ⟨w.heap.size + 1 + 1, 5, none⟩ (.slice none 0 0)).setCell ⟨w.heap.size + 1 + 1, 6, none⟩ (.int .i64 0)).setCell ⟨w.heap.size + 1 + 1, 7, none⟩ (.slice none 0 0)).setCell ⟨w.heap.size + 1 + 1, 8, none⟩ (.int .i64 0)).setCell ⟨w.heap.size + 1 + 1, 9, none⟩ (.int .i64 5)) := hWZ
    rw [← hW2]
    clear hW2 hWZ
    refine bodyPost_ret (v := foV (Wk.badF 5) none 0 none 0) ?_ rfl ⟨by rw [hP.out]; exact FoEnd.bad _ _ _, hBZ.drew.drew⟩
    obtain ⟨⟨x0, x1, x2, x3, x4⟩, x5, x6, x7, x8, x9⟩ := row10_cells hS
    simp only [results, Tryd.results22]
    simp [go_sem, x0, x1, x2, x3, x4, x5, x6, x7, x8, x9]
  have HOV : Hid (¬ 1000000000 < fl.held + cc) := hov
  obtain ⟨u0, u1⟩ : 0 ≤ cc ∧ cc ≤ 1000000000 := by omega
  have u2 : 0 ≤ fl.held + cc := by omega
  have u3 : fl.held + cc ≤ 1000000000 := by omega
  have hmo := HMO.out
  have q0 : 0 ≤ 90 * (fl.held + cc) := by omega
  have q1 : 90 * (fl.held + cc) ≤ 90000000000 := by omega
  have q2 : (fl.most + 1 == 0) = false := by simp; omega
  have q3 : 0 < fl.most + 1 := by omega
  have q4 : 0 ≤ 90 * (fl.held + cc) / (fl.most + 1) := Int.ediv_nonneg q0 (by omega)
  have q5 : 90 * (fl.held + cc) / (fl.most + 1) ≤ 90000000000 := Int.le_trans (Int.ediv_le_self _ q0) q1
  clear hcb2 hf0
  have p0 := HO2.out.cell (i := 0) (by omega)
  have r0 := HO2.out.frozen 0
  have p1 := HO2.out.cell (i := 1) (by omega)
  have r1 := HO2.out.frozen 1
  have p2 := HO2.out.cell (i := 2) (by omega)
  have r2 := HO2.out.frozen 2
  have p3 := HO2.out.cell (i := 3) (by omega)
  have r3 := HO2.out.frozen 3
  have p4 := HO2.out.cell (i := 4) (by omega)
  have r4 := HO2.out.frozen 4
  have p5 := HO2.out.cell (i := 5) (by omega)
  have r5 := HO2.out.frozen 5
  have p6 := HO2.out.cell (i := 6) (by omega)
  have r6 := HO2.out.frozen 6
  have p7 := HO2.out.cell (i := 7) (by omega)
  have r7 := HO2.out.frozen 7
  have p8 := HO2.out.cell (i := 8) (by omega)
  have r8 := HO2.out.frozen 8
  have p9 := HO2.out.cell (i := 9) (by omega)
  have r9 := HO2.out.frozen 9
  have dd6 : g1 ≠ w.heap.size + 1 + 1 := by omega
  have dd7 : b5 ≠ w.heap.size + 1 + 1 := by omega
  by_cases hA : fl.most < fl.held + cc
  · by_cases hB : fl.wash ≤ wt
    · have HAA : Hid (Wk.step fl ⟨wt, n, f⟩ = ⟨⟨0, fl.most, fl.catch_, fl.wash⟩, ⟨wt - fl.wash, n, Wk.upd0 f (f 0 - cc)⟩, ⟨fl.wash, n, Wk.upd0 (fun _ => 0) (fl.held + cc)⟩, 10, 0⟩) := by
        show _ = _
        unfold Wk.step
        rw [if_pos HOK.out, HCC.out, if_neg HOV.out]
        unfold Wk.filt
        rw [if_pos ⟨by rw [HCC.out]; exact hA, hB⟩, HCC.out]
      have ee1 : g2 ≠ b5 := by omega
      have hwt := HWT.out
      have hwa := HWA.out
      clear q0 q1 q4 q5
      go_upto_if 65 with fail
      rw [← HV3.out]
      obtain ⟨wc, hwc⟩ : ∃ wc, wc = V3.drew.drew := ⟨_, rfl⟩
      rw [← hwc]
      have hcut : Hid (FsR w fl wt (some ⟨bb, 0, none⟩) n k b5 [.int .i64 (fl.held + cc), .int .i64 fl.most, .int .i64 fl.catch_, .int .i64 fl.wash, .int .i64 (wt), .slice (some ⟨g1, 0, none⟩) n c, .int .i64 (0), .slice (some ⟨g2, 0, none⟩) n n, .int .i64 (0), .int .i64 0] g1 (Wk.upd0 f (f 0 - cc)) g2 (fun _ => 0) wc) := by
        show FsR _ _ _ _ _ _ _ _ _ _ _ _ _
        rw [hwc]
        exact ⟨(HF3.out.below (Below.refl _ _).drew).below (Below.refl _ _).drew, HO3.out.of_block rfl, HR3.out.of_block rfl, HK1.out.block rfl, HK2.out.block rfl⟩
      clear hwc
      have hC := hcut
      clear hcut HF2 HO2 HR2 HJ1 HJ2 HF3 HO3 HR3 HK1 HK2 HV3 p0 p1 p2 p3 p4 p5 p6 p7 p8 p9 r0 r1 r2 r3 r4 r5 r6 r7 r8 r9
      clear y0 y1 f0 f1 f2 f3 o0 z0 o1 z1 o2 z2 o3 z3 o4 z4 o5 z5 o6 z6 o7 z7 o8 z8 o9 z9
      obtain ⟨⟨o0, o1, o2, o3, o4⟩, o5, o6, o7, o8, o9⟩ := row10_cells hC.out.2.2.1
      have z0 := hC.out.2.2.1.frozen 0
      have z1 := hC.out.2.2.1.frozen 1
      have z2 := hC.out.2.2.1.frozen 2
      have z3 := hC.out.2.2.1.frozen 3
      have z4 := hC.out.2.2.1.frozen 4
      have z5 := hC.out.2.2.1.frozen 5
      have z6 := hC.out.2.2.1.frozen 6
      have z7 := hC.out.2.2.1.frozen 7
      have z8 := hC.out.2.2.1.frozen 8
      have z9 := hC.out.2.2.1.frozen 9
      obtain ⟨⟨y0, y1⟩, _⟩ := row2_cells hC.out.1.bb
      obtain ⟨f0, f1, f2, f3⟩ := row4_cells hC.out.1.bf
      go_cut [] (fun W => Hid (FsR w fl wt (some ⟨bb, 0, none⟩) n k b5 [.int .i64 (fl.held + cc), .int .i64 fl.most, .int .i64 fl.catch_, .int .i64 fl.wash, .int .i64 (wt), .slice (some ⟨g1, 0, none⟩) n c, .int .i64 (0), .slice (some ⟨g2, 0, none⟩) n n, .int .i64 (0), .int .i64 0] g1 (Wk.upd0 f (f 0 - cc)) g2 (fun _ => 0) W))
      case first =>
        go_wp2_with fail
        go_meet
        case rel => exact hC
      case rest =>
        clear hC
        have hC := hcut
        clear hcut
        clear y0 y1 f0 f1 f2 f3 o0 z0 o1 z1 o2 z2 o3 z3 o4 z4 o5 z5 o6 z6 o7 z7 o8 z8 o9 z9
        obtain ⟨⟨o0, o1, o2, o3, o4⟩, o5, o6, o7, o8, o9⟩ := row10_cells hC.out.2.2.1
        have z0 := hC.out.2.2.1.frozen 0
        have z1 := hC.out.2.2.1.frozen 1
        have z2 := hC.out.2.2.1.frozen 2
        have z3 := hC.out.2.2.1.frozen 3
        have z4 := hC.out.2.2.1.frozen 4
        have z5 := hC.out.2.2.1.frozen 5
        have z6 := hC.out.2.2.1.frozen 6
        have z7 := hC.out.2.2.1.frozen 7
        have z8 := hC.out.2.2.1.frozen 8
        have z9 := hC.out.2.2.1.frozen 9
        obtain ⟨⟨y0, y1⟩, _⟩ := row2_cells hC.out.1.bb
        obtain ⟨f0, f1, f2, f3⟩ := row4_cells hC.out.1.bf
        have k2 := hC.out.2.2.2.2.cell (i := 0) (by have := HN1.out; omega)
        have kz := hC.out.2.2.2.2.frozen 0
        have hnz4 : (0 : Int) < (n : Int) := by have := HN1.out; omega
        have hnz5 : 0 < n := HN1.out
        go_upto_if 79 with fail
        go_cut [] (fun W => Hid (FsR w fl wt (some ⟨bb, 0, none⟩) n k b5 [.int .i64 (0), .int .i64 fl.most, .int .i64 fl.catch_, .int .i64 fl.wash, .int .i64 (wt - fl.wash), .slice (some ⟨g1, 0, none⟩) n c, .int .i64 (fl.wash), .slice (some ⟨g2, 0, none⟩) n n, .int .i64 (0), .int .i64 0] g1 (Wk.upd0 f (f 0 - cc)) g2 (Wk.upd0 (fun _ => 0) (fl.held + cc)) W))
        case first =>
          go_wp2_with fail
          go_meet
          case rel =>
            obtain ⟨h1, h2, h3, h4, h5⟩ := hC.out
            refine ⟨(((h1.set (p := ⟨b5, 6, none⟩) (by show w.heap.size + 1 < b5; omega) _).set (p := ⟨g2, 0, none⟩) (by show w.heap.size + 1 < g2; omega) _).set (p := ⟨b5, 4, none⟩) (by show w.heap.size + 1 < b5; omega) _).set (p := ⟨b5, 0, none⟩) (by show w.heap.size + 1 < b5; omega) _, ?_, ?_, ?_, ?_⟩
            · exact h2.of_block (by rw [Below.heap_setCell _ ⟨b5, 0, none⟩ _ _ (by show w.heap.size + 1 + 1 ≠ b5; omega), Below.heap_setCell _ ⟨b5, 4, none⟩ _ _ (by show w.heap.size + 1 + 1 ≠ b5; omega), Below.heap_setCell _ ⟨g2, 0, none⟩ _ _ (by show w.heap.size + 1 + 1 ≠ g2; omega), Below.heap_setCell _ ⟨b5, 6, none⟩ _ _ (by show w.heap.size + 1 + 1 ≠ b5; omega)])
            · exact fl_row_set (fl_row_set (wrow_set (fl_row_set h3 6 (.int .i64 fl.wash) (by simp)) (p := ⟨g2, 0, none⟩) (by show b5 ≠ g2; omega) (.int .i64 (fl.held + cc))) 4 (.int .i64 (wt - fl.wash)) (by simp)) 0 (.int .i64 0) (by simp)
            · exact h4.block (by rw [Below.heap_setCell _ ⟨b5, 0, none⟩ _ _ (by show g1 ≠ b5; omega), Below.heap_setCell _ ⟨b5, 4, none⟩ _ _ (by show g1 ≠ b5; omega), Below.heap_setCell _ ⟨g2, 0, none⟩ _ _ (by show g1 ≠ g2; omega), Below.heap_setCell _ ⟨b5, 6, none⟩ _ _ (by show g1 ≠ b5; omega)])
            · exact (inBlk_set0 (h5.block (Below.heap_setCell _ ⟨b5, 6, none⟩ (.int .i64 fl.wash) _ (by show g2 ≠ b5; omega))) (fl.held + cc)).block (by rw [Below.heap_setCell _ ⟨b5, 0, none⟩ _ _ (by show g2 ≠ b5; omega), Below.heap_setCell _ ⟨b5, 4, none⟩ _ _ (by show g2 ≠ b5; omega)])
        case rest =>
          clear hC k2 kz hnz4 hnz5
          have hC := hcut
          clear hcut
          clear y0 y1 f0 f1 f2 f3 o0 z0 o1 z1 o2 z2 o3 z3 o4 z4 o5 z5 o6 z6 o7 z7 o8 z8 o9 z9
          obtain ⟨⟨o0, o1, o2, o3, o4⟩, o5, o6, o7, o8, o9⟩ := row10_cells hC.out.2.2.1
          have z0 := hC.out.2.2.1.frozen 0
          have z1 := hC.out.2.2.1.frozen 1
          have z2 := hC.out.2.2.1.frozen 2
          have z3 := hC.out.2.2.1.frozen 3
          have z4 := hC.out.2.2.1.frozen 4
          have z5 := hC.out.2.2.1.frozen 5
          have z6 := hC.out.2.2.1.frozen 6
          have z7 := hC.out.2.2.1.frozen 7
          have z8 := hC.out.2.2.1.frozen 8
          have z9 := hC.out.2.2.1.frozen 9
          obtain ⟨⟨y0, y1⟩, _⟩ := row2_cells hC.out.1.bb
          obtain ⟨f0, f1, f2, f3⟩ := row4_cells hC.out.1.bf
          obtain ⟨V4, hV4⟩ : ∃ V4, V4 = wc.setCell ⟨b5, 8, none⟩ (.int .i64 10) := ⟨_, rfl⟩
          have HF4 : Hid (FlB w fl fl.held wt (some ⟨bb, 0, none⟩) n k V4) := by show FlB _ _ _ _ _ _ _ _; rw [hV4]; exact hC.out.1.set (p := ⟨b5, 8, none⟩) (by show w.heap.size + 1 < b5; omega) _
          have HO4 : Hid (V4.rowIs (w.heap.size + 1 + 1) 54 10 (rowL foZ)) := by show World.rowIs _ _ _ _ _; rw [hV4]; exact hC.out.2.1.of_block (Below.heap_setCell _ ⟨b5, 8, none⟩ _ _ (by show w.heap.size + 1 + 1 ≠ b5; omega))
          have HI4 : Hid (InBlk g1 n (Wk.upd0 f (f 0 - cc)) V4 ∧ InBlk g2 n (Wk.upd0 (fun _ => 0) (fl.held + cc)) V4) := by
            show _ ∧ _
            rw [hV4]
            exact ⟨hC.out.2.2.2.1.block (Below.heap_setCell _ ⟨b5, 8, none⟩ _ _ (by show g1 ≠ b5; omega)), hC.out.2.2.2.2.block (Below.heap_setCell _ ⟨b5, 8, none⟩ _ _ (by show g2 ≠ b5; omega))⟩
          obtain ⟨V5, hV5⟩ : ∃ V5, V5 = setAll (w.heap.size + 1 + 1) 0 [.int .i64 (0), .int .i64 fl.most, .int .i64 fl.catch_, .int .i64 fl.wash, .int .i64 (wt - fl.wash), .slice (some ⟨g1, 0, none⟩) n c, .int .i64 (fl.wash), .slice (some ⟨g2, 0, none⟩) n n, .int .i64 (10), .int .i64 0] V4 := ⟨_, rfl⟩
          have HR5 : Hid (V5.rowIs (w.heap.size + 1 + 1) 54 10 (rowL [.int .i64 (0), .int .i64 fl.most, .int .i64 fl.catch_, .int .i64 fl.wash, .int .i64 (wt - fl.wash), .slice (some ⟨g1, 0, none⟩) n c, .int .i64 (fl.wash), .slice (some ⟨g2, 0, none⟩) n n, .int .i64 (10), .int .i64 0])) := by show World.rowIs _ _ _ _ _; rw [hV5]; exact setAll_row _ HO4.out rfl
          have HB5' : Hid (Below w.heap.size w V5) := by show Below _ _ _; rw [hV5]; exact setAll_below (by omega) _ _ _ HF4.out.bel
          have HI5 : Hid (InBlk g1 n (Wk.upd0 f (f 0 - cc)) V5 ∧ InBlk g2 n (Wk.upd0 (fun _ => 0) (fl.held + cc)) V5) := by
            show _ ∧ _
            rw [hV5]
            exact ⟨HI4.out.1.block (setAll_far (by omega) _ _ _), HI4.out.2.block (setAll_far (by omega) _ _ _)⟩
          have hV5' : V5 = ((((((((((V4.setCell ⟨w.heap.size + 1 + 1, 0, none⟩ (.int .i64 (0))).setCell ⟨w.heap.size + 1 + 1, 1, none⟩ (.int .i64 fl.most)).setCell ⟨w.heap.size + 1 + 1, 2, none⟩ (.int .i64 fl.catch_)).setCell ⟨w.heap.size + 1 + 1, 3, none⟩ (.int .i64 fl.wash)).setCell ⟨w.heap.size + 1 + 1, 4, none⟩ (.int .i64 (wt - fl.wash))).setCell ⟨w.heap.size + 1 + 1, 5, none⟩ (.slice (some ⟨g1, 0, none⟩) n c)).setCell ⟨w.heap.size + 1 + 1, 6, none⟩ (.int .i64 (fl.wash))).setCell ⟨w.heap.size + 1 + 1, 7, none⟩ (.slice (some ⟨g2, 0, none⟩) n n)).setCell ⟨w.heap.size + 1 + 1, 8, none⟩ (.int .i64 (10))).setCell ⟨w.heap.size + 1 + 1, 9, none⟩ (.int .i64 0)) := hV5
          have HV4 := Lib.hid hV4
          have HV5 := Lib.hid hV5'
          clear hV4 hV5 hV5'
          have p0 := hC.out.2.1.cell (i := 0) (by omega)
          have r0 := hC.out.2.1.frozen 0
          have p1 := hC.out.2.1.cell (i := 1) (by omega)
          have r1 := hC.out.2.1.frozen 1
          have p2 := hC.out.2.1.cell (i := 2) (by omega)
          have r2 := hC.out.2.1.frozen 2
          have p3 := hC.out.2.1.cell (i := 3) (by omega)
          have r3 := hC.out.2.1.frozen 3
          have p4 := hC.out.2.1.cell (i := 4) (by omega)
          have r4 := hC.out.2.1.frozen 4
          have p5 := hC.out.2.1.cell (i := 5) (by omega)
          have r5 := hC.out.2.1.frozen 5
          have p6 := hC.out.2.1.cell (i := 6) (by omega)
          have r6 := hC.out.2.1.frozen 6
          have p7 := hC.out.2.1.cell (i := 7) (by omega)
          have r7 := hC.out.2.1.frozen 7
          have p8 := hC.out.2.1.cell (i := 8) (by omega)
          have r8 := hC.out.2.1.frozen 8
          have p9 := hC.out.2.1.cell (i := 9) (by omega)
          have r9 := hC.out.2.1.frozen 9
          have hq0 : (0 : Int) / (fl.most + 1) = 0 := by simp
          go_wp2_with fail
          rw [← HV4.out, ← HV5.out]
          clear HV4 HV5
          refine bodyPost_ret (v := .agg #[.int .i64 (0), .int .i64 fl.most, .int .i64 fl.catch_, .int .i64 fl.wash, .int .i64 (wt - fl.wash), .slice (some ⟨g1, 0, none⟩) n c, .int .i64 (fl.wash), .slice (some ⟨g2, 0, none⟩) n n, .int .i64 (10), .int .i64 0]) ?_ rfl ⟨⟨some ⟨g1, 0, none⟩, c, some ⟨g2, 0, none⟩, n, by rw [HAA.out], ?_⟩, HB5'.out⟩
          · obtain ⟨⟨x0, x1, x2, x3, x4⟩, x5, x6, x7, x8, x9⟩ := row10_cells HR5.out
            simp only [results, Tryd.results22]
            simp [go_sem, x0, x1, x2, x3, x4, x5, x6, x7, x8, x9]
          · rw [HAA.out]
            exact TwM.two HI5.out.1 HI5.out.2 ⟨by omega, by omega, by omega⟩ _ _
    · have HAA : Hid (Wk.step fl ⟨wt, n, f⟩ = ⟨⟨fl.held + cc, fl.most, fl.catch_, fl.wash⟩, ⟨wt, n, Wk.upd0 f (f 0 - cc)⟩, ⟨0, n, fun _ => 0⟩, 10 + 90 * (fl.held + cc) / (fl.most + 1), 0⟩) := by
        show _ = _
        unfold Wk.step
        rw [if_pos HOK.out, HCC.out, if_neg HOV.out]
        unfold Wk.filt
        rw [if_neg (fun h => hB h.2), HCC.out]
        rfl
      obtain ⟨V4, hV4⟩ : ∃ V4, V4 = (V3.setCell ⟨b5, 8, none⟩ (.int .i64 (10 + 90 * (fl.held + cc) / (fl.most + 1)))) := ⟨_, rfl⟩
      have HF4 : Hid (FlB w fl fl.held wt (some ⟨bb, 0, none⟩) n k V4) := by show FlB _ _ _ _ _ _ _ _; rw [hV4]; exact HF3.out.set (p := ⟨b5, 8, none⟩) (by show w.heap.size + 1 < b5; omega) _
      have HO4 : Hid (V4.rowIs (w.heap.size + 1 + 1) 54 10 (rowL foZ)) := by show World.rowIs _ _ _ _ _; rw [hV4]; exact HO3.out.of_block (Below.heap_setCell _ ⟨b5, 8, none⟩ _ _ (by show w.heap.size + 1 + 1 ≠ b5; omega))
      have HI4 : Hid (InBlk g1 n (Wk.upd0 f (f 0 - cc)) V4 ∧ InBlk g2 n (fun _ => 0) V4) := by
        show _ ∧ _
        rw [hV4]
        exact ⟨HK1.out.block (Below.heap_setCell _ ⟨b5, 8, none⟩ _ _ (by show g1 ≠ b5; omega)), HK2.out.block (Below.heap_setCell _ ⟨b5, 8, none⟩ _ _ (by show g2 ≠ b5; omega))⟩
      obtain ⟨V5, hV5⟩ : ∃ V5, V5 = setAll (w.heap.size + 1 + 1) 0 [.int .i64 (fl.held + cc), .int .i64 fl.most, .int .i64 fl.catch_, .int .i64 fl.wash, .int .i64 (wt), .slice (some ⟨g1, 0, none⟩) n c, .int .i64 (0), .slice (some ⟨g2, 0, none⟩) n n, .int .i64 (10 + 90 * (fl.held + cc) / (fl.most + 1)), .int .i64 0] V4 := ⟨_, rfl⟩
      have HR5 : Hid (V5.rowIs (w.heap.size + 1 + 1) 54 10 (rowL [.int .i64 (fl.held + cc), .int .i64 fl.most, .int .i64 fl.catch_, .int .i64 fl.wash, .int .i64 (wt), .slice (some ⟨g1, 0, none⟩) n c, .int .i64 (0), .slice (some ⟨g2, 0, none⟩) n n, .int .i64 (10 + 90 * (fl.held + cc) / (fl.most + 1)), .int .i64 0])) := by show World.rowIs _ _ _ _ _; rw [hV5]; exact setAll_row _ HO4.out rfl
      have HB5' : Hid (Below w.heap.size w V5) := by show Below _ _ _; rw [hV5]; exact setAll_below (by omega) _ _ _ HF4.out.bel
      have HI5 : Hid (InBlk g1 n (Wk.upd0 f (f 0 - cc)) V5 ∧ InBlk g2 n (fun _ => 0) V5) := by
        show _ ∧ _
        rw [hV5]
        exact ⟨HI4.out.1.block (setAll_far (by omega) _ _ _), HI4.out.2.block (setAll_far (by omega) _ _ _)⟩
      have hV5' : V5 = ((((((((((V4.setCell ⟨w.heap.size + 1 + 1, 0, none⟩ (.int .i64 (fl.held + cc))).setCell ⟨w.heap.size + 1 + 1, 1, none⟩ (.int .i64 fl.most)).setCell ⟨w.heap.size + 1 + 1, 2, none⟩ (.int .i64 fl.catch_)).setCell ⟨w.heap.size + 1 + 1, 3, none⟩ (.int .i64 fl.wash)).setCell ⟨w.heap.size + 1 + 1, 4, none⟩ (.int .i64 (wt))).setCell ⟨w.heap.size + 1 + 1, 5, none⟩ (.slice (some ⟨g1, 0, none⟩) n c)).setCell ⟨w.heap.size + 1 + 1, 6, none⟩ (.int .i64 (0))).setCell ⟨w.heap.size + 1 + 1, 7, none⟩ (.slice (some ⟨g2, 0, none⟩) n n)).setCell ⟨w.heap.size + 1 + 1, 8, none⟩ (.int .i64 (10 + 90 * (fl.held + cc) / (fl.most + 1)))).setCell ⟨w.heap.size + 1 + 1, 9, none⟩ (.int .i64 0)) := hV5
      have HV4 := Lib.hid hV4
      have HV5 := Lib.hid hV5'
      clear hV4 hV5 hV5'
      go_wp2_with fail
      rw [← HV3.out, ← HV4.out, ← HV5.out]
      clear HV3 HV4 HV5
      refine bodyPost_ret (v := .agg #[.int .i64 (fl.held + cc), .int .i64 fl.most, .int .i64 fl.catch_, .int .i64 fl.wash, .int .i64 (wt), .slice (some ⟨g1, 0, none⟩) n c, .int .i64 (0), .slice (some ⟨g2, 0, none⟩) n n, .int .i64 (10 + 90 * (fl.held + cc) / (fl.most + 1)), .int .i64 0]) ?_ rfl ⟨⟨some ⟨g1, 0, none⟩, c, some ⟨g2, 0, none⟩, n, by rw [HAA.out], ?_⟩, HB5'.out.drew.drew⟩
      · obtain ⟨⟨x0, x1, x2, x3, x4⟩, x5, x6, x7, x8, x9⟩ := row10_cells HR5.out
        simp only [results, Tryd.results22]
        simp [go_sem, x0, x1, x2, x3, x4, x5, x6, x7, x8, x9]
      · rw [HAA.out]
        exact TwM.two (W := V5.drew.drew) (HI5.out.1.block rfl) (HI5.out.2.block rfl) ⟨by omega, by omega, by omega⟩ _ _
  · have HAA : Hid (Wk.step fl ⟨wt, n, f⟩ = ⟨⟨fl.held + cc, fl.most, fl.catch_, fl.wash⟩, ⟨wt, n, Wk.upd0 f (f 0 - cc)⟩, ⟨0, n, fun _ => 0⟩, 10 + 90 * (fl.held + cc) / (fl.most + 1), 0⟩) := by
      show _ = _
      unfold Wk.step
      rw [if_pos HOK.out, HCC.out, if_neg HOV.out]
      unfold Wk.filt
      rw [if_neg (fun h => hA (by have := h.1; rwa [HCC.out] at this)), HCC.out]
      rfl
    obtain ⟨V4, hV4⟩ : ∃ V4, V4 = (V3.setCell ⟨b5, 8, none⟩ (.int .i64 (10 + 90 * (fl.held + cc) / (fl.most + 1)))) := ⟨_, rfl⟩
    have HF4 : Hid (FlB w fl fl.held wt (some ⟨bb, 0, none⟩) n k V4) := by show FlB _ _ _ _ _ _ _ _; rw [hV4]; exact HF3.out.set (p := ⟨b5, 8, none⟩) (by show w.heap.size + 1 < b5; omega) _
    have HO4 : Hid (V4.rowIs (w.heap.size + 1 + 1) 54 10 (rowL foZ)) := by show World.rowIs _ _ _ _ _; rw [hV4]; exact HO3.out.of_block (Below.heap_setCell _ ⟨b5, 8, none⟩ _ _ (by show w.heap.size + 1 + 1 ≠ b5; omega))
    have HI4 : Hid (InBlk g1 n (Wk.upd0 f (f 0 - cc)) V4 ∧ InBlk g2 n (fun _ => 0) V4) := by
      show _ ∧ _
      rw [hV4]
      exact ⟨HK1.out.block (Below.heap_setCell _ ⟨b5, 8, none⟩ _ _ (by show g1 ≠ b5; omega)), HK2.out.block (Below.heap_setCell _ ⟨b5, 8, none⟩ _ _ (by show g2 ≠ b5; omega))⟩
    obtain ⟨V5, hV5⟩ : ∃ V5, V5 = setAll (w.heap.size + 1 + 1) 0 [.int .i64 (fl.held + cc), .int .i64 fl.most, .int .i64 fl.catch_, .int .i64 fl.wash, .int .i64 (wt), .slice (some ⟨g1, 0, none⟩) n c, .int .i64 (0), .slice (some ⟨g2, 0, none⟩) n n, .int .i64 (10 + 90 * (fl.held + cc) / (fl.most + 1)), .int .i64 0] V4 := ⟨_, rfl⟩
    have HR5 : Hid (V5.rowIs (w.heap.size + 1 + 1) 54 10 (rowL [.int .i64 (fl.held + cc), .int .i64 fl.most, .int .i64 fl.catch_, .int .i64 fl.wash, .int .i64 (wt), .slice (some ⟨g1, 0, none⟩) n c, .int .i64 (0), .slice (some ⟨g2, 0, none⟩) n n, .int .i64 (10 + 90 * (fl.held + cc) / (fl.most + 1)), .int .i64 0])) := by show World.rowIs _ _ _ _ _; rw [hV5]; exact setAll_row _ HO4.out rfl
    have HB5' : Hid (Below w.heap.size w V5) := by show Below _ _ _; rw [hV5]; exact setAll_below (by omega) _ _ _ HF4.out.bel
    have HI5 : Hid (InBlk g1 n (Wk.upd0 f (f 0 - cc)) V5 ∧ InBlk g2 n (fun _ => 0) V5) := by
      show _ ∧ _
      rw [hV5]
      exact ⟨HI4.out.1.block (setAll_far (by omega) _ _ _), HI4.out.2.block (setAll_far (by omega) _ _ _)⟩
    have hV5' : V5 = ((((((((((V4.setCell ⟨w.heap.size + 1 + 1, 0, none⟩ (.int .i64 (fl.held + cc))).setCell ⟨w.heap.size + 1 + 1, 1, none⟩ (.int .i64 fl.most)).setCell ⟨w.heap.size + 1 + 1, 2, none⟩ (.int .i64 fl.catch_)).setCell ⟨w.heap.size + 1 + 1, 3, none⟩ (.int .i64 fl.wash)).setCell ⟨w.heap.size + 1 + 1, 4, none⟩ (.int .i64 (wt))).setCell ⟨w.heap.size + 1 + 1, 5, none⟩ (.slice (some ⟨g1, 0, none⟩) n c)).setCell ⟨w.heap.size + 1 + 1, 6, none⟩ (.int .i64 (0))).setCell ⟨w.heap.size + 1 + 1, 7, none⟩ (.slice (some ⟨g2, 0, none⟩) n n)).setCell ⟨w.heap.size + 1 + 1, 8, none⟩ (.int .i64 (10 + 90 * (fl.held + cc) / (fl.most + 1)))).setCell ⟨w.heap.size + 1 + 1, 9, none⟩ (.int .i64 0)) := hV5
    have HV4 := Lib.hid hV4
    have HV5 := Lib.hid hV5'
    clear hV4 hV5 hV5'
    go_wp2_with fail
    rw [← HV3.out, ← HV4.out, ← HV5.out]
    clear HV3 HV4 HV5
    refine bodyPost_ret (v := .agg #[.int .i64 (fl.held + cc), .int .i64 fl.most, .int .i64 fl.catch_, .int .i64 fl.wash, .int .i64 (wt), .slice (some ⟨g1, 0, none⟩) n c, .int .i64 (0), .slice (some ⟨g2, 0, none⟩) n n, .int .i64 (10 + 90 * (fl.held + cc) / (fl.most + 1)), .int .i64 0]) ?_ rfl ⟨⟨some ⟨g1, 0, none⟩, c, some ⟨g2, 0, none⟩, n, by rw [HAA.out], ?_⟩, HB5'.out.drew.drew⟩
    · obtain ⟨⟨x0, x1, x2, x3, x4⟩, x5, x6, x7, x8, x9⟩ := row10_cells HR5.out
      simp only [results, Tryd.results22]
      simp [go_sem, x0, x1, x2, x3, x4, x5, x6, x7, x8, x9]
    · rw [HAA.out]
      exact TwM.two (W := V5.drew.drew) (HI5.out.1.block rfl) (HI5.out.2.block rfl) ⟨by omega, by omega, by omega⟩ _ _
end Go.Proofs.YtcjeieagpcphjaaDoor
