/-
  The laws' conversion of a filter, comparison and marks of what a filter tells.
-/
import Derived.Test.YtoeibcmmpbkbpaaDoorWkFl1
namespace Go.Proofs.YtoeibcmmpbkbpaaDoor
open Go.RowKit Go.Deep

theorem fo_row (w : World) (A : Wk.FO) (ax : Option Addr) (kx : Nat) (ay : Option Addr) (ky : Nat) : (w.alloc (foO A ax kx ay ky)).rowIs w.heap.size 87 10 (rowL (foL A ax kx ay ky)) := rowL_alloc w (foL A ax kx ay ky) 87
theorem row4_sets {w : World} {g : Nat} {t : TypeId} {F : Nat → Value} (h : w.rowIs g t 4 F) (a b c d : Value) : (setAll g 0 [a, b, c, d] w).rowIs g t 4 (rowL [a, b, c, d]) := setAll_row [a, b, c, d] h rfl
set_option maxRecDepth 100000 in
set_option maxHeartbeats 4000000 in
theorem toFilter_any (fl : Wk.Fl) (w : World) :
    Calls Tryd.prog 50 #[flV fl] w fun e w' => e = .returned (flV fl) ∧ Below w.heap.size w w' := by
  obtain ⟨W, hW⟩ : ∃ W, W = ((w.alloc (.cells #[.int .i64 fl.held, .int .i64 fl.most, .int .i64 fl.catch_, .int .i64 fl.wash] 85)).alloc (.cells #[.int .i64 0, .int .i64 0, .int .i64 0, .int .i64 0] 63)).alloc (.cells #[.int .i64 0, .int .i64 0, .int .i64 0, .int .i64 0] 63) := ⟨_, rfl⟩
  have HB : Hid (Below w.heap.size w W) := by show Below _ _ _; rw [hW]; exact (((Below.refl _ _).alloc (Nat.le_refl _) _).alloc (by simp) _).alloc (by simp; omega) _
  clear hW
  go_enter Tryd.func50, Tryd.ntmps50
  go_wp2_with fail
  refine bodyPost_ret (v := flV fl) ?_ rfl ⟨rfl, ?_⟩
  · simp [results, Tryd.results50, go_sem]
  · exact (((Below.refl _ _).alloc (Nat.le_refl _) _).alloc (by simp) _).alloc (by simp; omega) _
set_option maxRecDepth 100000 in
set_option maxHeartbeats 4000000 in
theorem eqFilter_same (fl : Wk.Fl) (w : World) :
    Calls Tryd.prog 100 #[flV fl, flV fl] w fun e w' => e = .returned (.bool true) ∧ Below w.heap.size w w' := by
  go_enter Tryd.func100, Tryd.ntmps100
  go_wp2_with fail
  go_ret
  exact ⟨rfl, ((Below.refl _ _).alloc (Nat.le_refl _) _).alloc (by simp) _⟩
set_option maxRecDepth 100000 in
set_option maxHeartbeats 4000000 in
theorem eqFo_same (A : Wk.FO) (ax ay bx by_ : Option Addr) (kx ky jx jy : Nat) (w : World) (h1 : IntsAt ax A.clean.n A.clean.f w) (h2 : IntsAt ay A.waste.n A.waste.f w) (h3 : IntsAt bx A.clean.n A.clean.f w) (h4 : IntsAt by_ A.waste.n A.waste.f w) (hx : A.clean.n ≤ 1048576) (hy : A.waste.n ≤ 1048576) :
    Calls Tryd.prog 52 #[foV A ax kx ay ky, foV A bx jx by_ jy] w fun e w' => e = .returned (.bool true) ∧ Below w.heap.size w w' := by
  obtain ⟨W, hW⟩ : ∃ W, W = (w.alloc (foO A ax kx ay ky)).alloc (foO A bx jx by_ jy) := ⟨_, rfl⟩
  have hB : Below w.heap.size w W := by rw [hW]; exact ((Below.refl _ _).alloc (Nat.le_refl _) _).alloc (by simp) _
  have RX : W.rowIs w.heap.size 87 10 (rowL (foL A ax kx ay ky)) := by rw [hW]; exact wrow_below (fo_row w A ax kx ay ky) (bel_alloc _ _)
  have RY : W.rowIs (w.heap.size + 1) 87 10 (rowL (foL A bx jx by_ jy)) := by
    rw [hW]
    have := fo_row (w.alloc (foO A ax kx ay ky)) A bx jx by_ jy
    rwa [World.size_alloc] at this
  have HW := Lib.hid hW
  have HB := Lib.hid hB
  have HRX := Lib.hid RX
  have HRY := Lib.hid RY
  have H1 := Lib.hid h1
  have H2 := Lib.hid h2
  have H3 := Lib.hid h3
  have H4 := Lib.hid h4
  clear hW hB RX RY h1 h2 h3 h4
  go_enter Tryd.func52, Tryd.ntmps52
  go_wp2_with fail
  rw [← HW.out]
  refine (eqFilter_same A.f _).mono ?_
  rintro e w0 ⟨rfl, hb⟩
  replace HB : Hid (Below w.heap.size w w0) := HB.out.trans (hb.mono HB.out.size)
  replace HRX := Lib.hid (wrow_below HRX.out hb)
  replace HRY := Lib.hid (wrow_below HRY.out hb)
  clear hb HW
  obtain ⟨⟨x0, x1, x2, x3, x4⟩, x5, x6, x7, x8, x9⟩ := row10_cells HRX.out
  obtain ⟨⟨y0, y1, y2, y3, y4⟩, y5, y6, y7, y8, y9⟩ := row10_cells HRY.out
  go_wp2_with fail
  clear x0 y0 x1 y1 x2 y2 x3 y3 x4 y4 x5 y5 x6 y6 x7 y7 x8 y8 x9 y9
  refine (eqBatch_same A.clean.wt ax bx A.clean.n kx jx A.clean.f _ (H1.out.below HB.out) (H3.out.below HB.out) hx).mono ?_
  rintro e w1 ⟨rfl, hb⟩
  have HB1 : Hid (Below w.heap.size w w1) := HB.out.trans (hb.mono HB.out.size)
  have HX1 := Lib.hid (wrow_below HRX.out hb)
  have HY1 := Lib.hid (wrow_below HRY.out hb)
  clear hb
  obtain ⟨⟨x0, x1, x2, x3, x4⟩, x5, x6, x7, x8, x9⟩ := row10_cells HX1.out
  obtain ⟨⟨y0, y1, y2, y3, y4⟩, y5, y6, y7, y8, y9⟩ := row10_cells HY1.out
  go_wp2_with fail
  refine (eqBatch_same A.waste.wt ay by_ A.waste.n ky jy A.waste.f _ (H2.out.below HB1.out) (H4.out.below HB1.out) hy).mono ?_
  rintro e w2 ⟨rfl, hb⟩
  have HB2 : Hid (Below w.heap.size w w2) := HB1.out.trans (hb.mono HB1.out.size)
  have HX2 := Lib.hid (wrow_below HX1.out hb)
  have HY2 := Lib.hid (wrow_below HY1.out hb)
  clear hb x0 y0 x1 y1 x2 y2 x3 y3 x4 y4 x5 y5 x6 y6 x7 y7 x8 y8 x9 y9
  obtain ⟨⟨x0, x1, x2, x3, x4⟩, x5, x6, x7, x8, x9⟩ := row10_cells HX2.out
  obtain ⟨⟨y0, y1, y2, y3, y4⟩, y5, y6, y7, y8, y9⟩ := row10_cells HY2.out
  go_wp2_with fail
  go_ret
  exact ⟨rfl, HB2.out⟩
set_option maxRecDepth 100000 in
set_option maxHeartbeats 4000000 in
theorem markFo_any (lo hi : Nat) (A : Wk.FO) (ax ay : Option Addr) (kx ky : Nat) (w : World) (h : TwM lo hi ax A.clean.n kx A.clean.f ay A.waste.n ky A.waste.f w) (hx : A.clean.n ≤ 1048576) (hy : A.waste.n ≤ 1048576) :
    Calls Tryd.prog 53 #[foV A ax kx ay ky, .int .i64 1] w fun e w' => e = .returned (.int .i64 ((1 + A.clean.n + A.waste.n : Nat) : Int)) ∧ (MkA ax A.clean.n kx 1 w' ∧ MkA ay A.waste.n ky (1 + A.clean.n) w') ∧ OnlyP (fun g => atP ax g ∨ atP ay g) w w' := by
  obtain ⟨W, hW⟩ : ∃ W, W = w.alloc (foO A ax kx ay ky) := ⟨_, rfl⟩
  have hB : Below w.heap.size w W := by rw [hW]; exact (Below.refl _ _).alloc (Nat.le_refl _) _
  have RX : W.rowIs w.heap.size 87 10 (rowL (foL A ax kx ay ky)) := by rw [hW]; exact fo_row w A ax kx ay ky
  have hbd : ∀ g, (atP ax g ∨ atP ay g) → g < w.heap.size := fun g hg => by
    rcases hg with hg | hg
    · rcases h.px with ⟨e, _⟩ | ⟨g', e, _, hb⟩
      · rw [e] at hg; cases hg
      · rw [e] at hg; unfold atP at hg; simp at hg; have := hb.lt; omega
    · rcases h.py with ⟨e, _⟩ | ⟨g', e, _, hb⟩
      · rw [e] at hg; cases hg
      · rw [e] at hg; unfold atP at hg; simp at hg; have := hb.lt; omega
  have HBD := Lib.hid hbd
  have HW := Lib.hid hW
  have HB := Lib.hid hB
  have HRX := Lib.hid RX
  have H := Lib.hid (h.below hB)
  clear hW hB RX h hbd
  go_enter Tryd.func53, Tryd.ntmps53
  go_wp2_with fail
  rw [← HW.out]
  refine (markBatch_any lo hi A.clean.wt ax A.clean.n kx 1 A.clean.f _ H.out.px hx (by omega)).mono ?_
  rintro e w1 ⟨rfl, hm1, ho1⟩
  have HM1 := Lib.hid hm1
  have HO1 := Lib.hid ho1
  have HY1 : Hid (PtM lo hi ay A.waste.n ky A.waste.f w1) := by
    rcases H.out.py with h | ⟨g, e, hg, hb⟩
    · exact Or.inl h
    · exact Or.inr ⟨g, e, hg, hb.block (ho1.block g hb.lt (fun h => H.out.ne g h e))⟩
  have HX1 := Lib.hid (HRX.out.of_block (ho1.block _ HRX.out.lt (fun h => by have := HBD.out _ (Or.inl h); omega)))
  obtain ⟨⟨x0, x1, x2, x3, x4⟩, x5, x6, x7, x8, x9⟩ := row10_cells HX1.out
  clear hm1 ho1
  go_wp2_with fail
  refine (markBatch_any lo hi A.waste.wt ay A.waste.n ky (1 + A.clean.n) A.waste.f _ HY1.out hy (by omega)).mono ?_
  rintro e w2 ⟨rfl, hm2, ho2⟩
  have HM2 := Lib.hid hm2
  have HM12 : Hid (MkA ax A.clean.n kx 1 w2) := HM1.out.same (fun g hg hl => ho2.block g hl (fun h => H.out.ne g hg h))
  have HO : Hid (OnlyP (fun g => atP ax g ∨ atP ay g) w w2) := ((OnlyP.of_below HB.out).trans (HO1.out.mono (fun _ h => Or.inl h))).trans (ho2.mono (fun _ h => Or.inr h))
  clear hm2 ho2
  go_wp2_with fail
  go_ret
  exact ⟨rfl, ⟨HM12.out, HM2.out⟩, HO.out⟩
set_option maxRecDepth 100000 in
set_option maxHeartbeats 4000000 in
theorem heldFo_any (A : Wk.FO) (ax ay : Option Addr) (kx ky : Nat) (w : World) (h1 : MkA ax A.clean.n kx 1 w) (h2 : MkA ay A.waste.n ky (1 + A.clean.n) w) (hx : A.clean.n ≤ 1048576) (hy : A.waste.n ≤ 1048576) :
    Calls Tryd.prog 54 #[foV A ax kx ay ky, .int .i64 1] w fun e w' => e = .returned (.int .i64 ((1 + A.clean.n + A.waste.n : Nat) : Int)) ∧ Below w.heap.size w w' := by
  obtain ⟨W, hW⟩ : ∃ W, W = w.alloc (foO A ax kx ay ky) := ⟨_, rfl⟩
  have hB : Below w.heap.size w W := by rw [hW]; exact (Below.refl _ _).alloc (Nat.le_refl _) _
  have RX : W.rowIs w.heap.size 87 10 (rowL (foL A ax kx ay ky)) := by rw [hW]; exact fo_row w A ax kx ay ky
  have HW := Lib.hid hW
  have HB := Lib.hid hB
  have HRX := Lib.hid RX
  have H1 := Lib.hid (h1.same (fun g _ hl => hB.block g hl))
  have H2 := Lib.hid (h2.same (fun g _ hl => hB.block g hl))
  have z1 : ¬ ((1 + A.clean.n : Nat) : Int) < 0 := by omega
  have z2 : ¬ ((1 + A.clean.n + A.waste.n : Nat) : Int) < 0 := by omega
  clear hW hB RX h1 h2
  go_enter Tryd.func54, Tryd.ntmps54
  go_wp2_with fail
  rw [← HW.out]
  refine (heldBatch_any A.clean.wt ax A.clean.n kx 1 _ H1.out hx (by omega)).mono ?_
  rintro e w1 ⟨rfl, hb⟩
  have HB1 : Hid (Below w.heap.size w w1) := HB.out.trans (hb.mono HB.out.size)
  have HX1 := Lib.hid (wrow_below HRX.out hb)
  have H21 := Lib.hid (H2.out.same (fun g _ hl => hb.block g hl))
  obtain ⟨⟨x0, x1, x2, x3, x4⟩, x5, x6, x7, x8, x9⟩ := row10_cells HX1.out
  clear hb
  go_wp2_with fail
  refine (heldBatch_any A.waste.wt ay A.waste.n ky (1 + A.clean.n) _ H21.out hy (by omega)).mono ?_
  rintro e w2 ⟨rfl, hb⟩
  have HB2 : Hid (Below w.heap.size w w2) := HB1.out.trans (hb.mono HB1.out.size)
  clear hb
  go_wp2_with fail
  go_ret
  exact ⟨rfl, HB2.out⟩
/-- An answer of two batches, laid in a box. -/
structure FoM (lo hi : Nat) (A : Wk.FO) (ax : Option Addr) (kx : Nat) (ay : Option Addr) (ky : Nat) (gb : Nat) (W : World) : Prop where
  row : W.rowIs gb 87 10 (rowL (foL A ax kx ay ky))
  two : TwM lo hi ax A.clean.n kx A.clean.f ay A.waste.n ky A.waste.f W
  bd : lo ≤ gb ∧ gb < hi
  far : ∀ g, (atP ax g ∨ atP ay g) → g ≠ gb
theorem FoM.same {lo hi : Nat} {A : Wk.FO} {ax : Option Addr} {kx : Nat} {ay : Option Addr} {ky gb : Nat} {W W' : World} (h : FoM lo hi A ax kx ay ky gb W) (hb : ∀ g, lo ≤ g → g < hi → g < W.heap.size → W'.heap[g]? = W.heap[g]?) : FoM lo hi A ax kx ay ky gb W' := ⟨h.row.of_block (hb _ h.bd.1 h.bd.2 h.row.lt), h.two.same hb, h.bd, h.far⟩
theorem FoM.below {lo hi : Nat} {A : Wk.FO} {ax : Option Addr} {kx : Nat} {ay : Option Addr} {ky gb : Nat} {W W' : World} (h : FoM lo hi A ax kx ay ky gb W) (hb : Below W.heap.size W W') : FoM lo hi A ax kx ay ky gb W' := h.same (fun g _ _ hl => hb.block g hl)
theorem foM_of {lo : Nat} {A : Wk.FO} {ax : Option Addr} {kx : Nat} {ay : Option Addr} {ky : Nat} {W : World} (h : TwM lo W.heap.size ax A.clean.n kx A.clean.f ay A.waste.n ky A.waste.f W) (hl : lo ≤ W.heap.size) : FoM lo (W.heap.size + 1) A ax kx ay ky W.heap.size (W.alloc (foO A ax kx ay ky)) :=
  ⟨fo_row W A ax kx ay ky, (h.below (bel_alloc _ _)).mono (Nat.le_refl _) (by omega), ⟨hl, by omega⟩, fun g hg => by
    rcases hg with hg | hg
    · have := h.px.atp hg; omega
    · have := h.py.atp hg; omega⟩
end Go.Proofs.YtoeibcmmpbkbpaaDoor
