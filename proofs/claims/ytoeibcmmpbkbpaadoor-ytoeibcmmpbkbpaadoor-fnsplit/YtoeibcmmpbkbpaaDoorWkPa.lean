/-
  The laws' comparison and marks of two batches and a code.
-/
import Derived.Test.YtoeibcmmpbkbpaaDoorWkSp
namespace Go.Proofs.YtoeibcmmpbkbpaaDoor
open Go.RowKit Go.Deep

abbrev paL (A : Wk.PA) (ax : Option Addr) (kx : Nat) (ay : Option Addr) (ky : Nat) : List Value := [.int .i64 A.x.wt, .slice ax A.x.n kx, .int .i64 A.y.wt, .slice ay A.y.n ky, .int .i64 A.c]
abbrev paO (A : Wk.PA) (ax : Option Addr) (kx : Nat) (ay : Option Addr) (ky : Nat) : Obj := .cells #[.int .i64 A.x.wt, .slice ax A.x.n kx, .int .i64 A.y.wt, .slice ay A.y.n ky, .int .i64 A.c] 53
theorem row5_cells {w : World} {g : Nat} {t : TypeId} {x0 x1 x2 x3 x4 : Value} (h : w.rowIs g t 5 (rowL [x0, x1, x2, x3, x4])) : w.cell? ⟨g, 0, none⟩ = some x0 ∧ w.cell? ⟨g, 1, none⟩ = some x1 ∧ w.cell? ⟨g, 2, none⟩ = some x2 ∧ w.cell? ⟨g, 3, none⟩ = some x3 ∧ w.cell? ⟨g, 4, none⟩ = some x4 :=
  ⟨h.cell (i := 0) (by omega), h.cell (i := 1) (by omega), h.cell (i := 2) (by omega), h.cell (i := 3) (by omega), h.cell (i := 4) (by omega)⟩
theorem pa_row (w : World) (A : Wk.PA) (ax : Option Addr) (kx : Nat) (ay : Option Addr) (ky : Nat) : (w.alloc (paO A ax kx ay ky)).rowIs w.heap.size 53 5 (rowL (paL A ax kx ay ky)) := rowL_alloc w (paL A ax kx ay ky) 53
set_option maxRecDepth 100000 in
set_option maxHeartbeats 4000000 in
theorem eqPair_same (A : Wk.PA) (ax ay bx by_ : Option Addr) (kx ky jx jy : Nat) (w : World) (h1 : IntsAt ax A.x.n A.x.f w) (h2 : IntsAt ay A.y.n A.y.f w) (h3 : IntsAt bx A.x.n A.x.f w) (h4 : IntsAt by_ A.y.n A.y.f w) (hx : A.x.n ≤ 1048576) (hy : A.y.n ≤ 1048576) :
    Calls Tryd.prog 37 #[paV A ax kx ay ky, paV A bx jx by_ jy] w fun e w' => e = .returned (.bool true) ∧ Below w.heap.size w w' := by
  obtain ⟨W, hW⟩ : ∃ W, W = (w.alloc (paO A ax kx ay ky)).alloc (paO A bx jx by_ jy) := ⟨_, rfl⟩
  have hB : Below w.heap.size w W := by rw [hW]; exact ((Below.refl _ _).alloc (Nat.le_refl _) _).alloc (by simp) _
  have RX : W.rowIs w.heap.size 53 5 (rowL (paL A ax kx ay ky)) := by rw [hW]; exact wrow_below (pa_row w A ax kx ay ky) (bel_alloc _ _)
  have RY : W.rowIs (w.heap.size + 1) 53 5 (rowL (paL A bx jx by_ jy)) := by
    rw [hW]
    have := pa_row (w.alloc (paO A ax kx ay ky)) A bx jx by_ jy
    rwa [World.size_alloc] at this
  have HW := Lib.hid hW
  have HB := Lib.hid hB
  have HRX := Lib.hid RX
  have HRY := Lib.hid RY
  have H1 := Lib.hid h1
  have H2 := Lib.hid h2
  have H3 := Lib.hid h3
  have H4 := Lib.hid h4
  clear hW hB RX RY h1 h2 h3 h4
  go_enter Tryd.func37, Tryd.ntmps37
  go_wp2_with fail
  rw [← HW.out]
  refine (eqBatch_same A.x.wt ax bx A.x.n kx jx A.x.f _ (H1.out.below HB.out) (H3.out.below HB.out) hx).mono ?_
  rintro e w1 ⟨rfl, hb⟩
  have HB1 : Hid (Below w.heap.size w w1) := HB.out.trans (hb.mono HB.out.size)
  have HX1 := Lib.hid (wrow_below HRX.out hb)
  have HY1 := Lib.hid (wrow_below HRY.out hb)
  clear hb
  obtain ⟨x0, x1, x2, x3, x4⟩ := row5_cells HX1.out
  obtain ⟨y0, y1, y2, y3, y4⟩ := row5_cells HY1.out
  go_wp2_with fail
  refine (eqBatch_same A.y.wt ay by_ A.y.n ky jy A.y.f _ (H2.out.below HB1.out) (H4.out.below HB1.out) hy).mono ?_
  rintro e w2 ⟨rfl, hb⟩
  have HB2 : Hid (Below w.heap.size w w2) := HB1.out.trans (hb.mono HB1.out.size)
  have HX2 := Lib.hid (wrow_below HX1.out hb)
  have HY2 := Lib.hid (wrow_below HY1.out hb)
  clear hb x0 x1 x2 x3 x4 y0 y1 y2 y3 y4
  obtain ⟨x0, x1, x2, x3, x4⟩ := row5_cells HX2.out
  obtain ⟨y0, y1, y2, y3, y4⟩ := row5_cells HY2.out
  go_wp2_with fail
  go_ret
  exact ⟨rfl, HB2.out⟩
set_option maxRecDepth 100000 in
set_option maxHeartbeats 4000000 in
theorem markPair_any (lo hi : Nat) (A : Wk.PA) (ax ay : Option Addr) (kx ky : Nat) (w : World) (h : TwM lo hi ax A.x.n kx A.x.f ay A.y.n ky A.y.f w) (hx : A.x.n ≤ 1048576) (hy : A.y.n ≤ 1048576) :
    Calls Tryd.prog 40 #[paV A ax kx ay ky, .int .i64 1] w fun e w' => e = .returned (.int .i64 ((1 + A.x.n + A.y.n : Nat) : Int)) ∧ (MkA ax A.x.n kx 1 w' ∧ MkA ay A.y.n ky (1 + A.x.n) w') ∧ OnlyP (fun g => atP ax g ∨ atP ay g) w w' := by
  obtain ⟨W, hW⟩ : ∃ W, W = w.alloc (paO A ax kx ay ky) := ⟨_, rfl⟩
  have hB : Below w.heap.size w W := by rw [hW]; exact (Below.refl _ _).alloc (Nat.le_refl _) _
  have RX : W.rowIs w.heap.size 53 5 (rowL (paL A ax kx ay ky)) := by rw [hW]; exact pa_row w A ax kx ay ky
  have hbd : ∀ g, (atP ax g ∨ atP ay g) → g < w.heap.size := fun g hg => by
    rcases hg with hg | hg
    · rcases h.px with ⟨e, _⟩ | ⟨g', e, _, hb⟩
      · rw [e] at hg; cases hg
      · rw [e] at hg; unfold atP at hg; simp at hg; have := hb.lt; omega
    · rcases h.py with ⟨e, _⟩ | ⟨g', e, _, hb⟩
      · rw [e] at hg; cases hg
      · rw [e] at hg; unfold atP at hg; simp at hg; have := hb.lt; omega
  have HBD := Lib.hid hbd
  have HW := Lib.hid hW
  have HB := Lib.hid hB
  have HRX := Lib.hid RX
  have H := Lib.hid (h.below hB)
  clear hW hB RX h hbd
  go_enter Tryd.func40, Tryd.ntmps40
  go_wp2_with fail
  rw [← HW.out]
  refine (markBatch_any lo hi A.x.wt ax A.x.n kx 1 A.x.f _ H.out.px hx (by omega)).mono ?_
  rintro e w1 ⟨rfl, hm1, ho1⟩
  have HM1 := Lib.hid hm1
  have HO1 := Lib.hid ho1
  have HY1 : Hid (PtM lo hi ay A.y.n ky A.y.f w1) := by
    rcases H.out.py with h | ⟨g, e, hg, hb⟩
    · exact Or.inl h
    · exact Or.inr ⟨g, e, hg, hb.block (ho1.block g hb.lt (fun h => H.out.ne g h e))⟩
  have HX1 := Lib.hid (HRX.out.of_block (ho1.block _ HRX.out.lt (fun h => by have := HBD.out _ (Or.inl h); omega)))
  obtain ⟨x0, x1, x2, x3, x4⟩ := row5_cells HX1.out
  clear hm1 ho1
  go_wp2_with fail
  refine (markBatch_any lo hi A.y.wt ay A.y.n ky (1 + A.x.n) A.y.f _ HY1.out hy (by omega)).mono ?_
  rintro e w2 ⟨rfl, hm2, ho2⟩
  have HM2 := Lib.hid hm2
  have HM12 : Hid (MkA ax A.x.n kx 1 w2) := HM1.out.same (fun g hg hl => ho2.block g hl (fun h => H.out.ne g hg h))
  have HO : Hid (OnlyP (fun g => atP ax g ∨ atP ay g) w w2) := ((OnlyP.of_below HB.out).trans (HO1.out.mono (fun _ h => Or.inl h))).trans (ho2.mono (fun _ h => Or.inr h))
  clear hm2 ho2
  go_wp2_with fail
  go_ret
  exact ⟨rfl, ⟨HM12.out, HM2.out⟩, HO.out⟩
set_option maxRecDepth 100000 in
set_option maxHeartbeats 4000000 in
theorem heldPair_any (A : Wk.PA) (ax ay : Option Addr) (kx ky : Nat) (w : World) (h1 : MkA ax A.x.n kx 1 w) (h2 : MkA ay A.y.n ky (1 + A.x.n) w) (hx : A.x.n ≤ 1048576) (hy : A.y.n ≤ 1048576) :
    Calls Tryd.prog 41 #[paV A ax kx ay ky, .int .i64 1] w fun e w' => e = .returned (.int .i64 ((1 + A.x.n + A.y.n : Nat) : Int)) ∧ Below w.heap.size w w' := by
  obtain ⟨W, hW⟩ : ∃ W, W = w.alloc (paO A ax kx ay ky) := ⟨_, rfl⟩
  have hB : Below w.heap.size w W := by rw [hW]; exact (Below.refl _ _).alloc (Nat.le_refl _) _
  have RX : W.rowIs w.heap.size 53 5 (rowL (paL A ax kx ay ky)) := by rw [hW]; exact pa_row w A ax kx ay ky
  have HW := Lib.hid hW
  have HB := Lib.hid hB
  have HRX := Lib.hid RX
  have H1 := Lib.hid (h1.same (fun g _ hl => hB.block g hl))
  have H2 := Lib.hid (h2.same (fun g _ hl => hB.block g hl))
  have z1 : ¬ ((1 + A.x.n : Nat) : Int) < 0 := by omega
  have z2 : ¬ ((1 + A.x.n + A.y.n : Nat) : Int) < 0 := by omega
  clear hW hB RX h1 h2
  go_enter Tryd.func41, Tryd.ntmps41
  go_wp2_with fail
  rw [← HW.out]
  refine (heldBatch_any A.x.wt ax A.x.n kx 1 _ H1.out hx (by omega)).mono ?_
  rintro e w1 ⟨rfl, hb⟩
  have HB1 : Hid (Below w.heap.size w w1) := HB.out.trans (hb.mono HB.out.size)
  have HX1 := Lib.hid (wrow_below HRX.out hb)
  have H21 := Lib.hid (H2.out.same (fun g _ hl => hb.block g hl))
  obtain ⟨x0, x1, x2, x3, x4⟩ := row5_cells HX1.out
  clear hb
  go_wp2_with fail
  refine (heldBatch_any A.y.wt ay A.y.n ky (1 + A.x.n) _ H21.out hy (by omega)).mono ?_
  rintro e w2 ⟨rfl, hb⟩
  have HB2 : Hid (Below w.heap.size w w2) := HB1.out.trans (hb.mono HB1.out.size)
  clear hb
  go_wp2_with fail
  go_ret
  exact ⟨rfl, HB2.out⟩
/-- An answer of two batches, laid in a box. -/
structure PaM (lo hi : Nat) (A : Wk.PA) (ax : Option Addr) (kx : Nat) (ay : Option Addr) (ky : Nat) (gb : Nat) (W : World) : Prop where
  row : W.rowIs gb 53 5 (rowL (paL A ax kx ay ky))
  two : TwM lo hi ax A.x.n kx A.x.f ay A.y.n ky A.y.f W
  bd : lo ≤ gb ∧ gb < hi
  far : ∀ g, (atP ax g ∨ atP ay g) → g ≠ gb
theorem PaM.same {lo hi : Nat} {A : Wk.PA} {ax : Option Addr} {kx : Nat} {ay : Option Addr} {ky gb : Nat} {W W' : World} (h : PaM lo hi A ax kx ay ky gb W) (hb : ∀ g, lo ≤ g → g < hi → g < W.heap.size → W'.heap[g]? = W.heap[g]?) : PaM lo hi A ax kx ay ky gb W' := ⟨h.row.of_block (hb _ h.bd.1 h.bd.2 h.row.lt), h.two.same hb, h.bd, h.far⟩
theorem PaM.below {lo hi : Nat} {A : Wk.PA} {ax : Option Addr} {kx : Nat} {ay : Option Addr} {ky gb : Nat} {W W' : World} (h : PaM lo hi A ax kx ay ky gb W) (hb : Below W.heap.size W W') : PaM lo hi A ax kx ay ky gb W' := h.same (fun g _ _ hl => hb.block g hl)
theorem paM_of {lo : Nat} {A : Wk.PA} {ax : Option Addr} {kx : Nat} {ay : Option Addr} {ky : Nat} {W : World} (h : TwM lo W.heap.size ax A.x.n kx A.x.f ay A.y.n ky A.y.f W) (hl : lo ≤ W.heap.size) : PaM lo (W.heap.size + 1) A ax kx ay ky W.heap.size (W.alloc (paO A ax kx ay ky)) :=
  ⟨pa_row W A ax kx ay ky, (h.below (bel_alloc _ _)).mono (Nat.le_refl _) (by omega), ⟨hl, by omega⟩, fun g hg => by
    rcases hg with hg | hg
    · have := h.px.atp hg; omega
    · have := h.py.atp hg; omega⟩
end Go.Proofs.YtoeibcmmpbkbpaaDoor
