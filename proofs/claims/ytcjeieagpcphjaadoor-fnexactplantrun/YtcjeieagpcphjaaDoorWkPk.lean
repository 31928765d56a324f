/-
  What a plant tells: compared, marked, found again; marks of a list of batches from a number on.
-/
import Derived.Test.YtcjeieagpcphjaaDoorWkFl4
import Derived.Test.YtcjeieagpcphjaaDoorWkBs
import Derived.Test.YtcjeieagpcphjaaDoorWkPi
namespace Go.Proofs.YtcjeieagpcphjaaDoor
open Go.RowKit Go.Deep

abbrev ppO (P : Wk.PO) (ax : Option Addr) (kx : Nat) (ay : Option Addr) (ky : Nat) : Obj := .cells #[.int .i64 P.clean.wt, .slice ax P.clean.n kx, .int .i64 P.waste.wt, .slice ay P.waste.n ky, .int .i64 P.fl.held, .int .i64 P.fl.most, .int .i64 P.fl.catch_, .int .i64 P.fl.wash, .int .i64 P.washes, .int .i64 P.c] 31
theorem po_row (w : World) (A : Wk.PO) (ax : Option Addr) (kx : Nat) (ay : Option Addr) (ky : Nat) : (w.alloc (ppO A ax kx ay ky)).rowIs w.heap.size 31 10 (rowL (ppL A ax kx ay ky)) := rowL_alloc w (ppL A ax kx ay ky) 31
theorem Wk.plant_n (m : Nat) (mi : Nat → Int) (bs : Nat → Wk.Bt) (f : Wk.Fl) (k : Nat) : (Wk.plant m mi bs f k).clean.n ≤ 6 ∧ (Wk.plant m mi bs f k).waste.n ≤ 6 := by
  unfold Wk.plant
  split
  · simp [Wk.badP, Wk.nil]
  · split
    · split
      · split
        · exact ⟨(Wk.mix_n _ _).1, (Wk.mix_n _ _).1⟩
        · simp [Wk.badP, Wk.nil]
      · simp [Wk.badP, Wk.nil]
    · simp [Wk.badP, Wk.nil]
set_option maxRecDepth 100000 in
set_option maxHeartbeats 4000000 in
theorem eqPo_same (A : Wk.PO) (ax ay bx by_ : Option Addr) (kx ky jx jy : Nat) (w : World) (h1 : IntsAt ax A.clean.n A.clean.f w) (h2 : IntsAt ay A.waste.n A.waste.f w) (h3 : IntsAt bx A.clean.n A.clean.f w) (h4 : IntsAt by_ A.waste.n A.waste.f w) (hx : A.clean.n ≤ 1048576) (hy : A.waste.n ≤ 1048576) :
    Calls Tryd.prog 11 #[ppV A ax kx ay ky, ppV A bx jx by_ jy] w fun e w' => e = .returned (.bool true) ∧ Below w.heap.size w w' := by
  obtain ⟨W, hW⟩ : ∃ W, W = (w.alloc (ppO A ax kx ay ky)).alloc (ppO A bx jx by_ jy) := ⟨_, rfl⟩
  have hB : Below w.heap.size w W := by rw [hW]; exact ((Below.refl _ _).alloc (Nat.le_refl _) _).alloc (by simp) _
  have RX : W.rowIs w.heap.size 31 10 (rowL (ppL A ax kx ay ky)) := by rw [hW]; exact wrow_below (po_row w A ax kx ay ky) (bel_alloc _ _)
  have RY : W.rowIs (w.heap.size + 1) 31 10 (rowL (ppL A bx jx by_ jy)) := by
    rw [hW]
    have := po_row (w.alloc (ppO A ax kx ay ky)) A bx jx by_ jy
    rwa [World.size_alloc] at this
  have HW := Lib.hid hW
  have HB := Lib.hid hB
  have HRX := Lib.hid RX
  have HRY := Lib.hid RY
  have H1 := Lib.hid h1
  have H2 := Lib.hid h2
  have H3 := Lib.hid h3
  have H4 := Lib.hid h4
  clear hW hB RX RY h1 h2 h3 h4
  go_enter Tryd.func11, Tryd.ntmps11
  go_wp2_with fail
  rw [← HW.out]
  clear HW
  refine (eqBatch_same A.clean.wt ax bx A.clean.n kx jx A.clean.f _ (H1.out.below HB.out) (H3.out.below HB.out) hx).mono ?_
  rintro e w1 ⟨rfl, hb⟩
  have HB1 : Hid (Below w.heap.size w w1) := HB.out.trans (hb.mono HB.out.size)
  have HX1 := Lib.hid (wrow_below HRX.out hb)
  have HY1 := Lib.hid (wrow_below HRY.out hb)
  clear hb
  obtain ⟨⟨x0, x1, x2, x3, x4⟩, x5, x6, x7, x8, x9⟩ := row10_cells HX1.out
  obtain ⟨⟨y0, y1, y2, y3, y4⟩, y5, y6, y7, y8, y9⟩ := row10_cells HY1.out
  go_wp2_with fail
  clear x0 x1 x2 x3 x4 x5 x6 x7 x8 x9 y0 y1 y2 y3 y4 y5 y6 y7 y8 y9
  refine (eqBatch_same A.waste.wt ay by_ A.waste.n ky jy A.waste.f _ (H2.out.below HB1.out) (H4.out.below HB1.out) hy).mono ?_
  rintro e w2 ⟨rfl, hb⟩
  have HB2 : Hid (Below w.heap.size w w2) := HB1.out.trans (hb.mono HB1.out.size)
  have HX2 := Lib.hid (wrow_below HX1.out hb)
  have HY2 := Lib.hid (wrow_below HY1.out hb)
  clear hb
  obtain ⟨⟨x0, x1, x2, x3, x4⟩, x5, x6, x7, x8, x9⟩ := row10_cells HX2.out
  obtain ⟨⟨y0, y1, y2, y3, y4⟩, y5, y6, y7, y8, y9⟩ := row10_cells HY2.out
  go_wp2_with fail
  clear x0 x1 x2 x3 x4 x5 x6 x7 x8 x9 y0 y1 y2 y3 y4 y5 y6 y7 y8 y9
  refine (eqFilter_same A.fl _).mono ?_
  rintro e w3 ⟨rfl, hb⟩
  have HB3 : Hid (Below w.heap.size w w3) := HB2.out.trans (hb.mono HB2.out.size)
  obtain ⟨⟨x0, x1, x2, x3, x4⟩, x5, x6, x7, x8, x9⟩ := row10_cells (wrow_below HX2.out hb)
  obtain ⟨⟨y0, y1, y2, y3, y4⟩, y5, y6, y7, y8, y9⟩ := row10_cells (wrow_below HY2.out hb)
  clear hb
  go_wp2_with fail
  go_ret
  exact ⟨rfl, HB3.out⟩
set_option maxRecDepth 100000 in
set_option maxHeartbeats 4000000 in
theorem markPo_any (lo hi : Nat) (A : Wk.PO) (ax ay : Option Addr) (kx ky : Nat) (w : World) (h : TwM lo hi ax A.clean.n kx A.clean.f ay A.waste.n ky A.waste.f w) (hx : A.clean.n ≤ 1048576) (hy : A.waste.n ≤ 1048576) :
    Calls Tryd.prog 16 #[ppV A ax kx ay ky, .int .i64 1] w fun e w' => e = .returned (.int .i64 ((1 + A.clean.n + A.waste.n : Nat) : Int)) ∧ (MkA ax A.clean.n kx 1 w' ∧ MkA ay A.waste.n ky (1 + A.clean.n) w') ∧ OnlyP (fun g => atP ax g ∨ atP ay g) w w' := by
  obtain ⟨W, hW⟩ : ∃ W, W = w.alloc (ppO A ax kx ay ky) := ⟨_, rfl⟩
  have hB : Below w.heap.size w W := by rw [hW]; exact (Below.refl _ _).alloc (Nat.le_refl _) _
  have RX : W.rowIs w.heap.size 31 10 (rowL (ppL A ax kx ay ky)) := by rw [hW]; exact po_row w A ax kx ay ky
  have hbd : ∀ g, (atP ax g ∨ atP ay g) → g < w.heap.size := fun g hg => by
    rcases hg with hg | hg
    · rcases h.px with ⟨e, _⟩ | ⟨g', e, _, hb⟩
      · rw [e] at hg; cases hg
      · rw [e] at hg; unfold atP at hg; simp at hg; have := hb.lt; omega
    · rcases h.py with ⟨e, _⟩ | ⟨g', e, _, hb⟩
      · rw [e] at hg; cases hg
      · rw [e] at hg; unfold atP at hg; simp at hg; have := hb.lt; omega
  have HBD := Lib.hid hbd
  have HW := Lib.hid hW
  have HB := Lib.hid hB
  have HRX := Lib.hid RX
  have H := Lib.hid (h.below hB)
  clear hW hB RX h hbd
  go_enter Tryd.func16, Tryd.ntmps16
  go_wp2_with fail
  rw [← HW.out]
  refine (markBatch_any lo hi A.clean.wt ax A.clean.n kx 1 A.clean.f _ H.out.px hx (by omega)).mono ?_
  rintro e w1 ⟨rfl, hm1, ho1⟩
  have HM1 := Lib.hid hm1
  have HO1 := Lib.hid ho1
  have HY1 : Hid (PtM lo hi ay A.waste.n ky A.waste.f w1) := by
    rcases H.out.py with h | ⟨g, e, hg, hb⟩
    · exact Or.inl h
    · exact Or.inr ⟨g, e, hg, hb.block (ho1.block g hb.lt (fun h => H.out.ne g h e))⟩
  have HX1 := Lib.hid (HRX.out.of_block (ho1.block _ HRX.out.lt (fun h => by have := HBD.out _ (Or.inl h); omega)))
  obtain ⟨⟨x0, x1, x2, x3, x4⟩, x5, x6, x7, x8, x9⟩ := row10_cells HX1.out
  clear hm1 ho1
  go_wp2_with fail
  refine (markBatch_any lo hi A.waste.wt ay A.waste.n ky (1 + A.clean.n) A.waste.f _ HY1.out hy (by omega)).mono ?_
  rintro e w2 ⟨rfl, hm2, ho2⟩
  have HM2 := Lib.hid hm2
  have HM12 : Hid (MkA ax A.clean.n kx 1 w2) := HM1.out.same (fun g hg hl => ho2.block g hl (fun h => H.out.ne g hg h))
  have HO : Hid (OnlyP (fun g => atP ax g ∨ atP ay g) w w2) := ((OnlyP.of_below HB.out).trans (HO1.out.mono (fun _ h => Or.inl h))).trans (ho2.mono (fun _ h => Or.inr h))
  clear hm2 ho2
  go_wp2_with fail
  go_ret
  exact ⟨rfl, ⟨HM12.out, HM2.out⟩, HO.out⟩
set_option maxRecDepth 100000 in
set_option maxHeartbeats 4000000 in
theorem heldPo_any (A : Wk.PO) (ax ay : Option Addr) (kx ky : Nat) (w : World) (h1 : MkA ax A.clean.n kx 1 w) (h2 : MkA ay A.waste.n ky (1 + A.clean.n) w) (hx : A.clean.n ≤ 1048576) (hy : A.waste.n ≤ 1048576) :
    Calls Tryd.prog 17 #[ppV A ax kx ay ky, .int .i64 1] w fun e w' => e = .returned (.int .i64 ((1 + A.clean.n + A.waste.n : Nat) : Int)) ∧ Below w.heap.size w w' := by
  obtain ⟨W, hW⟩ : ∃ W, W = w.alloc (ppO A ax kx ay ky) := ⟨_, rfl⟩
  have hB : Below w.heap.size w W := by rw [hW]; exact (Below.refl _ _).alloc (Nat.le_refl _) _
  have RX : W.rowIs w.heap.size 31 10 (rowL (ppL A ax kx ay ky)) := by rw [hW]; exact po_row w A ax kx ay ky
  have HW := Lib.hid hW
  have HB := Lib.hid hB
  have HRX := Lib.hid RX
  have H1 := Lib.hid (h1.same (fun g _ hl => hB.block g hl))
  have H2 := Lib.hid (h2.same (fun g _ hl => hB.block g hl))
  have z1 : ¬ ((1 + A.clean.n : Nat) : Int) < 0 := by omega
  have z2 : ¬ ((1 + A.clean.n + A.waste.n : Nat) : Int) < 0 := by omega
  clear hW hB RX h1 h2
  go_enter Tryd.func17, Tryd.ntmps17
  go_wp2_with fail
  rw [← HW.out]
  refine (heldBatch_any A.clean.wt ax A.clean.n kx 1 _ H1.out hx (by omega)).mono ?_
  rintro e w1 ⟨rfl, hb⟩
  have HB1 : Hid (Below w.heap.size w w1) := HB.out.trans (hb.mono HB.out.size)
  have HX1 := Lib.hid (wrow_below HRX.out hb)
  have H21 := Lib.hid (H2.out.same (fun g _ hl => hb.block g hl))
  obtain ⟨⟨x0, x1, x2, x3, x4⟩, x5, x6, x7, x8, x9⟩ := row10_cells HX1.out
  clear hb
  go_wp2_with fail
  refine (heldBatch_any A.waste.wt ay A.waste.n ky (1 + A.clean.n) _ H21.out hy (by omega)).mono ?_
  rintro e w2 ⟨rfl, hb⟩
  have HB2 : Hid (Below w.heap.size w w2) := HB1.out.trans (hb.mono HB1.out.size)
  clear hb
  go_wp2_with fail
  go_ret
  exact ⟨rfl, HB2.out⟩
/-- An answer of two batches, laid in a box. -/
structure PoM (lo hi : Nat) (A : Wk.PO) (ax : Option Addr) (kx : Nat) (ay : Option Addr) (ky : Nat) (gb : Nat) (W : World) : Prop where
  row : W.rowIs gb 31 10 (rowL (ppL A ax kx ay ky))
  two : TwM lo hi ax A.clean.n kx A.clean.f ay A.waste.n ky A.waste.f W
  bd : lo ≤ gb ∧ gb < hi
  far : ∀ g, (atP ax g ∨ atP ay g) → g ≠ gb
theorem PoM.same {lo hi : Nat} {A : Wk.PO} {ax : Option Addr} {kx : Nat} {ay : Option Addr} {ky gb : Nat} {W W' : World} (h : PoM lo hi A ax kx ay ky gb W) (hb : ∀ g, lo ≤ g → g < hi → g < W.heap.size → W'.heap[g]? = W.heap[g]?) : PoM lo hi A ax kx ay ky gb W' := ⟨h.row.of_block (hb _ h.bd.1 h.bd.2 h.row.lt), h.two.same hb, h.bd, h.far⟩
theorem PoM.below {lo hi : Nat} {A : Wk.PO} {ax : Option Addr} {kx : Nat} {ay : Option Addr} {ky gb : Nat} {W W' : World} (h : PoM lo hi A ax kx ay ky gb W) (hb : Below W.heap.size W W') : PoM lo hi A ax kx ay ky gb W' := h.same (fun g _ _ hl => hb.block g hl)
theorem poM_of {lo : Nat} {A : Wk.PO} {ax : Option Addr} {kx : Nat} {ay : Option Addr} {ky : Nat} {W : World} (h : TwM lo W.heap.size ax A.clean.n kx A.clean.f ay A.waste.n ky A.waste.f W) (hl : lo ≤ W.heap.size) : PoM lo (W.heap.size + 1) A ax kx ay ky W.heap.size (W.alloc (ppO A ax kx ay ky)) :=
  ⟨po_row W A ax kx ay ky, (h.below (bel_alloc _ _)).mono (Nat.le_refl _) (by omega), ⟨hl, by omega⟩, fun g hg => by
    rcases hg with hg | hg
    · have := h.px.atp hg; omega
    · have := h.py.atp hg; omega⟩
set_option maxRecDepth 100000 in
set_option maxHeartbeats 4000000 in
theorem markBatchS_from (s lo hi g m c : Nat) (hsb : s ≤ 1048577) (gs : Nat → Nat) (bs : Nat → Be) (w : World) (h : BxR lo hi g m gs bs w) (hu : ∀ i j, i < j → j < m → gs i < gs j) (hs : m + cntB bs m ≤ 1048576) :
    Calls Tryd.prog 15 #[.slice (some ⟨g, 0, none⟩) m c, .int .i64 s] w fun e w' => e = .returned (.int .i64 ((s + m + cntB bs m : Nat) : Int)) ∧ OnlyP (fun k => lo ≤ k ∧ k < hi) w w' := by
  have H := Lib.hid h
  have HU := Lib.hid hu
  clear h hu
  go_enter Tryd.func15, Tryd.ntmps15
  go_wp2_with fail
  go_loopw [1, 5] (fun kv iv wr => ∃ (i : Nat), i ≤ m ∧ kv = .int .i64 ((s + i + cntB bs i : Nat) : Int) ∧ iv = .int .i64 i ∧ Hid (BxR lo hi g m gs bs wr) ∧ Hid (OnlyP (fun k => lo ≤ k ∧ k < hi) w wr)) (fun _ iv _ => m - (intOf iv).toNat)
  case atStart => exact ⟨0, Nat.zero_le _, by simp [cntB], rfl, H, OnlyP.refl _ _⟩
  case round =>
    obtain ⟨i, hi', rfl, rfl, hR, hO⟩ := hrel
    clear H
    by_cases hlt : i < m
    · have hltz : (i : Int) < (m : Int) := by omega
      obtain ⟨F, r1, r2⟩ := hR.out.row
      have c0 := r1.cell (i := i * 2) (by omega)
      have z0 := r1.frozen (i * 2)
      have c1 : wr.cell? ⟨g, i * 2 + 1, none⟩ = some (.slice (some ⟨gs i, 0, none⟩) (bs i).n (bs i).n) := (r1.cell (i := i * 2 + 1) (by omega)).trans (by rw [r2 i hlt])
      have hcn := cntB_le bs (show i + 1 ≤ m by omega)
      simp only [cntB] at hcn
      obtain ⟨K, hK⟩ : ∃ K : Nat, K = s + i + cntB bs i := ⟨_, rfl⟩
      have hKb : K ≤ 2097154 := by omega
      have HK := Lib.hid hK
      rw [← hK]
      obtain ⟨W1, hW1⟩ : ∃ W1, W1 = wr.setCell ⟨g, i * 2, none⟩ (.int .i64 (K : Int)) := ⟨_, rfl⟩
      have hg := hR.out.gbd
      have hbd := hR.out.bd
      have HR1 : Hid (BxR lo hi g m gs bs W1) := by
        refine ⟨⟨_, by rw [hW1]; exact r1.set (i * 2) _, fun j hj => ?_⟩, fun j hj => ?_, hbd, hg⟩
        · have : j * 2 + 1 ≠ i * 2 := by omega
          simp only [this, if_false]; exact r2 j hj
        · obtain ⟨F1, q⟩ := hR.out.blk j hj
          exact ⟨F1, q.block (by rw [hW1]; exact Below.heap_setCell _ ⟨g, i * 2, none⟩ _ _ (by have := hg j hj; show gs j ≠ g; omega))⟩
      have HO1 : Hid (OnlyP (fun k => lo ≤ k ∧ k < hi) w W1) := by
        show OnlyP _ _ _
        rw [hW1]
        exact hO.out.trans ((OnlyP.of_only ((Only.refl g wr).set (i * 2) _) hbd))
      obtain ⟨F0, q0⟩ := HR1.out.blk i hlt
      have HQ0 := Lib.hid q0
      have lgr : g < wr.heap.size := r1.lt
      have HW1 := Lib.hid hW1
      have c1' : W1.cell? ⟨g, i * 2 + 1, none⟩ = some (.slice (some ⟨gs i, 0, none⟩) (bs i).n (bs i).n) := by
        obtain ⟨F2, r3, r4⟩ := HR1.out.row
        exact (r3.cell (i := i * 2 + 1) (by omega)).trans (by rw [r4 i hlt])
      clear r1 r2 hK hR hO q0 hW1
      go_wp2_with fail
      rw [← HW1.out]
      have hKe : ((K : Int) + 1) = ((K + 1 : Nat) : Int) := by omega
      rw [hKe]
      refine (markInts_any (gs i) (gs i + 1) (some ⟨gs i, 0, none⟩) (bs i).n (bs i).n (K + 1) F0 _ (Or.inr ⟨_, rfl, ⟨Nat.le_refl _, by omega⟩, HQ0.out⟩) (by omega) (by omega)).mono ?_
      rintro e W2 ⟨rfl, hmk, ho⟩
      have hat : ∀ k, atP (some ⟨gs i, 0, none⟩) k → k = gs i := fun k hk => by unfold atP at hk; simp at hk; omega
      have HR2 : Hid (BxR lo hi g m gs bs W2) := by
        obtain ⟨F2, r3, r4⟩ := HR1.out.row
        refine ⟨⟨F2, r3.of_block (ho.block _ r3.lt (fun h => by have := hat _ h; have := hg i hlt; omega)), r4⟩, fun j hj => ?_, hbd, hg⟩
        by_cases e : j = i
        · subst e
          rcases hmk with ⟨h, _⟩ | ⟨g', e1, h⟩
          · cases h
          · simp at e1; subst e1; exact h.ints
        · obtain ⟨F1, q⟩ := HR1.out.blk j hj
          refine ⟨F1, q.block (ho.block _ q.lt (fun h => ?_))⟩
          have h1 := hat _ h
          rcases Nat.lt_or_gt_of_ne e with h2 | h2
          · have := HU.out j i h2 hlt; omega
          · have := HU.out i j h2 hj; omega
      have HO2 : Hid (OnlyP (fun k => lo ≤ k ∧ k < hi) w W2) := HO1.out.trans (ho.mono (fun k hk => by have h1 := hat k hk; have h2 := hg i hlt; omega))
      clear hmk ho hat c0 z0 c1 c1' lgr hKe HQ0 HW1 hg hbd
      go_wp2_with fail
      go_roundw
      case rel =>
        refine ⟨i + 1, by omega, ?_, by go_num, HR2, HO2⟩
        have := HK.out
        simp only [cntB]
        congr 1; omega
      case measure => simp [intOf]; omega
    · obtain rfl : i = m := by omega
      go_wp2_with fail
      go_ret
      exact ⟨rfl, hO.out⟩
end Go.Proofs.YtcjeieagpcphjaaDoor
