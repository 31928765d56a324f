/-
  Draws: a loop, and a run of it.
-/
import Derived.Test.YtplghjghecfeoaaDoorLpDr
import Derived.Test.YtplghjghecfeoaaDoorFList
import Derived.Test.YtplghjghecfeoaaDoorLrI1
namespace Go.Proofs.YtplghjghecfeoaaDoor
open Go.RowKit Go.Deep

attribute [local go_sem] lrun_store_float lrun_store_complex
abbrev loZ : List Value := [.float .f64 0, .float .f64 0, .float .f64 0, .float .f64 0, .float .f64 0, .float .f64 0]
theorem row6_all {w : World} {g : Nat} {t : TypeId} {x0 x1 x2 x3 x4 x5 : Value} (h : w.rowIs g t 6 (rowL [x0, x1, x2, x3, x4, x5])) : (w.cell? ⟨g, 0, none⟩ = some x0 ∧ w.cell? ⟨g, 1, none⟩ = some x1 ∧ w.cell? ⟨g, 2, none⟩ = some x2 ∧ w.cell? ⟨g, 3, none⟩ = some x3 ∧ w.cell? ⟨g, 4, none⟩ = some x4 ∧ w.cell? ⟨g, 5, none⟩ = some x5) ∧ (w.frozen? ⟨g, 0, none⟩ = false ∧ w.frozen? ⟨g, 1, none⟩ = false ∧ w.frozen? ⟨g, 2, none⟩ = false ∧ w.frozen? ⟨g, 3, none⟩ = false ∧ w.frozen? ⟨g, 4, none⟩ = false ∧ w.frozen? ⟨g, 5, none⟩ = false) :=
  ⟨⟨h.cell (i := 0) (by omega), h.cell (i := 1) (by omega), h.cell (i := 2) (by omega), h.cell (i := 3) (by omega), h.cell (i := 4) (by omega), h.cell (i := 5) (by omega)⟩, h.frozen 0, h.frozen 1, h.frozen 2, h.frozen 3, h.frozen 4, h.frozen 5⟩
/-- A loop's row is written whole. -/
def set6 (g : Nat) (l : Fl.Lo) (W : World) : World := (((((W.setCell ⟨g, 0, none⟩ (.float .f64 l.up)).setCell ⟨g, 1, none⟩ (.float .f64 l.sum)).setCell ⟨g, 2, none⟩ (.float .f64 l.gain)).setCell ⟨g, 3, none⟩ (.float .f64 l.lag)).setCell ⟨g, 4, none⟩ (.float .f64 l.low)).setCell ⟨g, 5, none⟩ (.float .f64 l.high)
theorem set6_row {g : Nat} {t : TypeId} {W : World} (l : Fl.Lo) {x0 x1 x2 x3 x4 x5 : Value} (h : W.rowIs g t 6 (rowL [x0, x1, x2, x3, x4, x5])) : (set6 g l W).rowIs g t 6 (rowL (loL l)) := by
  unfold set6
  exact rowL_set (rowL_set (rowL_set (rowL_set (rowL_set (rowL_set h 0 (.float .f64 l.up) (by simp)) 1 (.float .f64 l.sum) (by simp)) 2 (.float .f64 l.gain) (by simp)) 3 (.float .f64 l.lag) (by simp)) 4 (.float .f64 l.low) (by simp)) 5 (.float .f64 l.high) (by simp)
theorem set6_chg {sb g : Nat} {a W : World} (l : Fl.Lo) (h : Chg sb a W) (hg : a.heap.size ≤ g) : Chg sb a (set6 g l W) := by
  unfold set6
  exact lChg_setNew (lChg_setNew (lChg_setNew (lChg_setNew (lChg_setNew (lChg_setNew h hg _) hg _) hg _) hg _) hg _) hg _
theorem set6_src {sb g : Nat} {W : World} (l : Fl.Lo) (h : Src sb W) (hg : sb < g) : Src sb (set6 g l W) := by
  unfold set6
  exact lSrc_set (lSrc_set (lSrc_set (lSrc_set (lSrc_set (lSrc_set h hg _ _) hg _ _) hg _ _) hg _ _) hg _ _) hg _ _
theorem set6_below {w W : World} {g : Nat} (l : Fl.Lo) (h : Below w.heap.size w W) (hg : w.heap.size ≤ g) : Below w.heap.size w (set6 g l W) := by
  unfold set6
  exact (((((h.setCell (p := ⟨g, 0, none⟩) hg _).setCell (p := ⟨g, 1, none⟩) hg _).setCell (p := ⟨g, 2, none⟩) hg _).setCell (p := ⟨g, 3, none⟩) hg _).setCell (p := ⟨g, 4, none⟩) hg _).setCell (p := ⟨g, 5, none⟩) hg _
theorem set6_far {g q : Nat} {W : World} (l : Fl.Lo) (h : q ≠ g) : (set6 g l W).heap[q]? = W.heap[q]? := by
  unfold set6
  rw [blk_setCell_other _ _ _ _ h, blk_setCell_other _ _ _ _ h, blk_setCell_other _ _ _ _ h, blk_setCell_other _ _ _ _ h, blk_setCell_other _ _ _ _ h, blk_setCell_other _ _ _ _ h]
theorem foi_bd (t : Int) (h0 : 0 ≤ t) (h1 : t ≤ 16777216) : Fl.Bd 31 (floatOfInt .f64 t) := by
  have hl : t.natAbs.log2 ≤ 24 := Fl.log2_le (by omega)
  exact ((Fl.bd_write (t < 0) t.natAbs 0 30 (by right; omega) (by omega) (by omega)).1).mono (by omega)
theorem five_bd : Fl.Bd 31 4617315517961601024 := ⟨false, 5629499534213120, -50, by decide +kernel, Or.inr (by decide)⟩
/-- What stands while a loop is drawn. -/
structure LD0 (w : World) (sb : Nat) (l : Fl.Lo) (g : Nat) (W : World) : Prop where
  ans : W.rowIs w.heap.size 25 6 (rowL loZ)
  box : W.rowIs g 25 6 (rowL (loL l))
  dr : Drew sb w W
  lt : sb < w.heap.size
  num : w.heap.size < g
theorem LD0.draw {w : World} {sb g : Nat} {l : Fl.Lo} {W W' : World} (h : LD0 w sb l g W) (hd : Drew sb W W') : LD0 w sb l g W' :=
  have hn := h.lt
  have hm := h.num
  ⟨row_chg h.ans hd.2 (by omega), row_chg h.box hd.2 (by omega), ⟨hd.1, h.dr.2.trans hd.2⟩, h.lt, h.num⟩
theorem LD0.put {w : World} {sb g : Nat} {l l' : Fl.Lo} {W : World} (h : LD0 w sb l g W) (i : Nat) (x : Nat) (hi : i < 6) (he : (loL l).set i (.float .f64 x) = loL l') : LD0 w sb l' g (W.setCell ⟨g, i, none⟩ (.float .f64 x)) :=
  have hn := h.lt
  have hm := h.num
  ⟨h.ans.setOther (a := ⟨g, i, none⟩) (by show w.heap.size ≠ g; omega) _, by rw [← he]; exact rowL_set h.box i _ (by simpa using hi), ⟨lSrc_set h.dr.1 (by omega) _ _, lChg_setNew h.dr.2 (by show w.heap.size ≤ g; omega) _⟩, h.lt, h.num⟩
set_option maxRecDepth 100000 in
set_option maxHeartbeats 4000000 in
theorem lloop_any (sb : Nat) (w : World) (h : Src sb w) :
    Calls Tryd.prog 18 #[.pointer (some ⟨sb, 0, none⟩)] w fun e w' => (∃ l, e = .returned (loV l)) ∧ Drew sb w w' := by
  have hs : sb < w.heap.size := h.lt
  obtain ⟨W, hW⟩ : ∃ W, W = w.alloc (.cells #[.float .f64 0, .float .f64 0, .float .f64 0, .float .f64 0, .float .f64 0, .float .f64 0] 25) := ⟨_, rfl⟩
  have hb0 : Below w.heap.size w W := by rw [hW]; exact bel_alloc _ _
  have HD : Hid (Drew sb w W) := ⟨h.below hb0, Chg.of_below hb0⟩
  have HR : Hid (W.rowIs w.heap.size 25 6 (rowL loZ)) := by show World.rowIs _ _ _ _ _; rw [hW]; exact rowL_alloc w loZ _
  have HSZ : Hid (∀ (V : World), Drew sb w V → V.rowIs w.heap.size 25 6 (rowL loZ) → w.heap.size + 1 ≤ V.heap.size) := fun V _ hr => hr.lt
  have HS := Lib.hid hs
  have HW := Lib.hid hW
  clear h hb0 hW hs
  go_enter Tryd.func18, Tryd.ntmps18
  go_wp2_with fail
  rw [← HW.out]
  clear HW
  refine (small_any sb _ HD.out.1).mono ?_
  rintro e w1 ⟨⟨a0, rfl⟩, hD⟩
  replace HR := Lib.hid (row_chg HR.out hD.2 (by have := HS.out; omega))
  replace HD : Hid (Drew sb w w1) := ⟨hD.1, HD.out.2.trans hD.2⟩
  clear hD
  go_wp2_with fail
  refine (small_any sb _ HD.out.1).mono ?_
  rintro e w2 ⟨⟨a1, rfl⟩, hD⟩
  replace HR := Lib.hid (row_chg HR.out hD.2 (by have := HS.out; omega))
  replace HD : Hid (Drew sb w w2) := ⟨hD.1, HD.out.2.trans hD.2⟩
  clear hD
  go_wp2_with fail
  refine (small_any sb _ HD.out.1).mono ?_
  rintro e w3 ⟨⟨a2, rfl⟩, hD⟩
  replace HR := Lib.hid (row_chg HR.out hD.2 (by have := HS.out; omega))
  replace HD : Hid (Drew sb w w3) := ⟨hD.1, HD.out.2.trans hD.2⟩
  clear hD
  go_wp2_with fail
  refine (n_any sb 1001 _ HD.out.1 (by omega)).mono ?_
  rintro e w4 ⟨⟨u, rfl, u0, u1, _⟩, hD⟩
  replace HR := Lib.hid (row_chg HR.out hD.2 (by have := HS.out; omega))
  replace HD : Hid (Drew sb w w4) := ⟨hD.1, HD.out.2.trans hD.2⟩
  clear hD
  have u2 := u1 (by omega)
  clear u1
  obtain ⟨G1, K1, ha1⟩ := arith_any .quo (by simp) (floatOfInt .f64 u) 4652007308841189376
  go_wp2_with fail
  clear ha1
  generalize G1 w4 = a3
  replace HR : Hid ((w4.drewN K1).rowIs w.heap.size 25 6 (rowL loZ)) := HR.out.of_block rfl
  replace HD : Hid (Drew sb w (w4.drewN K1)) := HD.out.drewN K1
  refine (n_any sb 20 _ HD.out.1 (by omega)).mono ?_
  rintro e w5 ⟨⟨v, rfl, v0, v1, _⟩, hD⟩
  replace HR := Lib.hid (row_chg HR.out hD.2 (by have := HS.out; omega))
  replace HD : Hid (Drew sb w w5) := ⟨hD.1, HD.out.2.trans hD.2⟩
  clear hD
  have v2 := v1 (by omega)
  clear v1
  obtain ⟨G2, K2, ha2⟩ := arith_any .sub (by simp) (floatOfInt .f64 v) 4627730092099895296
  go_wp2_with fail
  clear ha2
  generalize G2 w5 = a4
  replace HR : Hid ((w5.drewN K2).rowIs w.heap.size 25 6 (rowL loZ)) := HR.out.of_block rfl
  replace HD : Hid (Drew sb w (w5.drewN K2)) := HD.out.drewN K2
  refine (n_any sb 30 _ HD.out.1 (by omega)).mono ?_
  rintro e w6 ⟨⟨t, rfl, t0, t1, _⟩, hD⟩
  replace HR := Lib.hid (row_chg HR.out hD.2 (by have := HS.out; omega))
  replace HD : Hid (Drew sb w w6) := ⟨hD.1, HD.out.2.trans hD.2⟩
  clear hD
  have t2 := t1 (by omega)
  clear t1
  obtain ⟨a5, ha5⟩ : ∃ a5, a5 = Fl.subW (floatOfInt .f64 t) 4617315517961601024 := ⟨_, rfl⟩
  have ha3 := fun (wx : World) => run_float_arith (P := Tryd.prog) (w := wx) .sub 23 .f64 (floatOfInt .f64 t) 4617315517961601024 _ (Fl.subW_bd (foi_bd t t0 (by omega)) five_bd (by omega) (by omega)).1
  rw [← ha5] at ha3
  obtain ⟨W7, hW7⟩ : ∃ W7, W7 = w6.alloc (.cells #[.float .f64 a0, .float .f64 a1, .float .f64 a2, .float .f64 a3, .float .f64 a4, .float .f64 a5] 25) := ⟨_, rfl⟩
  obtain ⟨g3, hg3⟩ : ∃ g3, g3 = w6.heap.size := ⟨_, rfl⟩
  have HBK : Hid (LD0 w sb ⟨a0, a1, a2, a3, a4, a5⟩ g3 W7) := by
    have hb : Below w6.heap.size w6 W7 := by rw [hW7]; exact bel_alloc _ _
    exact ⟨wrow_below HR.out hb, by rw [hW7]; exact rowL_alloc' hg3.symm (loL ⟨a0, a1, a2, a3, a4, a5⟩) _, ⟨HD.out.1.below hb, HD.out.2.trans (Chg.of_below hb)⟩, HS.out, by rw [hg3]; exact HR.out.lt⟩
  have HW7 := Lib.hid hW7
  have HG3 := Lib.hid hg3
  clear hW7 hg3 ha5 HR HD
  go_wp2_with fail
  rw [← HW7.out]
  try rw [← HG3.out]
  clear ha3 HW7 HG3
  refine (one_any sb 20 _ HBK.out.dr.1 (by omega)).mono ?_
  rintro e w8 ⟨⟨b, rfl⟩, hD⟩
  replace HBK := Lib.hid (HBK.out.draw hD)
  clear hD
  have key : ∀ (L : Fl.Lo) (V : World), LD0 w sb L g3 V → True := fun _ _ _ => trivial
  clear key
  obtain ⟨L, hL⟩ : ∃ L : Fl.Lo, L = ⟨a0, a1, a2, a3, a4, a5⟩ := ⟨_, rfl⟩
  rw [← hL] at HBK
  clear hL
  cases b
  · go_wp2_with fail
    refine (one_any sb 20 _ HBK.out.dr.1 (by omega)).mono ?_
    rintro e wa ⟨⟨b2, rfl⟩, hD⟩
    replace HBK := Lib.hid (HBK.out.draw hD)
    clear hD
    cases b2
    · go_wp2_with fail
      refine (one_any sb 20 _ HBK.out.dr.1 (by omega)).mono ?_
      rintro e wc ⟨⟨b3, rfl⟩, hD⟩
      replace HBK := Lib.hid (HBK.out.draw hD)
      clear hD
      cases b3
      · obtain ⟨⟨c0, c1, c2, c3, c4, c5⟩, f0, f1, f2, f3, f4, f5⟩ := row6_all HBK.out.ans
        obtain ⟨⟨x0, x1, x2⟩, x3, x4, x5⟩ := row6_cells HBK.out.box
        have l0 := HBK.out.ans.lt
        have hlt := HBK.out.lt
        have HEND : Hid (Drew sb w (set6 w.heap.size L wc)) := ⟨set6_src L HBK.out.dr.1 hlt, set6_chg L HBK.out.dr.2 (Nat.le_refl _)⟩
        clear HBK
        unfold set6 at HEND
        obtain ⟨z0, z1, z2, z3, z4, z5⟩ := L
        go_wp2_with fail
        exact bodyPost_ret (v := .agg #[.float .f64 z0, .float .f64 z1, .float .f64 z2, .float .f64 z3, .float .f64 z4, .float .f64 z5]) (by simp [results, Tryd.results18, go_sem, c0, c1, c2, c3, c4, c5]) rfl ⟨⟨⟨z0, z1, z2, z3, z4, z5⟩, rfl⟩, HEND.out⟩
      · have HB1 := Lib.hid (HBK.out.put (l' := ⟨L.up, L.sum, L.gain, L.lag, L.low, 4741671816366391296⟩) 5 4741671816366391296 (by omega) rfl)
        have HB2 := Lib.hid (HB1.out.put (l' := ⟨L.up, L.sum, L.gain, L.lag, 13965043853221167104, 4741671816366391296⟩) 4 13965043853221167104 (by omega) rfl)
        have HB3 := Lib.hid (HB2.out.put (l' := ⟨L.up, L.sum, 4740832955566391296, L.lag, 13965043853221167104, 4741671816366391296⟩) 2 4740832955566391296 (by omega) rfl)
        obtain ⟨⟨y0, y1, y2, y3, y4, y5⟩, g0, g1, g2, g3', g4, g5⟩ := row6_all HBK.out.box
        have lb := HBK.out.box.lt
        have nb := HBK.out.num
        obtain ⟨Wd, hWd⟩ : ∃ Wd, Wd = ((wc.setCell ⟨g3, 5, none⟩ (.float .f64 4741671816366391296)).setCell ⟨g3, 4, none⟩ (.float .f64 13965043853221167104)).setCell ⟨g3, 2, none⟩ (.float .f64 4740832955566391296) := ⟨_, rfl⟩
        rw [← hWd] at HB3
        obtain ⟨L2, hL2⟩ : ∃ L2 : Fl.Lo, L2 = ⟨L.up, L.sum, 4740832955566391296, L.lag, 13965043853221167104, 4741671816366391296⟩ := ⟨_, rfl⟩
        have HL2 := Lib.hid hL2
        have HWd := Lib.hid hWd
        obtain ⟨⟨c0, c1, c2, c3, c4, c5⟩, f0, f1, f2, f3, f4, f5⟩ := row6_all HBK.out.ans
        have l0 := HBK.out.ans.lt
        have hlt := HBK.out.lt
        have hnum := HBK.out.num
        have HEND : Hid (Drew sb w (set6 w.heap.size ⟨L.up, L.sum, 4740832955566391296, L.lag, 13965043853221167104, 4741671816366391296⟩ (((wc.setCell ⟨g3, 5, none⟩ (.float .f64 4741671816366391296)).setCell ⟨g3, 4, none⟩ (.float .f64 13965043853221167104)).setCell ⟨g3, 2, none⟩ (.float .f64 4740832955566391296)))) := by
          show Drew _ _ _
          rw [← hWd]
          exact ⟨set6_src _ HB3.out.dr.1 hlt, set6_chg _ HB3.out.dr.2 (Nat.le_refl _)⟩
        obtain ⟨⟨d0, d1, d2, d3, d4, d5⟩, _⟩ := row6_all HB3.out.box
        have hne : ¬ w.heap.size = g3 := by omega
        clear HBK HB1 HB2 HB3 hWd hL2 HL2
        rw [HWd.out] at d0 d1 d2 d3 d4 d5
        unfold set6 at HEND
        clear HWd
        go_wp2_with fail
        exact bodyPost_ret (v := .agg #[.float .f64 L.up, .float .f64 L.sum, .float .f64 4740832955566391296, .float .f64 L.lag, .float .f64 13965043853221167104, .float .f64 4741671816366391296]) (by simp [results, Tryd.results18, go_sem, c0, c1, c2, c3, c4, c5]) rfl ⟨⟨⟨L.up, L.sum, 4740832955566391296, L.lag, 13965043853221167104, 4741671816366391296⟩, rfl⟩, HEND.out⟩
    · go_wp2_with fail
      refine (float_any sb _ HBK.out.dr.1).mono ?_
      rintro e wb ⟨⟨xx, rfl⟩, hD⟩
      replace HBK := Lib.hid (HBK.out.draw hD)
      clear hD
      obtain ⟨Wb, hWb⟩ : ∃ Wb, Wb = wb.setCell ⟨g3, 0, none⟩ (.float .f64 xx) := ⟨_, rfl⟩
      have HBN : Hid (LD0 w sb ⟨xx, L.sum, L.gain, L.lag, L.low, L.high⟩ g3 Wb) := by show LD0 _ _ _ _ _; rw [hWb]; exact HBK.out.put 0 xx (by omega) rfl
      have y0 := HBK.out.box.cell (i := 0) (by omega)
      have z0 := HBK.out.box.frozen 0
      have lb := HBK.out.box.lt
      have HWN := Lib.hid hWb
      clear hWb HBK
      go_wp2_with fail
      rw [← HWN.out]
      clear HWN y0 z0 lb
      obtain ⟨L2, hL2⟩ : ∃ L2 : Fl.Lo, L2 = ⟨xx, L.sum, L.gain, L.lag, L.low, L.high⟩ := ⟨_, rfl⟩
      rw [← hL2] at HBN
      clear hL2 L
      obtain ⟨L, hLL⟩ : ∃ L, L = L2 := ⟨_, rfl⟩
      subst hLL
      have HBK := HBN
      clear HBN
      refine (one_any sb 20 _ HBK.out.dr.1 (by omega)).mono ?_
      rintro e wc ⟨⟨b3, rfl⟩, hD⟩
      replace HBK := Lib.hid (HBK.out.draw hD)
      clear hD
      cases b3
      · obtain ⟨⟨c0, c1, c2, c3, c4, c5⟩, f0, f1, f2, f3, f4, f5⟩ := row6_all HBK.out.ans
        obtain ⟨⟨x0, x1, x2⟩, x3, x4, x5⟩ := row6_cells HBK.out.box
        have l0 := HBK.out.ans.lt
        have hlt := HBK.out.lt
        have HEND : Hid (Drew sb w (set6 w.heap.size L wc)) := ⟨set6_src L HBK.out.dr.1 hlt, set6_chg L HBK.out.dr.2 (Nat.le_refl _)⟩
        clear HBK
        unfold set6 at HEND
        obtain ⟨z0, z1, z2, z3, z4, z5⟩ := L
        go_wp2_with fail
        exact bodyPost_ret (v := .agg #[.float .f64 z0, .float .f64 z1, .float .f64 z2, .float .f64 z3, .float .f64 z4, .float .f64 z5]) (by simp [results, Tryd.results18, go_sem, c0, c1, c2, c3, c4, c5]) rfl ⟨⟨⟨z0, z1, z2, z3, z4, z5⟩, rfl⟩, HEND.out⟩
      · have HB1 := Lib.hid (HBK.out.put (l' := ⟨L.up, L.sum, L.gain, L.lag, L.low, 4741671816366391296⟩) 5 4741671816366391296 (by omega) rfl)
        have HB2 := Lib.hid (HB1.out.put (l' := ⟨L.up, L.sum, L.gain, L.lag, 13965043853221167104, 4741671816366391296⟩) 4 13965043853221167104 (by omega) rfl)
        have HB3 := Lib.hid (HB2.out.put (l' := ⟨L.up, L.sum, 4740832955566391296, L.lag, 13965043853221167104, 4741671816366391296⟩) 2 4740832955566391296 (by omega) rfl)
        obtain ⟨⟨y0, y1, y2, y3, y4, y5⟩, g0, g1, g2, g3', g4, g5⟩ := row6_all HBK.out.box
        have lb := HBK.out.box.lt
        have nb := HBK.out.num
        obtain ⟨Wd, hWd⟩ : ∃ Wd, Wd = ((wc.setCell ⟨g3, 5, none⟩ (.float .f64 4741671816366391296)).setCell ⟨g3, 4, none⟩ (.float .f64 13965043853221167104)).setCell ⟨g3, 2, none⟩ (.float .f64 4740832955566391296) := ⟨_, rfl⟩
        rw [← hWd] at HB3
        obtain ⟨L2, hL2⟩ : ∃ L2 : Fl.Lo, L2 = ⟨L.up, L.sum, 4740832955566391296, L.lag, 13965043853221167104, 4741671816366391296⟩ := ⟨_, rfl⟩
        have HL2 := Lib.hid hL2
        have HWd := Lib.hid hWd
        obtain ⟨⟨c0, c1, c2, c3, c4, c5⟩, f0, f1, f2, f3, f4, f5⟩ := row6_all HBK.out.ans
        have l0 := HBK.out.ans.lt
        have hlt := HBK.out.lt
        have hnum := HBK.out.num
        have HEND : Hid (Drew sb w (set6 w.heap.size ⟨L.up, L.sum, 4740832955566391296, L.lag, 13965043853221167104, 4741671816366391296⟩ (((wc.setCell ⟨g3, 5, none⟩ (.float .f64 4741671816366391296)).setCell ⟨g3, 4, none⟩ (.float .f64 13965043853221167104)).setCell ⟨g3, 2, none⟩ (.float .f64 4740832955566391296)))) := by
          show Drew _ _ _
          rw [← hWd]
          exact ⟨set6_src _ HB3.out.dr.1 hlt, set6_chg _ HB3.out.dr.2 (Nat.le_refl _)⟩
        obtain ⟨⟨d0, d1, d2, d3, d4, d5⟩, _⟩ := row6_all HB3.out.box
        have hne : ¬ w.heap.size = g3 := by omega
        clear HBK HB1 HB2 HB3 hWd hL2 HL2
        rw [HWd.out] at d0 d1 d2 d3 d4 d5
        unfold set6 at HEND
        clear HWd
        go_wp2_with fail
        exact bodyPost_ret (v := .agg #[.float .f64 L.up, .float .f64 L.sum, .float .f64 4740832955566391296, .float .f64 L.lag, .float .f64 13965043853221167104, .float .f64 4741671816366391296]) (by simp [results, Tryd.results18, go_sem, c0, c1, c2, c3, c4, c5]) rfl ⟨⟨⟨L.up, L.sum, 4740832955566391296, L.lag, 13965043853221167104, 4741671816366391296⟩, rfl⟩, HEND.out⟩
  · go_wp2_with fail
    refine (float_any sb _ HBK.out.dr.1).mono ?_
    rintro e w9 ⟨⟨xx, rfl⟩, hD⟩
    replace HBK := Lib.hid (HBK.out.draw hD)
    clear hD
    obtain ⟨W9, hW9⟩ : ∃ W9, W9 = w9.setCell ⟨g3, 3, none⟩ (.float .f64 xx) := ⟨_, rfl⟩
    have HBN : Hid (LD0 w sb ⟨L.up, L.sum, L.gain, xx, L.low, L.high⟩ g3 W9) := by show LD0 _ _ _ _ _; rw [hW9]; exact HBK.out.put 3 xx (by omega) rfl
    have y0 := HBK.out.box.cell (i := 3) (by omega)
    have z0 := HBK.out.box.frozen 3
    have lb := HBK.out.box.lt
    have HWN := Lib.hid hW9
    clear hW9 HBK
    go_wp2_with fail
    rw [← HWN.out]
    clear HWN y0 z0 lb
    obtain ⟨L2, hL2⟩ : ∃ L2 : Fl.Lo, L2 = ⟨L.up, L.sum, L.gain, xx, L.low, L.high⟩ := ⟨_, rfl⟩
    rw [← hL2] at HBN
    clear hL2 L
    obtain ⟨L, hLL⟩ : ∃ L, L = L2 := ⟨_, rfl⟩
    subst hLL
    have HBK := HBN
    clear HBN
    refine (one_any sb 20 _ HBK.out.dr.1 (by omega)).mono ?_
    rintro e wa ⟨⟨b2, rfl⟩, hD⟩
    replace HBK := Lib.hid (HBK.out.draw hD)
    clear hD
    cases b2
    · go_wp2_with fail
      refine (one_any sb 20 _ HBK.out.dr.1 (by omega)).mono ?_
      rintro e wc ⟨⟨b3, rfl⟩, hD⟩
      replace HBK := Lib.hid (HBK.out.draw hD)
      clear hD
      cases b3
      · obtain ⟨⟨c0, c1, c2, c3, c4, c5⟩, f0, f1, f2, f3, f4, f5⟩ := row6_all HBK.out.ans
        obtain ⟨⟨x0, x1, x2⟩, x3, x4, x5⟩ := row6_cells HBK.out.box
        have l0 := HBK.out.ans.lt
        have hlt := HBK.out.lt
        have HEND : Hid (Drew sb w (set6 w.heap.size L wc)) := ⟨set6_src L HBK.out.dr.1 hlt, set6_chg L HBK.out.dr.2 (Nat.le_refl _)⟩
        clear HBK
        unfold set6 at HEND
        obtain ⟨z0, z1, z2, z3, z4, z5⟩ := L
        go_wp2_with fail
        exact bodyPost_ret (v := .agg #[.float .f64 z0, .float .f64 z1, .float .f64 z2, .float .f64 z3, .float .f64 z4, .float .f64 z5]) (by simp [results, Tryd.results18, go_sem, c0, c1, c2, c3, c4, c5]) rfl ⟨⟨⟨z0, z1, z2, z3, z4, z5⟩, rfl⟩, HEND.out⟩
      · have HB1 := Lib.hid (HBK.out.put (l' := ⟨L.up, L.sum, L.gain, L.lag, L.low, 4741671816366391296⟩) 5 4741671816366391296 (by omega) rfl)
        have HB2 := Lib.hid (HB1.out.put (l' := ⟨L.up, L.sum, L.gain, L.lag, 13965043853221167104, 4741671816366391296⟩) 4 13965043853221167104 (by omega) rfl)
        have HB3 := Lib.hid (HB2.out.put (l' := ⟨L.up, L.sum, 4740832955566391296, L.lag, 13965043853221167104, 4741671816366391296⟩) 2 4740832955566391296 (by omega) rfl)
        obtain ⟨⟨y0, y1, y2, y3, y4, y5⟩, g0, g1, g2, g3', g4, g5⟩ := row6_all HBK.out.box
        have lb := HBK.out.box.lt
        have nb := HBK.out.num
        obtain ⟨Wd, hWd⟩ : ∃ Wd, Wd = ((wc.setCell ⟨g3, 5, none⟩ (.float .f64 4741671816366391296)).setCell ⟨g3, 4, none⟩ (.float .f64 13965043853221167104)).setCell ⟨g3, 2, none⟩ (.float .f64 4740832955566391296) := ⟨_, rfl⟩
        rw [← hWd] at HB3
        obtain ⟨L2, hL2⟩ : ∃ L2 : Fl.Lo, L2 = ⟨L.up, L.sum, 4740832955566391296, L.lag, 13965043853221167104, 4741671816366391296⟩ := ⟨_, rfl⟩
        have HL2 := Lib.hid hL2
        have HWd := Lib.hid hWd
        obtain ⟨⟨c0, c1, c2, c3, c4, c5⟩, f0, f1, f2, f3, f4, f5⟩ := row6_all HBK.out.ans
        have l0 := HBK.out.ans.lt
        have hlt := HBK.out.lt
        have hnum := HBK.out.num
        have HEND : Hid (Drew sb w (set6 w.heap.size ⟨L.up, L.sum, 4740832955566391296, L.lag, 13965043853221167104, 4741671816366391296⟩ (((wc.setCell ⟨g3, 5, none⟩ (.float .f64 4741671816366391296)).setCell ⟨g3, 4, none⟩ (.float .f64 13965043853221167104)).setCell ⟨g3, 2, none⟩ (.float .f64 4740832955566391296)))) := by
          show Drew _ _ _
          rw [← hWd]
          exact ⟨set6_src _ HB3.out.dr.1 hlt, set6_chg _ HB3.out.dr.2 (Nat.le_refl _)⟩
        obtain ⟨⟨d0, d1, d2, d3, d4, d5⟩, _⟩ := row6_all HB3.out.box
        have hne : ¬ w.heap.size = g3 := by omega
        clear HBK HB1 HB2 HB3 hWd hL2 HL2
        rw [HWd.out] at d0 d1 d2 d3 d4 d5
        unfold set6 at HEND
        clear HWd
        go_wp2_with fail
        exact bodyPost_ret (v := .agg #[.float .f64 L.up, .float .f64 L.sum, .float .f64 4740832955566391296, .float .f64 L.lag, .float .f64 13965043853221167104, .float .f64 4741671816366391296]) (by simp [results, Tryd.results18, go_sem, c0, c1, c2, c3, c4, c5]) rfl ⟨⟨⟨L.up, L.sum, 4740832955566391296, L.lag, 13965043853221167104, 4741671816366391296⟩, rfl⟩, HEND.out⟩
    · go_wp2_with fail
      refine (float_any sb _ HBK.out.dr.1).mono ?_
      rintro e wb ⟨⟨xx, rfl⟩, hD⟩
      replace HBK := Lib.hid (HBK.out.draw hD)
      clear hD
      obtain ⟨Wb, hWb⟩ : ∃ Wb, Wb = wb.setCell ⟨g3, 0, none⟩ (.float .f64 xx) := ⟨_, rfl⟩
      have HBN : Hid (LD0 w sb ⟨xx, L.sum, L.gain, L.lag, L.low, L.high⟩ g3 Wb) := by show LD0 _ _ _ _ _; rw [hWb]; exact HBK.out.put 0 xx (by omega) rfl
      have y0 := HBK.out.box.cell (i := 0) (by omega)
      have z0 := HBK.out.box.frozen 0
      have lb := HBK.out.box.lt
      have HWN := Lib.hid hWb
      clear hWb HBK
      go_wp2_with fail
      rw [← HWN.out]
      clear HWN y0 z0 lb
      obtain ⟨L2, hL2⟩ : ∃ L2 : Fl.Lo, L2 = ⟨xx, L.sum, L.gain, L.lag, L.low, L.high⟩ := ⟨_, rfl⟩
      rw [← hL2] at HBN
      clear hL2 L
      obtain ⟨L, hLL⟩ : ∃ L, L = L2 := ⟨_, rfl⟩
      subst hLL
      have HBK := HBN
      clear HBN
      refine (one_any sb 20 _ HBK.out.dr.1 (by omega)).mono ?_
      rintro e wc ⟨⟨b3, rfl⟩, hD⟩
      replace HBK := Lib.hid (HBK.out.draw hD)
      clear hD
      cases b3
      · obtain ⟨⟨c0, c1, c2, c3, c4, c5⟩, f0, f1, f2, f3, f4, f5⟩ := row6_all HBK.out.ans
        obtain ⟨⟨x0, x1, x2⟩, x3, x4, x5⟩ := row6_cells HBK.out.box
        have l0 := HBK.out.ans.lt
        have hlt := HBK.out.lt
        have HEND : Hid (Drew sb w (set6 w.heap.size L wc)) := ⟨set6_src L HBK.out.dr.1 hlt, set6_chg L HBK.out.dr.2 (Nat.le_refl _)⟩
        clear HBK
        unfold set6 at HEND
        obtain ⟨z0, z1, z2, z3, z4, z5⟩ := L
        go_wp2_with fail
        exact bodyPost_ret (v := .agg #[.float .f64 z0, .float .f64 z1, .float .f64 z2, .float .f64 z3, .float .f64 z4, .float .f64 z5]) (by simp [results, Tryd.results18, go_sem, c0, c1, c2, c3, c4, c5]) rfl ⟨⟨⟨z0, z1, z2, z3, z4, z5⟩, rfl⟩, HEND.out⟩
      · have HB1 := Lib.hid (HBK.out.put (l' := ⟨L.up, L.sum, L.gain, L.lag, L.low, 4741671816366391296⟩) 5 4741671816366391296 (by omega) rfl)
        have HB2 := Lib.hid (HB1.out.put (l' := ⟨L.up, L.sum, L.gain, L.lag, 13965043853221167104, 4741671816366391296⟩) 4 13965043853221167104 (by omega) rfl)
        have HB3 := Lib.hid (HB2.out.put (l' := ⟨L.up, L.sum, 4740832955566391296, L.lag, 13965043853221167104, 4741671816366391296⟩) 2 4740832955566391296 (by omega) rfl)
        obtain ⟨⟨y0, y1, y2, y3, y4, y5⟩, g0, g1, g2, g3', g4, g5⟩ := row6_all HBK.out.box
        have lb := HBK.out.box.lt
        have nb := HBK.out.num
        obtain ⟨Wd, hWd⟩ : ∃ Wd, Wd = ((wc.setCell ⟨g3, 5, none⟩ (.float .f64 4741671816366391296)).setCell ⟨g3, 4, none⟩ (.float .f64 13965043853221167104)).setCell ⟨g3, 2, none⟩ (.float .f64 4740832955566391296) := ⟨_, rfl⟩
        rw [← hWd] at HB3
        obtain ⟨L2, hL2⟩ : ∃ L2 : Fl.Lo, L2 = ⟨L.up, L.sum, 4740832955566391296, L.lag, 13965043853221167104, 4741671816366391296⟩ := ⟨_, rfl⟩
        have HL2 := Lib.hid hL2
        have HWd := Lib.hid hWd
        obtain ⟨⟨c0, c1, c2, c3, c4, c5⟩, f0, f1, f2, f3, f4, f5⟩ := row6_all HBK.out.ans
        have l0 := HBK.out.ans.lt
        have hlt := HBK.out.lt
        have hnum := HBK.out.num
        have HEND : Hid (Drew sb w (set6 w.heap.size ⟨L.up, L.sum, 4740832955566391296, L.lag, 13965043853221167104, 4741671816366391296⟩ (((wc.setCell ⟨g3, 5, none⟩ (.float .f64 4741671816366391296)).setCell ⟨g3, 4, none⟩ (.float .f64 13965043853221167104)).setCell ⟨g3, 2, none⟩ (.float .f64 4740832955566391296)))) := by
          show Drew _ _ _
          rw [← hWd]
          exact ⟨set6_src _ HB3.out.dr.1 hlt, set6_chg _ HB3.out.dr.2 (Nat.le_refl _)⟩
        obtain ⟨⟨d0, d1, d2, d3, d4, d5⟩, _⟩ := row6_all HB3.out.box
        have hne : ¬ w.heap.size = g3 := by omega
        clear HBK HB1 HB2 HB3 hWd hL2 HL2
        rw [HWd.out] at d0 d1 d2 d3 d4 d5
        unfold set6 at HEND
        clear HWd
        go_wp2_with fail
        exact bodyPost_ret (v := .agg #[.float .f64 L.up, .float .f64 L.sum, .float .f64 4740832955566391296, .float .f64 L.lag, .float .f64 13965043853221167104, .float .f64 4741671816366391296]) (by simp [results, Tryd.results18, go_sem, c0, c1, c2, c3, c4, c5]) rfl ⟨⟨⟨L.up, L.sum, 4740832955566391296, L.lag, 13965043853221167104, 4741671816366391296⟩, rfl⟩, HEND.out⟩
end Go.Proofs.YtplghjghecfeoaaDoor
