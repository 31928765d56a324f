/-
  The law FnExactStoreStep.
-/
import Derived.Test.YtcelnplkoidmhamDoorStN2
import Derived.Test.YtcelnplkoidmhamDoorStLawR
namespace Go.Proofs.YtcelnplkoidmhamDoor
open Go.RowKit Go.Deep

set_option maxRecDepth 100000 in
set_option maxHeartbeats 1000000 in
theorem eqOut_same (x : Ans) (w : World) :
    Calls Tryd.prog 9 #[ansV x, ansV x] w fun e w' => e = .returned (.bool true) ∧ Below w.heap.size w w' := by
  go_enter Tryd.func9, Tryd.ntmps9
  go_wp2_with fail
  go_ret
  exact ⟨rfl, ((Below.refl _ _).alloc (Nat.le_refl _) _).alloc (by simp) _⟩
set_option maxRecDepth 100000 in
set_option maxHeartbeats 4000000 in
theorem stStep_law (w : World) (ca : Option Addr) (cn ck : Nat) (c : Nat → St.Pr) (h1 : PrsIn ca cn c w) (hm1 : cn ≤ 9223372036854775807) (ra : Option Addr) (rn rk : Nat) (r : Nat → St.Pr) (h2 : PrsIn ra rn r w) (hm2 : rn ≤ 9223372036854775807) (v : Int) (y : Int) (x : Int) (hg : Et w) :
    Calls Tryd.prog 3 #[stV ca cn ck ra rn rk v, .int .i64 y, .int .i64 x] w fun e w' => e = .returned (.bool true) ∧ Below w.heap.size w w' := by
  have H1 := Lib.hid h1
  have H2 := Lib.hid h2
  have HET := Lib.hid hg
  obtain ⟨W, hW⟩ : ∃ W, W = w.alloc (.cells #[.slice ca cn ck, .slice ra rn rk, .int .i64 v] 25) := ⟨_, rfl⟩
  have HB : Hid (Below w.heap.size w W) := by show Below _ _ _; rw [hW]; exact (Below.refl _ _).alloc (Nat.le_refl _) _
  have HR : Hid (W.rowIs w.heap.size 25 3 (r3 (.slice ca cn ck) (.slice ra rn rk) (.int .i64 v))) := by show World.rowIs _ _ _ _ _; rw [hW]; exact row3 w _ _ _ _
  have HW := Lib.hid hW
  have HM1 := Lib.hid hm1
  have HM2 := Lib.hid hm2
  clear hW h1 h2 hm1 hm2 hg 
  go_enter Tryd.func3, Tryd.ntmps3
  go_wp2_with fail
  rw [← HW.out]
  refine (szStore_any ca cn ck ra rn rk v _ HM1.out HM2.out).mono ?_
  rintro e w1 ⟨⟨z, rfl, hz⟩, hb1⟩
  have R1 := row_below HR.out hb1
  have HB1 : Hid (Below w.heap.size w w1) := HB.out.trans (hb1.mono HB.out.size)
  obtain ⟨⟨a0, a1, a2⟩, _⟩ := row3_cells R1
  have HR1 := Lib.hid R1
  clear R1 hb1
  rcases hz with hz | ⟨hz, hn1, hn2⟩
  · clear HR1
    go_wp2_with fail
    go_ret
    exact ⟨rfl, HB1.out⟩
  have N1 := Lib.hid hn1
  have N2 := Lib.hid hn2
  clear hn1 hn2
  go_wp2_with fail
  refine (toStore_any ca cn ck c ra rn rk r v _ (H1.out.below HB1.out) (H2.out.below HB1.out) N1.out N2.out).mono ?_
  rintro e w2 ⟨⟨g1, g2, rfl, hk⟩, hb2⟩
  have HR2 := Lib.hid (row_below HR1.out hb2)
  have HB2 : Hid (Below w.heap.size w w2) := HB1.out.trans (hb2.mono HB1.out.size)
  have HK2 := Lib.hid hk
  clear a0 a1 a2 hb2 hk
  go_wp2_with fail
  refine (sStep_any (some ⟨g1, 0, none⟩) cn cn c (some ⟨g2, 0, none⟩) rn rn r v y x _ HK2.out.at_).mono ?_
  rintro e w3x ⟨⟨y1, rfl, hy1⟩, hG⟩
  obtain ⟨W3, hW3⟩ : ∃ W3, W3 = w3x.alloc (.cells #[.int .i64 y1.a, .int .i64 y1.b, .int .i64 y1.c, .int .i64 y1.d, .int .i64 y1.e, .int .i64 y1.k] 28) := ⟨_, rfl⟩
  have hb3 : Below w3x.heap.size w3x W3 := by rw [hW3]; exact (Below.refl _ _).alloc (Nat.le_refl _) _
  have HY : Hid (W3.rowIs w3x.heap.size 28 6 (r6 (.int .i64 y1.a) (.int .i64 y1.b) (.int .i64 y1.c) (.int .i64 y1.d) (.int .i64 y1.e) (.int .i64 y1.k))) := by show World.rowIs _ _ _ _ _; rw [hW3]; exact row6 w3x _ _ _ _ _ _ _
  have hbz : Below w.heap.size w w3x := HB2.out.trans (hG.bel.mono HB2.out.size)
  have HB3 : Hid (Below w.heap.size w W3) := hbz.trans (hb3.mono hbz.size)
  have HR3 := Lib.hid (row_below (row_below HR2.out hG.bel) hb3)
  obtain ⟨⟨a0, a1, a2⟩, _⟩ := row3_cells HR3.out
  have HY1 := Lib.hid hy1.out
  have HW3 := Lib.hid hW3
  have hl3 : w.heap.size < w3x.heap.size := by
    have := (row_below HR2.out hG.bel).lt
    exact this
  obtain ⟨⟨e0, e1, e2⟩, _⟩ := row3_cells (row_below HR2.out hG.bel)
  clear hG hb3 hbz hW3 hy1 a0 a1 a2
  go_wp2_with fail
  rw [← HW3.out]
  clear e0 e1 e2
  refine (toStore_any ca cn ck c ra rn rk r v _ (H1.out.below HB3.out) (H2.out.below HB3.out) N1.out N2.out).mono ?_
  rintro e wx ⟨⟨g3, g4, rfl, hk⟩, hbx⟩
  obtain ⟨WX, hWX⟩ : ∃ WX, WX = wx.alloc (.cells #[.slice (some ⟨g3, 0, none⟩) cn cn, .slice (some ⟨g4, 0, none⟩) rn rn, .int .i64 v] 33) := ⟨_, rfl⟩
  have hbx' : Below wx.heap.size wx WX := by rw [hWX]; exact (Below.refl _ _).alloc (Nat.le_refl _) _
  have HXX : Hid (WX.rowIs wx.heap.size 33 3 (r3 (.slice (some ⟨g3, 0, none⟩) cn cn) (.slice (some ⟨g4, 0, none⟩) rn rn) (.int .i64 v))) := by show World.rowIs _ _ _ _ _; rw [hWX]; exact row3 wx _ _ _ _
  have hbz : Below w.heap.size w wx := HB3.out.trans (hbx.mono HB3.out.size)
  have HBX : Hid (Below w.heap.size w WX) := hbz.trans (hbx'.mono hbz.size)
  have HRX := Lib.hid (row_below (row_below HR3.out hbx) hbx')
  have HYX := Lib.hid (row_below (row_below HY.out hbx) hbx')
  have HKX := Lib.hid (hk.below hbx')
  have HWX := Lib.hid hWX
  clear hk hbx hbx' hWX hbz
  obtain ⟨⟨x0, x1, x2⟩, _⟩ := row3_cells HXX.out
  go_wp2_with fail
  rw [← HWX.out]
  refine (implStep_any (some ⟨g3, 0, none⟩) cn cn c (some ⟨g4, 0, none⟩) rn rn r v y x _ HKX.out.at_ (HET.out.below HBX.out)).mono ?_
  rintro e wy ⟨⟨y2, rfl, hy2⟩, hb⟩
  obtain rfl : y1 = y2 := HY1.out.one hy2.out
  clear x0 x1 x2
  obtain ⟨WY, hWY⟩ : ∃ WY, WY = wy.alloc (.cells #[.int .i64 y1.a, .int .i64 y1.b, .int .i64 y1.c, .int .i64 y1.d, .int .i64 y1.e, .int .i64 y1.k] 28) := ⟨_, rfl⟩
  have hb' : Below wy.heap.size wy WY := by rw [hWY]; exact (Below.refl _ _).alloc (Nat.le_refl _) _
  have hbb : Below WX.heap.size WX WY := hb.trans (hb'.mono hb.size)
  have HS : Hid (LawS w w.heap.size wx.heap.size (r3 (.slice ca cn ck) (.slice ra rn rk) (.int .i64 v)) (r3 (.slice (some ⟨g3, 0, none⟩) cn cn) (.slice (some ⟨g4, 0, none⟩) rn rn) (.int .i64 v)) (fun W => StBlk W3.heap.size g3 g4 cn c rn r W) WY) :=
    ⟨row_below HRX.out hbb, row_below HXX.out hbb, HKX.out.below hbb, HBX.out.trans (hbb.mono HBX.out.size)⟩
  have hY1 := row6_cells (row_below HYX.out hb)
  obtain ⟨⟨d0, d1, d2, d3, d4, d5⟩, _⟩ := hY1
  have hly : w3x.heap.size < wy.heap.size := World.block_lt_of_cell? _ _ d0
  have HWY := Lib.hid hWY
  clear hb hb' hbb hWY hy2
  go_wp2_with fail
  rw [← HWY.out]
  refine (eqOut_same y1 _).mono ?_
  rintro e wz ⟨rfl, hb⟩
  have HSZ := Lib.hid (LawS.stb HS.out hb)
  clear hb HS d0 d1 d2 d3 d4 d5
  go_wp2_with fail
  refine wp_region_held_drew (S := LawS w w.heap.size wx.heap.size (r3 (.slice ca cn ck) (.slice ra rn rk) (.int .i64 v)) (r3 (.slice (some ⟨g3, 0, none⟩) cn cn) (.slice (some ⟨g4, 0, none⟩) rn rn) (.int .i64 v)) (fun W => StBlk W3.heap.size g3 g4 cn c rn r W)) (by kernel_rfl) (LawS.stb HSZ.out (Below.refl _ _).drew) (fun hHeld => ?_)
  clear HSZ
  refine take_do (i := 0) (v := (stV (some ⟨g3, 0, none⟩) cn cn (some ⟨g4, 0, none⟩) rn rn v)) rfl (by kernel_rfl) (by kernel_rfl) (by kernel_rfl) (fun _ _ _ h => h) (by rfl) ?_ (by assumption) ?_
  · intro w hSw
    obtain ⟨⟨a0, a1, a2⟩, _⟩ := row3_cells hSw.1; obtain ⟨⟨x0, x1, x2⟩, _⟩ := row3_cells hSw.2.1
    go_simp
  simp only [Act.put, List.setIfInBounds_toArray, List.set_cons_zero, List.set_cons_succ]
  refine take_do (i := 1) (v := (stV ca cn ck ra rn rk v)) rfl (by kernel_rfl) (by kernel_rfl) (by kernel_rfl) (fun _ _ _ h => h) (by rfl) ?_ (by assumption) ?_
  · intro w hSw
    obtain ⟨⟨a0, a1, a2⟩, _⟩ := row3_cells hSw.1; obtain ⟨⟨x0, x1, x2⟩, _⟩ := row3_cells hSw.2.1
    go_simp
  simp only [Act.put, List.setIfInBounds_toArray, List.set_cons_zero, List.set_cons_succ]
  refine take_call (i := 2) rfl (by kernel_rfl) (fun K2 hK => ?_)
  go_simp
  refine (toStore_any ca cn ck c ra rn rk r v _ (H1.out.below hHeld.2.2.2) (H2.out.below hHeld.2.2.2) N1.out N2.out).mono ?_
  rintro e w6 ⟨⟨g5, g6, rfl, hk6⟩, hb6⟩
  have HK6 := Lib.hid hk6
  go_wp2_with fail
  refine hK.out _ _ (LawS.stb hHeld hb6) (fun hHeld2 => ?_)
  clear hK hHeld hb6 hk6
  refine take_call (i := 3) rfl (by kernel_rfl) (fun K2 hK => ?_)
  go_simp
  refine (eqStore_same _ _ _ _ cn cn cn rn rn rn c r v _ hHeld2.2.2.1.at_ HK6.out.at_ N1.out N2.out).mono ?_
  rintro e w7 ⟨rfl, hb7⟩
  go_wp2_with fail
  refine hK.out _ _ (LawS.stb hHeld2 hb7) (fun hHeld => ?_)
  clear hK hHeld2 hb7
  refine take_do (i := 4) (v := (.bool false)) rfl (by kernel_rfl) (by kernel_rfl) (by kernel_rfl) (fun _ _ _ h => h) (by rfl) ?_ (by assumption) ?_
  · intro w hSw
    obtain ⟨⟨a0, a1, a2⟩, _⟩ := row3_cells hSw.1; obtain ⟨⟨x0, x1, x2⟩, _⟩ := row3_cells hSw.2.1
    go_simp
  simp only [Act.put, List.setIfInBounds_toArray, List.set_cons_zero, List.set_cons_succ]
  refine wpAnyH_done (by kernel_rfl) ?_ _
  have HBE := Lib.hid hHeld.2.2.2
  clear hHeld
  go_wp2_with fail
  go_ret
  exact ⟨rfl, HBE.out⟩
end Go.Proofs.YtcelnplkoidmhamDoor
