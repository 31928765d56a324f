/-
  The law FnExactStoreRun.
-/
import Derived.Test.YtdpghhmcibiplaaDoorStLawS
import Derived.Test.YtdpghhmcibiplaaDoorStR3
namespace Go.Proofs.YtdpghhmcibiplaaDoor
open Go.RowKit Go.Deep

theorem LawS.stw {w : World} {gb gx B g1 g2 cn rn gi n gj m : Nat} {c r : Nat → St.Pr} {ins wants : Nat → Int} {A X : Nat → Value} {W W' : World} (h : LawS w gb gx A X (fun W => StBlk B g1 g2 cn c rn r W ∧ InBlk gi n ins W ∧ InBlk gj m wants W) W) (hb : Below W.heap.size W W') : LawS w gb gx A X (fun W => StBlk B g1 g2 cn c rn r W ∧ InBlk gi n ins W ∧ InBlk gj m wants W) W' := h.below (fun _ _ hp hb => ⟨hp.1.below hb, hp.2.1.below hb, hp.2.2.below hb⟩) hb
set_option maxRecDepth 100000 in
set_option maxHeartbeats 4000000 in
theorem stRun_law (w : World) (ca : Option Addr) (cn ck : Nat) (c : Nat → St.Pr) (h1 : PrsIn ca cn c w) (hm1 : cn ≤ 9223372036854775807) (ra : Option Addr) (rn rk : Nat) (r : Nat → St.Pr) (h2 : PrsIn ra rn r w) (hm2 : rn ≤ 9223372036854775807) (v : Int) (insa : Option Addr) (insn insk : Nat) (ins : Nat → Int) (hins : IntsIn insa insn ins w) (mins : insn ≤ 9223372036854775807) (wantsa : Option Addr) (wantsn wantsk : Nat) (wants : Nat → Int) (hwants : IntsIn wantsa wantsn wants w) (mwants : wantsn ≤ 9223372036854775807) (hg : Et w ∧ TabOk w) :
    Calls Tryd.prog 8 #[stV ca cn ck ra rn rk v, .slice insa insn insk, .slice wantsa wantsn wantsk] w fun e w' => e = .returned (.bool true) ∧ Below w.heap.size w w' := by
  have Hins := Lib.hid hins
  have Hwants := Lib.hid hwants
  have H1 := Lib.hid h1
  have H2 := Lib.hid h2
  have HET := Lib.hid hg
  obtain ⟨W, hW⟩ : ∃ W, W = w.alloc (.cells #[.slice ca cn ck, .slice ra rn rk, .int .i64 v] 58) := ⟨_, rfl⟩
  have HB : Hid (Below w.heap.size w W) := by show Below _ _ _; rw [hW]; exact (Below.refl _ _).alloc (Nat.le_refl _) _
  have HR : Hid (W.rowIs w.heap.size 58 3 (r3 (.slice ca cn ck) (.slice ra rn rk) (.int .i64 v))) := by show World.rowIs _ _ _ _ _; rw [hW]; exact row3 w _ _ _ _
  have HW := Lib.hid hW
  have HM1 := Lib.hid hm1
  have HM2 := Lib.hid hm2
  clear hW h1 h2 hm1 hm2 hg hins hwants
  by_cases bins : 1048576 < insn
  · have hzins : (1048576 : Int) < (insn : Int) := by omega
    go_enter Tryd.func8, Tryd.ntmps8
    go_wp2_with fail
    go_ret
    have hB := HB.out
    rw [HW.out] at hB
    exact ⟨rfl, hB⟩
  have hzins : ¬ (1048576 : Int) < (insn : Int) := by omega
  by_cases bwants : 1048576 < wantsn
  · have hzwants : (1048576 : Int) < (wantsn : Int) := by omega
    go_enter Tryd.func8, Tryd.ntmps8
    go_wp2_with fail
    go_ret
    have hB := HB.out
    rw [HW.out] at hB
    exact ⟨rfl, hB⟩
  have hzwants : ¬ (1048576 : Int) < (wantsn : Int) := by omega
  go_enter Tryd.func8, Tryd.ntmps8
  go_wp2_with fail
  rw [← HW.out]
  refine (szStore_any ca cn ck ra rn rk v _ HM1.out HM2.out).mono ?_
  rintro e w1 ⟨⟨z, rfl, hz⟩, hb1⟩
  have R1 := row_below HR.out hb1
  have HB1 : Hid (Below w.heap.size w w1) := HB.out.trans (hb1.mono HB.out.size)
  obtain ⟨⟨a0, a1, a2⟩, _⟩ := row3_cells R1
  have HR1 := Lib.hid R1
  clear R1 hb1
  rcases hz with hz | ⟨hz, hn1, hn2⟩
  · clear HR1
    go_wp2_with fail
    go_ret
    exact ⟨rfl, HB1.out⟩
  have N1 := Lib.hid hn1
  have N2 := Lib.hid hn2
  clear hn1 hn2
  go_wp2_with fail
  refine (toStore_any ca cn ck c ra rn rk r v _ (H1.out.below HB1.out) (H2.out.below HB1.out) N1.out N2.out).mono ?_
  rintro e w2 ⟨⟨g1, g2, rfl, hk⟩, hb2⟩
  have HR2 := Lib.hid (row_below HR1.out hb2)
  have HB2 : Hid (Below w.heap.size w w2) := HB1.out.trans (hb2.mono HB1.out.size)
  have HK2 := Lib.hid hk
  clear a0 a1 a2 hb2 hk
  go_wp2_with fail
  refine (toInt64S_any insa insn insk ins _ (Hins.out.below HB2.out) (by omega)).mono ?_
  rintro e w3 ⟨⟨rfl, hq⟩, hb⟩
  have HB3 : Hid (Below w.heap.size w w3) := HB2.out.trans (hb.mono HB2.out.size)
  have HK3 := Lib.hid (HK2.out.below hb)
  have HR3 := Lib.hid (row_below HR2.out hb)
  have HQins3 := Lib.hid hq
  clear hb hq
  go_wp2_with fail
  refine (toInt64S_any wantsa wantsn wantsk wants _ (Hwants.out.below HB3.out) (by omega)).mono ?_
  rintro e w4 ⟨⟨rfl, hq⟩, hb⟩
  have HB4 : Hid (Below w.heap.size w w4) := HB3.out.trans (hb.mono HB3.out.size)
  have HK4 := Lib.hid (HK3.out.below hb)
  have HR4 := Lib.hid (row_below HR3.out hb)
  have HQins4 := Lib.hid (HQins3.out.below hb)
  have HQwants4 := Lib.hid hq
  clear hb hq
  go_wp2_with fail
  refine (sRun_any (some ⟨g1, 0, none⟩) cn cn c (some ⟨g2, 0, none⟩) rn rn r v _ insn insn ins _ wantsn wantsn wants _ HK4.out.at_ HQins4.out.at_ HQwants4.out.at_ (by omega) (by omega)).mono ?_
  rintro e w3x ⟨⟨y1, rfl, hy1⟩, hG⟩
  obtain ⟨W3, hW3⟩ : ∃ W3, W3 = w3x.alloc (.cells #[.int .i64 y1.a, .int .i64 y1.b, .int .i64 y1.c, .int .i64 y1.d, .int .i64 y1.e, .int .i64 y1.k] 61) := ⟨_, rfl⟩
  have hb3 : Below w3x.heap.size w3x W3 := by rw [hW3]; exact (Below.refl _ _).alloc (Nat.le_refl _) _
  have HY : Hid (W3.rowIs w3x.heap.size 61 6 (r6 (.int .i64 y1.a) (.int .i64 y1.b) (.int .i64 y1.c) (.int .i64 y1.d) (.int .i64 y1.e) (.int .i64 y1.k))) := by show World.rowIs _ _ _ _ _; rw [hW3]; exact row6 w3x _ _ _ _ _ _ _
  have hbz : Below w.heap.size w w3x := HB4.out.trans (hG.mono HB4.out.size)
  have HB3 : Hid (Below w.heap.size w W3) := hbz.trans (hb3.mono hbz.size)
  have HR3 := Lib.hid (row_below (row_below HR4.out hG) hb3)
  obtain ⟨⟨a0, a1, a2⟩, _⟩ := row3_cells HR3.out
  have HY1 := Lib.hid hy1.out
  have HW3 := Lib.hid hW3
  have hl3 : w.heap.size < w3x.heap.size := by
    have := (row_below HR4.out hG).lt
    exact this
  obtain ⟨⟨e0, e1, e2⟩, _⟩ := row3_cells (row_below HR4.out hG)
  clear hG hb3 hbz hW3 hy1 a0 a1 a2
  go_wp2_with fail
  rw [← HW3.out]
  clear e0 e1 e2
  refine (toStore_any ca cn ck c ra rn rk r v _ (H1.out.below HB3.out) (H2.out.below HB3.out) N1.out N2.out).mono ?_
  rintro e wx ⟨⟨g3, g4, rfl, hk⟩, hbx⟩
  obtain ⟨WX, hWX⟩ : ∃ WX, WX = wx.alloc (.cells #[.slice (some ⟨g3, 0, none⟩) cn cn, .slice (some ⟨g4, 0, none⟩) rn rn, .int .i64 v] 66) := ⟨_, rfl⟩
  have hbx' : Below wx.heap.size wx WX := by rw [hWX]; exact (Below.refl _ _).alloc (Nat.le_refl _) _
  have HXX : Hid (WX.rowIs wx.heap.size 66 3 (r3 (.slice (some ⟨g3, 0, none⟩) cn cn) (.slice (some ⟨g4, 0, none⟩) rn rn) (.int .i64 v))) := by show World.rowIs _ _ _ _ _; rw [hWX]; exact row3 wx _ _ _ _
  have hbz : Below w.heap.size w wx := HB3.out.trans (hbx.mono HB3.out.size)
  have HBX : Hid (Below w.heap.size w WX) := hbz.trans (hbx'.mono hbz.size)
  have HRX := Lib.hid (row_below (row_below HR3.out hbx) hbx')
  have HYX := Lib.hid (row_below (row_below HY.out hbx) hbx')
  have HKX := Lib.hid (hk.below hbx')
  have HWX := Lib.hid hWX
  clear hk hbx hbx' hWX hbz
  go_wp2_with fail
  rw [← HWX.out]
  refine (toInt64S_any insa insn insk ins _ (Hins.out.below HBX.out) (by omega)).mono ?_
  rintro e wX0 ⟨⟨rfl, hq⟩, hb⟩
  have HBX0 : Hid (Below w.heap.size w wX0) := HBX.out.trans (hb.mono HBX.out.size)
  have HKX0 := Lib.hid (HKX.out.below hb)
  have HRX0 := Lib.hid (row_below HRX.out hb)
  have HXX0 := Lib.hid (row_below HXX.out hb)
  have HYX0 := Lib.hid (row_below HYX.out hb)
  have HQinsX0 := Lib.hid hq
  clear hb hq
  go_wp2_with fail
  refine (toInt64S_any wantsa wantsn wantsk wants _ (Hwants.out.below HBX0.out) (by omega)).mono ?_
  rintro e wX1 ⟨⟨rfl, hq⟩, hb⟩
  have HBX1 : Hid (Below w.heap.size w wX1) := HBX0.out.trans (hb.mono HBX0.out.size)
  have HKX1 := Lib.hid (HKX0.out.below hb)
  have HRX1 := Lib.hid (row_below HRX0.out hb)
  have HXX1 := Lib.hid (row_below HXX0.out hb)
  have HYX1 := Lib.hid (row_below HYX0.out hb)
  have HQinsX1 := Lib.hid (HQinsX0.out.below hb)
  have HQwantsX1 := Lib.hid hq
  clear hb hq
  obtain ⟨⟨x0, x1, x2⟩, _⟩ := row3_cells HXX1.out
  go_wp2_with fail
  refine (implRun_any (some ⟨g3, 0, none⟩) cn cn c (some ⟨g4, 0, none⟩) rn rn r v _ insn insn ins _ wantsn wantsn wants _ HKX1.out.at_ HQinsX1.out.at_ HQwantsX1.out.at_ (by omega) (by omega) (HET.out.1.below HBX1.out) (tab_below HET.out.2 HBX1.out)).mono ?_
  rintro e wy ⟨⟨y2, rfl, hy2⟩, hb⟩
  obtain rfl : y1 = y2 := HY1.out.one hy2.out
  clear x0 x1 x2
  obtain ⟨WY, hWY⟩ : ∃ WY, WY = wy.alloc (.cells #[.int .i64 y1.a, .int .i64 y1.b, .int .i64 y1.c, .int .i64 y1.d, .int .i64 y1.e, .int .i64 y1.k] 61) := ⟨_, rfl⟩
  have hb' : Below wy.heap.size wy WY := by rw [hWY]; exact (Below.refl _ _).alloc (Nat.le_refl _) _
  have hbb : Below wX1.heap.size wX1 WY := hb.trans (hb'.mono hb.size)
  have HS : Hid (LawS w w.heap.size wx.heap.size (r3 (.slice ca cn ck) (.slice ra rn rk) (.int .i64 v)) (r3 (.slice (some ⟨g3, 0, none⟩) cn cn) (.slice (some ⟨g4, 0, none⟩) rn rn) (.int .i64 v)) (fun W => StBlk W3.heap.size g3 g4 cn c rn r W ∧ InBlk WX.heap.size insn ins W ∧ InBlk wX0.heap.size wantsn wants W) WY) :=
    ⟨row_below HRX1.out hbb, row_below HXX1.out hbb, ⟨HKX1.out.below hbb, HQinsX1.out.below hbb, HQwantsX1.out.below hbb⟩, HBX1.out.trans (hbb.mono HBX1.out.size)⟩
  have hY1 := row6_cells (row_below HYX1.out hb)
  obtain ⟨⟨d0, d1, d2, d3, d4, d5⟩, _⟩ := hY1
  have hly : w3x.heap.size < wy.heap.size := World.block_lt_of_cell? _ _ d0
  have HWY := Lib.hid hWY
  clear hb hb' hbb hWY hy2
  go_wp2_with fail
  rw [← HWY.out]
  refine (eqOut_same y1 _).mono ?_
  rintro e wz ⟨rfl, hb⟩
  have HSZ := Lib.hid (LawS.stw HS.out hb)
  clear hb HS d0 d1 d2 d3 d4 d5
  go_wp2_with fail
  refine wp_region_held_drew (S := LawS w w.heap.size wx.heap.size (r3 (.slice ca cn ck) (.slice ra rn rk) (.int .i64 v)) (r3 (.slice (some ⟨g3, 0, none⟩) cn cn) (.slice (some ⟨g4, 0, none⟩) rn rn) (.int .i64 v)) (fun W => StBlk W3.heap.size g3 g4 cn c rn r W ∧ InBlk WX.heap.size insn ins W ∧ InBlk wX0.heap.size wantsn wants W)) (by kernel_rfl) (LawS.stw HSZ.out (Below.refl _ _).drew) (fun hHeld => ?_)
  clear HSZ
  refine take_do (i := 0) (v := (stV (some ⟨g3, 0, none⟩) cn cn (some ⟨g4, 0, none⟩) rn rn v)) rfl (by kernel_rfl) (by kernel_rfl) (by kernel_rfl) (fun _ _ _ h => h) (by rfl) ?_ (by assumption) ?_
  · intro w hSw
    obtain ⟨⟨a0, a1, a2⟩, _⟩ := row3_cells hSw.1; obtain ⟨⟨x0, x1, x2⟩, _⟩ := row3_cells hSw.2.1
    go_simp
  simp only [Act.put, List.setIfInBounds_toArray, List.set_cons_zero, List.set_cons_succ]
  refine take_do (i := 1) (v := (stV ca cn ck ra rn rk v)) rfl (by kernel_rfl) (by kernel_rfl) (by kernel_rfl) (fun _ _ _ h => h) (by rfl) ?_ (by assumption) ?_
  · intro w hSw
    obtain ⟨⟨a0, a1, a2⟩, _⟩ := row3_cells hSw.1; obtain ⟨⟨x0, x1, x2⟩, _⟩ := row3_cells hSw.2.1
    go_simp
  simp only [Act.put, List.setIfInBounds_toArray, List.set_cons_zero, List.set_cons_succ]
  refine take_call (i := 2) rfl (by kernel_rfl) (fun K2 hK => ?_)
  go_simp
  refine (toStore_any ca cn ck c ra rn rk r v _ (H1.out.below hHeld.2.2.2) (H2.out.below hHeld.2.2.2) N1.out N2.out).mono ?_
  rintro e w6 ⟨⟨g5, g6, rfl, hk6⟩, hb6⟩
  have HK6 := Lib.hid hk6
  go_wp2_with fail
  refine hK.out _ _ (LawS.stw hHeld hb6) (fun hHeld2 => ?_)
  clear hK hHeld hb6 hk6
  refine take_call (i := 3) rfl (by kernel_rfl) (fun K2 hK => ?_)
  go_simp
  refine (eqStore_same _ _ _ _ cn cn cn rn rn rn c r v _ hHeld2.2.2.1.1.at_ HK6.out.at_ N1.out N2.out).mono ?_
  rintro e w7 ⟨rfl, hb7⟩
  go_wp2_with fail
  refine hK.out _ _ (LawS.stw hHeld2 hb7) (fun hHeld => ?_)
  clear hK hHeld2 hb7
  refine take_do (i := 4) (v := (.bool false)) rfl (by kernel_rfl) (by kernel_rfl) (by kernel_rfl) (fun _ _ _ h => h) (by rfl) ?_ (by assumption) ?_
  · intro w hSw
    obtain ⟨⟨a0, a1, a2⟩, _⟩ := row3_cells hSw.1; obtain ⟨⟨x0, x1, x2⟩, _⟩ := row3_cells hSw.2.1
    go_simp
  simp only [Act.put, List.setIfInBounds_toArray, List.set_cons_zero, List.set_cons_succ]
  refine wpAnyH_done (by kernel_rfl) ?_ _
  have HBE := Lib.hid hHeld.2.2.2
  have HQEins := Lib.hid hHeld.2.2.1.2.1
  have HQEwants := Lib.hid hHeld.2.2.1.2.2
  clear hHeld
  go_wp2_with fail
  refine (toInt64S_any insa insn insk ins _ (Hins.out.below HBE.out) (by omega)).mono ?_
  rintro e wa0 ⟨⟨rfl, hq⟩, hb⟩
  have HBa0 : Hid (Below w.heap.size w wa0) := HBE.out.trans (hb.mono HBE.out.size)
  have HQa0 := Lib.hid (HQEins.out.below hb)
  have HQb0 := Lib.hid hq
  have HQEwants := Lib.hid (HQEwants.out.below hb)
  clear hb hq
  go_wp2_with fail
  refine (eqInt64S_same _ _ insn insn insn ins _ HQa0.out.at_ HQb0.out.at_ (by omega)).mono ?_
  rintro e wb0 ⟨rfl, hb⟩
  have HBb0 : Hid (Below w.heap.size w wb0) := HBa0.out.trans (hb.mono HBa0.out.size)
  have HQEwants := Lib.hid (HQEwants.out.below hb)
  clear hb
  go_wp2_with fail
  refine (toInt64S_any wantsa wantsn wantsk wants _ (Hwants.out.below HBb0.out) (by omega)).mono ?_
  rintro e wa1 ⟨⟨rfl, hq⟩, hb⟩
  have HBa1 : Hid (Below w.heap.size w wa1) := HBb0.out.trans (hb.mono HBb0.out.size)
  have HQa1 := Lib.hid (HQEwants.out.below hb)
  have HQb1 := Lib.hid hq
  clear hb hq
  go_wp2_with fail
  refine (eqInt64S_same _ _ wantsn wantsn wantsn wants _ HQa1.out.at_ HQb1.out.at_ (by omega)).mono ?_
  rintro e wb1 ⟨rfl, hb⟩
  have HBb1 : Hid (Below w.heap.size w wb1) := HBa1.out.trans (hb.mono HBa1.out.size)
  clear hb
  go_wp2_with fail
  go_ret
  exact ⟨rfl, HBb1.out⟩
end Go.Proofs.YtdpghhmcibiplaaDoor
