/-
  The law FnExactStoreYield.
-/
import Derived.Test.YtdpghhmcibiplaaStEx2
import Derived.Test.YtdpghhmcibiplaaStY2
import Derived.Test.YtdpghhmcibiplaaStLawR
namespace Go.Proofs.Ytdpghhmcibiplaa
open Go.RowKit Go.Deep

theorem LawS.sty {w : World} {gb gx B g1 g2 cn rn gi n : Nat} {c r : Nat → St.Pr} {ins : Nat → Int} {A X : Nat → Value} {W W' : World} (h : LawS w gb gx A X (fun W => StBlk B g1 g2 cn c rn r W ∧ InBlk gi n ins W) W) (hb : Below W.heap.size W W') : LawS w gb gx A X (fun W => StBlk B g1 g2 cn c rn r W ∧ InBlk gi n ins W) W' := h.below (fun _ _ hp hb => ⟨hp.1.below hb, hp.2.below hb⟩) hb
set_option maxRecDepth 100000 in
set_option maxHeartbeats 4000000 in
theorem stYield_law (w : World) (ca : Option Addr) (cn ck : Nat) (c : Nat → St.Pr) (h1 : PrsIn ca cn c w) (hm1 : cn ≤ 9223372036854775807) (ra : Option Addr) (rn rk : Nat) (r : Nat → St.Pr) (h2 : PrsIn ra rn r w) (hm2 : rn ≤ 9223372036854775807) (v : Int) (insa : Option Addr) (insn insk : Nat) (ins : Nat → Int) (hins : IntsIn insa insn ins w) (mins : insn ≤ 9223372036854775807) :
    Calls Try.prog 3 #[stV ca cn ck ra rn rk v, .slice insa insn insk] w fun e w' => e = .returned (.bool true) ∧ Below w.heap.size w w' := by
  have Hins := Lib.hid hins
  have H1 := Lib.hid h1
  have H2 := Lib.hid h2
  obtain ⟨W, hW⟩ : ∃ W, W = w.alloc (.cells #[.slice ca cn ck, .slice ra rn rk, .int .i64 v] 25) := ⟨_, rfl⟩
  have HB : Hid (Below w.heap.size w W) := by show Below _ _ _; rw [hW]; exact (Below.refl _ _).alloc (Nat.le_refl _) _
  have HR : Hid (W.rowIs w.heap.size 25 3 (r3 (.slice ca cn ck) (.slice ra rn rk) (.int .i64 v))) := by show World.rowIs _ _ _ _ _; rw [hW]; exact row3 w _ _ _ _
  have HW := Lib.hid hW
  have HM1 := Lib.hid hm1
  have HM2 := Lib.hid hm2
  clear hW h1 h2 hm1 hm2 hins
  by_cases bins : 1048576 < insn
  · have hzins : (1048576 : Int) < (insn : Int) := by omega
    go_enter Try.func3, Try.ntmps3
    go_wp2_with fail
    go_ret
    have hB := HB.out
    rw [HW.out] at hB
    exact ⟨rfl, hB⟩
  have hzins : ¬ (1048576 : Int) < (insn : Int) := by omega
  go_enter Try.func3, Try.ntmps3
  go_wp2_with fail
  rw [← HW.out]
  refine (szStore_any ca cn ck ra rn rk v _ HM1.out HM2.out).mono ?_
  rintro e w1 ⟨⟨z, rfl, hz⟩, hb1⟩
  have R1 := row_below HR.out hb1
  have HB1 : Hid (Below w.heap.size w w1) := HB.out.trans (hb1.mono HB.out.size)
  obtain ⟨⟨a0, a1, a2⟩, _⟩ := row3_cells R1
  have HR1 := Lib.hid R1
  clear R1 hb1
  rcases hz with hz | ⟨hz, hn1, hn2⟩
  · clear HR1
    go_wp2_with fail
    go_ret
    exact ⟨rfl, HB1.out⟩
  have N1 := Lib.hid hn1
  have N2 := Lib.hid hn2
  clear hn1 hn2
  go_wp2_with fail
  refine (toStore_any ca cn ck c ra rn rk r v _ (H1.out.below HB1.out) (H2.out.below HB1.out) N1.out N2.out).mono ?_
  rintro e w2 ⟨⟨g1, g2, rfl, hk⟩, hb2⟩
  have R2 := row_below HR1.out hb2
  have HB2 : Hid (Below w.heap.size w w2) := HB1.out.trans (hb2.mono HB1.out.size)
  have HK2 := Lib.hid hk
  clear a0 a1 a2 hb2 hk
  have HR2 := Lib.hid R2
  clear R2
  go_wp2_with fail
  refine (toInt64S_any insa insn insk ins _ (Hins.out.below HB2.out) (by omega)).mono ?_
  rintro e w3 ⟨⟨rfl, hq⟩, hb⟩
  have HB3 : Hid (Below w.heap.size w w3) := HB2.out.trans (hb.mono HB2.out.size)
  have HK3 := Lib.hid (HK2.out.below hb)
  have HR3 := Lib.hid (row_below HR2.out hb)
  have HQins3 := Lib.hid hq
  clear hb hq
  go_wp2_with fail
  refine (sYield_any (some ⟨g1, 0, none⟩) cn cn c (some ⟨g2, 0, none⟩) rn rn r v _ insn insn ins _ HK3.out.at_ HQins3.out.at_ (by omega)).mono ?_
  rintro e w4 ⟨⟨y1, rfl, hy1⟩, hG⟩
  have HB4 : Hid (Below w.heap.size w w4) := HB3.out.trans (hG.bel.mono HB3.out.size)
  have HR4 := Lib.hid (row_below HR3.out hG.bel)
  have HY1 := Lib.hid hy1
  clear hy1 hG
  obtain ⟨⟨a0, a1, a2⟩, _⟩ := row3_cells HR4.out
  go_wp2_with fail
  refine (toStore_any ca cn ck c ra rn rk r v _ (H1.out.below HB4.out) (H2.out.below HB4.out) N1.out N2.out).mono ?_
  rintro e wx ⟨⟨g3, g4, rfl, hk⟩, hbx⟩
  obtain ⟨WX, hWX⟩ : ∃ WX, WX = wx.alloc (.cells #[.slice (some ⟨g3, 0, none⟩) cn cn, .slice (some ⟨g4, 0, none⟩) rn rn, .int .i64 v] 32) := ⟨_, rfl⟩
  have hbx' : Below wx.heap.size wx WX := by rw [hWX]; exact (Below.refl _ _).alloc (Nat.le_refl _) _
  have RX := row_below (row_below HR4.out hbx) hbx'
  have XX : WX.rowIs wx.heap.size 32 3 (r3 (.slice (some ⟨g3, 0, none⟩) cn cn) (.slice (some ⟨g4, 0, none⟩) rn rn) (.int .i64 v)) := by rw [hWX]; exact row3 wx _ _ _ _
  have HBX : Hid (Below w.heap.size w WX) := (HB4.out.trans (hbx.mono HB4.out.size)).trans (hbx'.mono (HB4.out.trans (hbx.mono HB4.out.size)).size)
  have HKX := Lib.hid (hk.below hbx')
  have HWX := Lib.hid hWX
  have HRX := Lib.hid RX
  have HXX := Lib.hid XX
  clear a0 a1 a2 hk hbx hbx' hWX RX XX
  go_wp2_with fail
  rw [← HWX.out]
  refine (toInt64S_any insa insn insk ins _ (Hins.out.below HBX.out) (by omega)).mono ?_
  rintro e wX0 ⟨⟨rfl, hq⟩, hb⟩
  have HBX0 : Hid (Below w.heap.size w wX0) := HBX.out.trans (hb.mono HBX.out.size)
  have HKX0 := Lib.hid (HKX.out.below hb)
  have HRX0 := Lib.hid (row_below HRX.out hb)
  have HXX0 := Lib.hid (row_below HXX.out hb)
  have HQinsX0 := Lib.hid hq
  clear hb hq
  obtain ⟨⟨x0, x1, x2⟩, _⟩ := row3_cells HXX0.out
  go_wp2_with fail
  refine (implYield_any (some ⟨g3, 0, none⟩) cn cn c (some ⟨g4, 0, none⟩) rn rn r v _ insn insn ins _ HKX0.out.at_ HQinsX0.out.at_ (by omega)).mono ?_
  rintro e wy ⟨⟨y2, rfl, hy2⟩, hG⟩
  clear x0 x1 x2
  obtain rfl : y1 = y2 := HY1.out.one hy2.out
  have HS : Hid (LawS w w.heap.size wx.heap.size (r3 (.slice ca cn ck) (.slice ra rn rk) (.int .i64 v)) (r3 (.slice (some ⟨g3, 0, none⟩) cn cn) (.slice (some ⟨g4, 0, none⟩) rn rn) (.int .i64 v)) (fun W => StBlk w4.heap.size g3 g4 cn c rn r W ∧ InBlk WX.heap.size insn ins W) wy) :=
    ⟨row_below HRX0.out hG.bel, row_below HXX0.out hG.bel, ⟨HKX0.out.below hG.bel, HQinsX0.out.below hG.bel⟩, HBX0.out.trans (hG.bel.mono HBX0.out.size)⟩
  clear hG hy2
  go_wp2_with fail
  refine wp_region_held_drew (S := LawS w w.heap.size wx.heap.size (r3 (.slice ca cn ck) (.slice ra rn rk) (.int .i64 v)) (r3 (.slice (some ⟨g3, 0, none⟩) cn cn) (.slice (some ⟨g4, 0, none⟩) rn rn) (.int .i64 v)) (fun W => StBlk w4.heap.size g3 g4 cn c rn r W ∧ InBlk WX.heap.size insn ins W)) (by kernel_rfl) (LawS.sty HS.out (Below.refl _ _).drew) (fun hHeld => ?_)
  clear HS
  refine take_do (i := 0) (v := (stV (some ⟨g3, 0, none⟩) cn cn (some ⟨g4, 0, none⟩) rn rn v)) rfl (by kernel_rfl) (by kernel_rfl) (by kernel_rfl) (fun _ _ _ h => h) (by rfl) ?_ (by assumption) ?_
  · intro w hSw
    obtain ⟨⟨a0, a1, a2⟩, _⟩ := row3_cells hSw.1; obtain ⟨⟨x0, x1, x2⟩, _⟩ := row3_cells hSw.2.1
    go_simp
  simp only [Act.put, List.setIfInBounds_toArray, List.set_cons_zero, List.set_cons_succ]
  refine take_do (i := 1) (v := (stV ca cn ck ra rn rk v)) rfl (by kernel_rfl) (by kernel_rfl) (by kernel_rfl) (fun _ _ _ h => h) (by rfl) ?_ (by assumption) ?_
  · intro w hSw
    obtain ⟨⟨a0, a1, a2⟩, _⟩ := row3_cells hSw.1; obtain ⟨⟨x0, x1, x2⟩, _⟩ := row3_cells hSw.2.1
    go_simp
  simp only [Act.put, List.setIfInBounds_toArray, List.set_cons_zero, List.set_cons_succ]
  refine take_call (i := 2) rfl (by kernel_rfl) (fun K2 hK => ?_)
  go_simp
  refine (toStore_any ca cn ck c ra rn rk r v _ (H1.out.below hHeld.2.2.2) (H2.out.below hHeld.2.2.2) N1.out N2.out).mono ?_
  rintro e w6 ⟨⟨g5, g6, rfl, hk6⟩, hb6⟩
  have HK6 := Lib.hid hk6
  go_wp2_with fail
  refine hK.out _ _ (LawS.sty hHeld hb6) (fun hHeld2 => ?_)
  clear hK hHeld hb6 hk6
  refine take_call (i := 3) rfl (by kernel_rfl) (fun K2 hK => ?_)
  go_simp
  refine (eqStore_same _ _ _ _ cn cn cn rn rn rn c r v _ hHeld2.2.2.1.1.at_ HK6.out.at_ N1.out N2.out).mono ?_
  rintro e w7 ⟨rfl, hb7⟩
  go_wp2_with fail
  refine hK.out _ _ (LawS.sty hHeld2 hb7) (fun hHeld => ?_)
  clear hK hHeld2 hb7
  refine take_do (i := 4) (v := (.bool false)) rfl (by kernel_rfl) (by kernel_rfl) (by kernel_rfl) (fun _ _ _ h => h) (by rfl) ?_ (by assumption) ?_
  · intro w hSw
    obtain ⟨⟨a0, a1, a2⟩, _⟩ := row3_cells hSw.1; obtain ⟨⟨x0, x1, x2⟩, _⟩ := row3_cells hSw.2.1
    go_simp
  simp only [Act.put, List.setIfInBounds_toArray, List.set_cons_zero, List.set_cons_succ]
  refine wpAnyH_done (by kernel_rfl) ?_ _
  have HBE := Lib.hid hHeld.2.2.2
  have HQE := Lib.hid hHeld.2.2.1.2
  clear hHeld
  go_wp2_with fail
  refine (toInt64S_any insa insn insk ins _ (Hins.out.below HBE.out) (by omega)).mono ?_
  rintro e w8 ⟨⟨rfl, hq⟩, hb⟩
  have HB8 : Hid (Below w.heap.size w w8) := HBE.out.trans (hb.mono HBE.out.size)
  have HQ8 := Lib.hid (HQE.out.below hb)
  have HQ9 := Lib.hid hq
  clear hb hq
  go_wp2_with fail
  refine (eqInt64S_same _ _ insn insn insn ins _ HQ8.out.at_ HQ9.out.at_ (by omega)).mono ?_
  rintro e w9 ⟨rfl, hb⟩
  have HB9 : Hid (Below w.heap.size w w9) := HB8.out.trans (hb.mono HB8.out.size)
  clear hb
  go_wp2_with fail
  go_ret
  exact ⟨rfl, HB9.out⟩
end Go.Proofs.Ytdpghhmcibiplaa
