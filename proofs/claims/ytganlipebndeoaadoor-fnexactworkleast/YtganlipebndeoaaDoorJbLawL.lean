/-
  The law FnExactWorkLeast.
-/
import Derived.Test.YtganlipebndeoaaDoorJbTw
import Derived.Test.YtganlipebndeoaaDoorJbS
import Derived.Test.YtganlipebndeoaaDoorJbWo
import Derived.Test.YtganlipebndeoaaDoorJbLawR
namespace Go.Proofs.YtganlipebndeoaaDoor
open Go.RowKit Go.Deep

theorem ownJ_same {gs hs : Nat → Nat} {bs : Nat → Je} : ∀ i, (ownJ gs hs bs i).sameJ (bs i) := fun _ => ⟨rfl, rfl, rfl, rfl, rfl, rfl⟩
theorem Jb.scode_eq (m : Nat) (bs : Nat → Je) : Jb.scode m bs = Jb.lcode m bs := rfl
theorem specLeastW_any (a : Option Addr) (m k : Nat) (bs : Nat → Je) (w : World) (h : JbsAt a m bs w) (hs : JSm m bs) :
    Calls Tryd.prog 5 #[.slice a m k] w fun e w' => WoEnd w.heap.size (Jb.lnum m bs) (Jb.least bs) (Jb.lend m bs) (Jb.lcode m bs) e w' ∧ Below w.heap.size w w' := by
  by_cases c : JRight m bs
  · refine (specLeastW_yes a m k bs w h hs c).mono ?_
    rintro e w' ⟨⟨c1, ck, rfl, hls⟩, hb⟩
    have e := dB_tt c
    have h1 : Jb.lnum m bs = m := by unfold Jb.lnum; rw [if_pos e]
    have h2 : Jb.lend m bs = Jb.endTo bs (Jb.least bs) m := by unfold Jb.lend; rw [if_pos e]
    have h3 : Jb.lcode m bs = 0 := by unfold Jb.lcode; rw [if_neg (by have := c.1; omega), if_pos e]
    exact ⟨⟨c1, ck, by rw [h1, h2, h3], by rw [h1]; exact hls⟩, hb⟩
  · refine (specLeastW_no a m k bs w h hs c).mono ?_
    rintro e w' ⟨rfl, hb⟩
    have e := dB_ff c
    have h1 : Jb.lnum m bs = 0 := by unfold Jb.lnum; rw [e]; rfl
    have h2 : Jb.lend m bs = 0 := by unfold Jb.lend; rw [e]; rfl
    exact ⟨⟨none, 0, by rw [h1, h2, Jb.scode_eq], by rw [h1]; exact Or.inl ⟨rfl, rfl, rfl⟩⟩, hb⟩
theorem Jb.lnum_le (m : Nat) (bs : Nat → Je) : Jb.lnum m bs ≤ 30 := by
  unfold Jb.lnum
  by_cases c : JRight m bs
  · rw [if_pos (dB_tt c)]; exact c.1
  · rw [dB_ff c]; simp
theorem Jb.l_same {m : Nat} {gs hs : Nat → Nat} {bs : Nat → Je} : Jb.lnum m (ownJ gs hs bs) = Jb.lnum m bs ∧ Jb.least (ownJ gs hs bs) = Jb.least bs ∧ Jb.lend m (ownJ gs hs bs) = Jb.lend m bs ∧ Jb.lcode m (ownJ gs hs bs) = Jb.lcode m bs := by
  have e := ownJ_rightB (m := m) (gs := gs) (hs := hs) (bs := bs)
  have e2 : Jb.least (ownJ gs hs bs) = Jb.least bs := Jb.least_same ownJ_same
  refine ⟨?_, e2, ?_, ?_⟩
  · unfold Jb.lnum; rw [e]
  · unfold Jb.lend; rw [e, e2, Jb.endTo_same ownJ_same]
  · unfold Jb.lcode; rw [e]
set_option maxRecDepth 100000 in
set_option maxHeartbeats 8000000 in
theorem workLeast_law (w : World) (a : Option Addr) (m k : Nat) (bs : Nat → Je) (h1 : JbsIn a m bs w) (hm1 : m ≤ 9223372036854775807) (hg : Et w) :
    Calls Tryd.prog 3 #[.slice a m k] w fun e w' => e = .returned (.bool true) ∧ Below w.heap.size w w' := by
  have H1 := Lib.hid h1
  have HM1 := Lib.hid hm1
  have HET := Lib.hid hg
  obtain ⟨N, hN⟩ : ∃ N, N = Jb.lnum m bs := ⟨_, rfl⟩
  obtain ⟨S, hS⟩ : ∃ S, S = Jb.least bs := ⟨_, rfl⟩
  obtain ⟨E, hE⟩ : ∃ E, E = Jb.lend m bs := ⟨_, rfl⟩
  obtain ⟨C, hC⟩ : ∃ C, C = Jb.lcode m bs := ⟨_, rfl⟩
  have hN2 : N ≤ 1048576 := by have := Jb.lnum_le m bs; omega
  have SP : Hid (∀ lo hi g gs hs W, JxM lo hi g m gs hs bs W → JSm m bs → Calls Tryd.prog 5 #[.slice (some ⟨g, 0, none⟩) m m] W fun e w' => WoEnd W.heap.size N S E C e w' ∧ Below W.heap.size W w') := fun lo hi g gs hs W h hn => by
    have e := Jb.l_same (m := m) (gs := gs) (hs := hs) (bs := bs)
    rw [hN, hS, hE, hC, ← e.1, ← e.2.1, ← e.2.2.1, ← e.2.2.2]; exact specLeastW_any _ m m _ _ h.at_ hn
  have IM : Hid (∀ lo hi g gs hs W, JxM lo hi g m gs hs bs W → JSm m bs → Et W → Calls Tryd.prog 7 #[.slice (some ⟨g, 0, none⟩) m m] W fun e w' => WoEnd W.heap.size N S E C e w' ∧ Below W.heap.size W w') := fun lo hi g gs hs W h hn he => by
    have e := Jb.l_same (m := m) (gs := gs) (hs := hs) (bs := bs)
    rw [hN, hS, hE, hC, ← e.1, ← e.2.1, ← e.2.2.1, ← e.2.2.2]; exact implLeastW_any _ m m _ _ h.at_ hn he
  clear h1 hm1 hg hN hS hE hC
  have HB : Hid (Below w.heap.size w w) := Below.refl _ _
  go_enter Tryd.func3, Tryd.ntmps3
  go_wp2_with fail
  refine (szJobS_any a m k bs _ H1.out HM1.out).mono ?_
  rintro e w1 ⟨⟨z, rfl, hz⟩, hb⟩
  replace HB : Hid (Below w.heap.size w w1) := HB.out.trans (hb.mono HB.out.size)
  clear hb
  rcases hz with hz | ⟨hz, hsum⟩
  · go_wp2_with fail
    go_ret
    exact ⟨rfl, HB.out⟩
  have HSM := Lib.hid hsum
  have NM : Hid (m ≤ 1048576) := by show m ≤ _; omega
  have NN := Lib.hid (jsm_of hsum)
  clear hsum
  go_wp2_with fail
  refine (toJobS_any a m k bs _ (H1.out.below HB.out) NM.out NN.out).mono ?_
  rintro e w2 ⟨⟨gs, hs, rfl, hk⟩, hb⟩
  replace HB : Hid (Below w.heap.size w w2) := HB.out.trans (hb.mono HB.out.size)
  have HK := Lib.hid hk
  clear hb hk
  go_wp2_with fail
  refine (SP.out _ _ _ _ _ _ HK.out NN.out).mono ?_
  rintro e w3 ⟨⟨a0, k0, rfl, hl⟩, hb⟩
  replace HB : Hid (Below w.heap.size w w3) := HB.out.trans (hb.mono HB.out.size)
  obtain ⟨W3, hW3⟩ : ∃ W3, W3 = w3.alloc (.cells #[.slice a0 N k0, .int .i64 E, .int .i64 C] 26) := ⟨_, rfl⟩
  obtain ⟨b0, hb0⟩ : ∃ b0, b0 = w3.heap.size := ⟨_, rfl⟩
  have hb3 : Below w3.heap.size w3 W3 := by rw [hW3]; exact nbel_alloc _ _
  have M0 : Hid (WoM b0 w2.heap.size N a0 k0 S E C W3) := ⟨by rw [hW3, hb0]; exact rowN_alloc _ _ _, hl.below hb3⟩
  have LB0 : Hid (∀ g, a0 = some ⟨g, 0, none⟩ → g < W3.heap.size) := fun g e => ((hl.below hb3).lt e).2
  have LB1 : Hid (b0 < W3.heap.size) := M0.out.row.lt
  replace HB : Hid (Below w.heap.size w W3) := HB.out.trans (hb3.mono HB.out.size)
  have HW3 := Lib.hid hW3
  have HB0 := Lib.hid hb0
  clear hb HK hb3 hl hW3 hb0
  go_wp2_with fail
  rw [← HW3.out]
  clear HW3
  refine (toJobS_any a m k bs _ (H1.out.below HB.out) NM.out NN.out).mono ?_
  rintro e w4 ⟨⟨gs1, hs1, rfl, hk⟩, hb⟩
  have HLO : Hid (w.heap.size ≤ W3.heap.size) := HB.out.size
  replace HB : Hid (Below w.heap.size w w4) := HB.out.trans (hb.mono HB.out.size)
  replace M0 := Lib.hid (M0.out.below hb)
  have HK := Lib.hid hk
  have HL4 : Hid (W3.heap.size < w4.heap.size) := HK.out.lt
  clear hb hk
  go_wp2_with fail
  refine (IM.out _ _ _ _ _ _ HK.out NN.out (HET.out.below HB.out)).mono ?_
  rintro e w5 ⟨⟨a1, k1, rfl, hl⟩, hb⟩
  replace HB : Hid (Below w.heap.size w w5) := HB.out.trans (hb.mono HB.out.size)
  obtain ⟨W5, hW5⟩ : ∃ W5, W5 = w5.alloc (.cells #[.slice a1 N k1, .int .i64 E, .int .i64 C] 26) := ⟨_, rfl⟩
  obtain ⟨b1, hb1⟩ : ∃ b1, b1 = w5.heap.size := ⟨_, rfl⟩
  have hb3 : Below w5.heap.size w5 W5 := by rw [hW5]; exact nbel_alloc _ _
  have M1 : Hid (WoM b1 w4.heap.size N a1 k1 S E C W5) := ⟨by rw [hW5, hb1]; exact rowN_alloc _ _ _, hl.below hb3⟩
  have LC0 : Hid (∀ g, a1 = some ⟨g, 0, none⟩ → w4.heap.size ≤ g) := fun g e => (hl.lt e).1
  have LC2 : Hid (∀ g, a1 = some ⟨g, 0, none⟩ → g < b1) := fun g e => by rw [hb1]; exact (hl.lt e).2
  have LC1 : Hid (w4.heap.size ≤ b1) := by show _ ≤ _; rw [hb1]; exact hb.size
  replace M0 := Lib.hid ((M0.out.below hb).below hb3)
  replace HK := Lib.hid ((HK.out.below hb).below hb3)
  obtain ⟨⟨p0, p1, p2⟩, _⟩ := rowN3 M0.out.row
  have lp := M0.out.row.lt
  have lp2 : b0 < w5.heap.size := by have := LB1.out; have := HL4.out; have := hb.size; omega
  replace HB : Hid (Below w.heap.size w W5) := HB.out.trans (hb3.mono HB.out.size)
  have HW5 := Lib.hid hW5
  have HB1 := Lib.hid hb1
  rw [hW5] at p0 p1 p2
  rw [World.cell?_alloc_lt _ _ ⟨b0, 0, none⟩ lp2] at p0
  rw [World.cell?_alloc_lt _ _ ⟨b0, 1, none⟩ lp2] at p1
  rw [World.cell?_alloc_lt _ _ ⟨b0, 2, none⟩ lp2] at p2
  rw [← HB0.out]
  clear hb hb3 hl hW5 hb1 lp
  go_wp2_with fail
  rw [← HW5.out]
  clear HW5 p0 p1 p2 lp2 HB0
  refine (eqWorkOut_same E C N S a1 a0 k1 k0 _ (by simpa using M1.out.ls.at_) (by simpa using M0.out.ls.at_) hN2).mono ?_
  rintro e w6 ⟨rfl, hb⟩
  replace HB : Hid (Below w.heap.size w w6) := HB.out.trans (hb.mono HB.out.size)
  replace M0 := Lib.hid (M0.out.below hb)
  replace M1 := Lib.hid (M1.out.below hb)
  replace HK := Lib.hid (HK.out.below hb)
  rw [← HB1.out]
  clear hb HB1
  go_wp2_with fail
  refine (toJobS_any a m k bs _ (H1.out.below HB.out) NM.out NN.out).mono ?_
  rintro e w7 ⟨⟨gs2, hs2, rfl, hk⟩, hb⟩
  replace HB : Hid (Below w.heap.size w w7) := HB.out.trans (hb.mono HB.out.size)
  replace M0 := Lib.hid (M0.out.below hb)
  replace M1 := Lib.hid (M1.out.below hb)
  replace HK := Lib.hid (HK.out.below hb)
  have HK2 := Lib.hid hk
  clear hb hk
  go_wp2_with fail
  refine (jeq_law _ _ m m m gs1 hs1 gs2 hs2 bs _ HK.out HK2.out NM.out NN.out).mono ?_
  rintro e w8 ⟨rfl, hb⟩
  replace HB : Hid (Below w.heap.size w w8) := HB.out.trans (hb.mono HB.out.size)
  replace M0 := Lib.hid (M0.out.below hb)
  replace M1 := Lib.hid (M1.out.below hb)
  replace HK := Lib.hid (HK.out.below hb)
  clear hb HK2
  go_wp2_with fail
  refine (markJobS_any _ _ _ m m gs1 hs1 bs _ HK.out.toR HK.out.up HSM.out).mono ?_
  rintro e w9 ⟨rfl, ho⟩
  have q1 := LB1.out
  have q2 := LC1.out
  have q3 := HL4.out
  replace M0 := Lib.hid (M0.out.kept (ho.block _ M0.out.row.lt (by omega)) (fun g e hl => ho.block g hl (by have := LB0.out g e; omega)))
  replace M1 := Lib.hid (M1.out.kept (ho.block _ M1.out.row.lt (by omega)) (fun g e hl => ho.block g hl (by have := LC0.out g e; omega)))
  replace HB : Hid (Below w.heap.size w w9) := HB.out.trans (ho.below HLO.out HB.out.size)
  clear ho q1 q2 q3 HK
  have hkz : ¬ ((1 + m * 2 + cntJ bs m : Nat) : Int) < 0 := by omega
  obtain ⟨⟨p0, p1, p2⟩, _⟩ := rowN3 M0.out.row
  obtain ⟨⟨r0, r1, r2⟩, _⟩ := rowN3 M1.out.row
  go_wp2_with fail
  refine (eqWorkOut_same E C N S a1 a0 k1 k0 _ (by simpa using M1.out.ls.at_) (by simpa using M0.out.ls.at_) hN2).mono ?_
  rintro e wa ⟨rfl, hb⟩
  replace HB : Hid (Below w.heap.size w wa) := HB.out.trans (hb.mono HB.out.size)
  replace M0 := Lib.hid (M0.out.below hb)
  replace M1 := Lib.hid (M1.out.below hb)
  clear hb hkz p0 p1 p2 r0 r1 r2
  obtain ⟨⟨r0, r1, r2⟩, _⟩ := rowN3 M1.out.row
  go_wp2_with fail
  refine (markWorkOut_any E C N _ M1.out.ls hN2).mono ?_
  rintro e wb ⟨rfl, hmk, hblk, hos, htp, hout, hsz⟩
  have q1 := LB1.out
  have q2 := LC1.out
  have q3 := HL4.out
  have q4 := HLO.out
  have M2 : Hid (WoM b1 w4.heap.size N a1 k1 (mk1 1) E C wb) := ⟨M1.out.row.of_block (hblk _ M1.out.row.lt (fun e => by have := LC2.out _ e; omega)), hmk⟩
  replace M0 := Lib.hid (M0.out.kept (hblk _ M0.out.row.lt (fun e => by have := LC0.out _ e; omega)) (fun g e hl => hblk g hl (fun e2 => by have := LC0.out _ e2; have := LB0.out _ e; omega)))
  replace HB : Hid (Below w.heap.size w wb) := HB.out.trans ⟨hos, htp, hout, hsz, fun g hg => hblk g (by have := HB.out.size; omega) (fun e => by have := LC0.out _ e; omega)⟩
  clear hmk hblk hos htp hout hsz q1 q2 q3 q4 M1 r0 r1 r2
  obtain ⟨⟨r0, r1, r2⟩, _⟩ := rowN3 M2.out.row
  obtain ⟨Q, hQ⟩ : ∃ Q : Nat, Q = 1 + N := ⟨_, rfl⟩
  rw [← hQ]
  have hQ0 : ¬ (Q : Int) < 0 := by omega
  have HQ := Lib.hid hQ
  clear hQ
  go_wp2_with fail
  refine (heldWorkOut_any E C N _ M2.out.ls hN2).mono ?_
  rintro e wc ⟨rfl, hb⟩
  replace HB : Hid (Below w.heap.size w wc) := HB.out.trans (hb.mono HB.out.size)
  replace M0 := Lib.hid (M0.out.below hb)
  replace M2 := Lib.hid (M2.out.below hb)
  clear hb r0 r1 r2
  rw [← HQ.out]
  go_wp2_with fail
  refine (toJobS_any a m k bs _ (H1.out.below HB.out) NM.out NN.out).mono ?_
  rintro e wd ⟨⟨gs3, hs3, rfl, hk⟩, hb⟩
  replace HB : Hid (Below w.heap.size w wd) := HB.out.trans (hb.mono HB.out.size)
  replace M0 := Lib.hid (M0.out.below hb)
  replace M2 := Lib.hid (M2.out.below hb)
  have HK := Lib.hid hk
  clear hb hk
  go_wp2_with fail
  refine (IM.out _ _ _ _ _ _ HK.out NN.out (HET.out.below HB.out)).mono ?_
  rintro e we ⟨⟨a3, k3, rfl, hl⟩, hb⟩
  replace HB : Hid (Below w.heap.size w we) := HB.out.trans (hb.mono HB.out.size)
  replace M0 := Lib.hid (M0.out.below hb)
  replace M2 := Lib.hid (M2.out.below hb)
  obtain ⟨⟨p0, p1, p2⟩, _⟩ := rowN3 M0.out.row
  have lp := M0.out.row.lt
  obtain ⟨We, hWe⟩ : ∃ We, We = we.alloc (.cells #[.slice a3 N k3, .int .i64 E, .int .i64 C] 26) := ⟨_, rfl⟩
  have hb3 : Below we.heap.size we We := by rw [hWe]; exact nbel_alloc _ _
  have HL3 : Hid (LsOwn 2 1 wd.heap.size N a3 k3 S We) := hl.below hb3
  replace HB : Hid (Below w.heap.size w We) := HB.out.trans (hb3.mono HB.out.size)
  replace M0 := Lib.hid (M0.out.below hb3)
  replace M2 := Lib.hid (M2.out.below hb3)
  have HWe := Lib.hid hWe
  clear hb hb3 hl hWe HK
  go_wp2_with fail
  rw [← HWe.out]
  clear HWe p0 p1 p2 lp
  refine (eqWorkOut_same E C N S a3 a0 k3 k0 _ (by simpa using HL3.out.at_) (by simpa using M0.out.ls.at_) hN2).mono ?_
  rintro e wf ⟨rfl, hb⟩
  replace HB : Hid (Below w.heap.size w wf) := HB.out.trans (hb.mono HB.out.size)
  replace M2 := Lib.hid (M2.out.below hb)
  clear hb M0 HL3
  obtain ⟨⟨r0, r1, r2⟩, _⟩ := rowN3 M2.out.row
  go_wp2_with fail
  refine (heldWorkOut_any E C N _ M2.out.ls hN2).mono ?_
  rintro e wg ⟨rfl, hb⟩
  replace HB : Hid (Below w.heap.size w wg) := HB.out.trans (hb.mono HB.out.size)
  clear hb r0 r1 r2
  rw [← HQ.out]
  go_wp2_with fail
  go_ret
  exact ⟨rfl, HB.out⟩
end Go.Proofs.YtganlipebndeoaaDoor
