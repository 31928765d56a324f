/-
  The program's telling of an answer of mains, and its start.
-/
import Derived.Test.YtfgmalnkpgloiaaGreatDoorMnPo
namespace Go.Proofs.YtfgmalnkpgloiaaGreatDoor
open Go.RowKit Go.Deep

set_option maxRecDepth 100000 in
set_option maxHeartbeats 4000000 in
theorem tell_ok (fa : Option Addr) (fn fc : Nat) (ha : Option Addr) (hn hc : Nat) (rest rounds at_ code : Int) (w : World) :
    Calls Tryz.prog 35 #[moV fa fn fc ha hn hc rest rounds at_ code, .nilIface] w fun e w' => e = .returned (moV fa fn fc ha hn hc rest rounds at_ code) ∧ Below w.heap.size w w' := by
  go_enter Tryz.func35, Tryz.ntmps35
  go_wp2_with fail
  exact bodyPost_ret (v := moV fa fn fc ha hn hc rest rounds at_ code) (by simp [results, Tryz.results35, go_sem]) rfl ⟨rfl, mbel2 _ _ _⟩
set_option maxRecDepth 100000 in
set_option maxHeartbeats 4000000 in
theorem tell_bad (fa : Option Addr) (fn fc : Nat) (ha : Option Addr) (hn hc : Nat) (rest rounds at_ code : Int) (y : Value) (a c : Int) (hA : AsFinds y c) (hS : StFinds y a) (w : World) (hg : Et w) :
    Calls Tryz.prog 35 #[moV fa fn fc ha hn hc rest rounds at_ code, .iface 107 y] w fun e w' => e = .returned (moV none 0 0 none 0 0 0 0 a c) ∧ Below w.heap.size w w' := by
  obtain ⟨W, hW⟩ : ∃ W, W = ((w.alloc (.cells (moA fa fn fc ha hn hc rest rounds at_ code) 31)).alloc (.cells (moA none 0 0 none 0 0 0 0 0 0) 31)) := ⟨_, rfl⟩
  have B0 : Hid (Below w.heap.size w W) := by show Below _ _ _; rw [hW]; exact mbel2 w _ _
  have R0 : Hid (W.rowIs (w.heap.size + 1) 31 6 (rowN (moL none 0 0 none 0 0 0 0 0 0))) := by show World.rowIs _ _ _ _ _; rw [hW]; exact rowN_alloc' (by simp) _ _
  have GW := Lib.hid hg
  have HW := Lib.hid hW
  have HA := Lib.hid hA
  have HST := Lib.hid hS
  clear hW hg hA hS
  go_enter Tryz.func35, Tryz.ntmps35
  go_wp2_with fail
  rw [← HW.out]
  refine (placeOf_any y a HST.out _ (GW.out.below B0.out)).mono ?_
  rintro e w1 ⟨rfl, hb1⟩
  have B1 : Hid (Below w.heap.size w w1) := B0.out.trans (hb1.mono B0.out.size)
  have R1 : Hid (w1.rowIs (w.heap.size + 1) 31 6 (rowN (moL none 0 0 none 0 0 0 0 0 0))) := nrow_below R0.out hb1
  clear hb1 B0 R0
  go_wp2_with fail
  refine (codeOf_any y c HA.out _ (GW.out.below B1.out)).mono ?_
  rintro e Z1 ⟨rfl, hb⟩
  have B2 : Hid (Below w.heap.size w Z1) := B1.out.trans (hb.mono B1.out.size)
  have R2 := nrow_below R1.out hb
  obtain ⟨⟨o0, o1, o2, o3, o4, o5⟩, z0, z1, z2, z3, z4, z5⟩ := rowN6 R2
  have l0 := R2.lt
  obtain ⟨WZ, hWZ⟩ : ∃ WZ, WZ = set6 Z1 (w.heap.size + 1) (.slice none 0 0) (.slice none 0 0) (.int .i64 0) (.int .i64 0) (.int .i64 a) (.int .i64 c) := ⟨_, rfl⟩
  have D := set6_done R2 rfl B2.out (by omega) (.slice none 0 0) (.slice none 0 0) (.int .i64 0) (.int .i64 0) (.int .i64 a) (.int .i64 c)
  rw [← hWZ] at D
  have RZ := Lib.hid D.1
  have SZ : Hid (Below w.heap.size w WZ) := D.2.1
  have HWZ : Hid (WZ = (((((Z1.setCell ⟨w.heap.size + 1, 0, none⟩ (.slice none 0 0)).setCell ⟨w.heap.size + 1, 1, none⟩ (.slice none 0 0)).setCell ⟨w.heap.size + 1, 2, none⟩ (.int .i64 0)).setCell ⟨w.heap.size + 1, 3, none⟩ (.int .i64 0)).setCell ⟨w.heap.size + 1, 4, none⟩ (.int .i64 a)).setCell ⟨w.heap.size + 1, 5, none⟩ (.int .i64 c)) := hWZ
  clear hWZ R2 D hb R1 B1 B2
  go_wp2_with fail
  rw [← HWZ.out]
  obtain ⟨⟨x0, x1, x2, x3, x4, x5⟩, _⟩ := rowN6 RZ.out
  exact bodyPost_ret (v := moV none 0 0 none 0 0 0 0 a c) (by simp [results, Tryz.results35, go_sem, x0, x1, x2, x3, x4, x5]) rfl ⟨rfl, SZ.out⟩
/-- An error of the start, as it is told. -/
theorem errS_finds {ev : Value} {c a : Int} (h : ErrS ev c a) : ∃ y, ev = .iface 107 y ∧ AsFinds y c ∧ StFinds y a := by
  rcases h with ⟨s, rfl, rfl⟩ | ⟨s, rfl⟩
  · exact ⟨_, rfl, finds_one s c, st_dr s c⟩
  · exact ⟨_, rfl, finds_dsr s a c, st_ds s a c⟩
set_option maxRecDepth 100000 in
set_option maxHeartbeats 4000000 in
theorem implStart_any (m : Mn.Mains) (pa : Option Addr) (pk : Nat) (la : Option Addr) (lk : Nat) (wa : Option Addr) (wk : Nat) (w : World) (h : MnAt m pa la wa w) (hg : Et w) :
    Calls Tryz.prog 12 #[mnV m pa pk la lk wa wk] w fun e w' => SsEnd m w.heap.size e w' ∧ Below w.heap.size w w' := by
  obtain ⟨W, hW⟩ : ∃ W, W = (w.alloc (.cells #[.int .i64 m.nodes, .int .i64 m.head, .slice pa m.pn pk, .slice la m.ln lk, .slice wa m.wn wk] 27)).alloc (.cells (moA none 0 0 none 0 0 0 0 0 0) 31) := ⟨_, rfl⟩
  have S0 : Hid (MsS m pa pk la lk wa wk w W) := by
    show MsS _ _ _ _ _ _ _ _ _
    rw [hW]
    exact ⟨nrow_below (rowN_alloc w _ _) (nbel_alloc _ _), rowN_alloc' (by simp) _ _, (h.below (nbel_alloc _ _)).below (nbel_alloc _ _), mbel2 _ _ _⟩
  have HW := Lib.hid hW
  have HG := Lib.hid hg
  clear h hW hg
  go_enter Tryz.func12, Tryz.ntmps12
  go_wp2_with fail
  rw [← HW.out]
  refine (startMains_any m pa pk la lk wa wk _ S0.out.at_).mono ?_
  rintro e w1 ⟨hE, hb⟩
  have S1 := Lib.hid (S0.out.below hb)
  have SZ0 : Hid (w.heap.size + 2 ≤ W.heap.size) := by show _ ≤ _; have := S0.out.res.lt; omega
  clear hb S0
  rcases hE with ⟨c, a, ev, hst, hc0, hev, rfl⟩ | ⟨gk, gf, tv, hst, rfl, hkd, hfl, htr, hgk, hgf, _⟩
  · obtain ⟨y, rfl, hA, hS⟩ := errS_finds hev
    have HA := Lib.hid hA
    have HST := Lib.hid hS
    have HS := Lib.hid hst
    have HC := Lib.hid hc0
    have S2 := Lib.hid (S1.out.below (nbel_alloc w1 (.cells #[.slice none 0 0, .slice none 0 0, .slice none 0 0] 70)))
    clear hA hS hst hc0 hev S1
    go_wp2_with fail
    refine (tell_bad _ _ _ _ _ _ _ _ _ _ y a c HA.out HST.out _ (HG.out.below S2.out.old)).mono ?_
    rintro e w2 ⟨rfl, hb⟩
    have S3 := Lib.hid (S2.out.below hb)
    clear hb S2
    have D := Lib.hid (set6_done S3.out.res rfl S3.out.old (by omega) (.slice none 0 0) (.slice none 0 0) (.int .i64 0) (.int .i64 0) (.int .i64 a) (.int .i64 c))
    obtain ⟨⟨x0, x1, x2, x3, x4, x5⟩, z0, z1, z2, z3, z4, z5⟩ := rowN6 S3.out.res
    have lx := S3.out.res.lt
    go_wp2_with fail
    obtain ⟨⟨q0, q1, q2, q3, q4, q5⟩, _⟩ := rowN6 D.out.1
    unfold set6 at q0 q1 q2 q3 q4 q5
    refine bodyPost_ret (v := moV none 0 0 none 0 0 0 0 a c) ?_ rfl ⟨SsEnd.no c a HS.out HC.out rfl, D.out.2.1⟩
    simp only [results, Tryz.results12]
    simp [go_sem, q0, q1, q2, q3, q4, q5]
  · have HS := Lib.hid hst
    obtain ⟨ta, tc, etv, _⟩ := htr
    subst etv
    have HF := Lib.hid hfl
    have HGF : Hid (W.heap.size ≤ gf) := hgf
    have S2 := Lib.hid (S1.out.below (nbel_alloc w1 (.cells #[.slice la m.ln lk, .slice (some ⟨gk, 0, none⟩) m.pn m.pn, .slice (some ⟨gf, 0, none⟩) m.pn m.pn] 70)))
    have F2 := Lib.hid (hfl.below (nbel_alloc w1 (.cells #[.slice la m.ln lk, .slice (some ⟨gk, 0, none⟩) m.pn m.pn, .slice (some ⟨gf, 0, none⟩) m.pn m.pn] 70)))
    clear hst hkd hfl hgk hgf S1 HF
    go_wp2_with fail
    refine (tell_ok _ _ _ _ _ _ _ _ _ _ _).mono ?_
    rintro e w2 ⟨rfl, hb⟩
    have S3 := Lib.hid (S2.out.below hb)
    have F3 := Lib.hid (F2.out.below hb)
    clear hb S2 F2
    have D := Lib.hid (set6_done S3.out.res rfl S3.out.old (by omega) (.slice (some ⟨gf, 0, none⟩) m.pn m.pn) (.slice none 0 0) (.int .i64 0) (.int .i64 0) (.int .i64 0) (.int .i64 0))
    obtain ⟨⟨x0, x1, x2, x3, x4, x5⟩, z0, z1, z2, z3, z4, z5⟩ := rowN6 S3.out.res
    have lx := S3.out.res.lt
    go_wp2_with fail
    obtain ⟨⟨q0, q1, q2, q3, q4, q5⟩, _⟩ := rowN6 D.out.1
    unfold set6 at q0 q1 q2 q3 q4 q5
    have hgf := HGF.out
    have hsz := SZ0.out
    refine bodyPost_ret (v := moV (some ⟨gf, 0, none⟩) m.pn m.pn none 0 0 0 0 0 0) ?_ rfl ⟨SsEnd.ok gf HS.out rfl (F3.out.block (D.out.2.2 _ (by omega))) (by omega), D.out.2.1⟩
    simp only [results, Tryz.results12]
    simp [go_sem, q0, q1, q2, q3, q4, q5]
end Go.Proofs.YtfgmalnkpgloiaaGreatDoor
