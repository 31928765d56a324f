/-
  The program's telling of an answer of mains, and its start.
-/
import Derived.Test.YtngofpjjiadegaaDoorMnAs
namespace Go.Proofs.YtngofpjjiadegaaDoor
open Go.RowKit Go.Deep

set_option maxRecDepth 100000 in
set_option maxHeartbeats 4000000 in
theorem tell_ok (fa : Option Addr) (fn fc : Nat) (ha : Option Addr) (hn hc : Nat) (rest rounds at_ code : Int) (w : World) :
    Calls Tryd.prog 23 #[moV fa fn fc ha hn hc rest rounds at_ code, .nilIface] w fun e w' => e = .returned (moV fa fn fc ha hn hc rest rounds at_ code) ∧ Below w.heap.size w w' := by
  go_enter Tryd.func23, Tryd.ntmps23
  go_wp2_with fail
  exact bodyPost_ret (v := moV fa fn fc ha hn hc rest rounds at_ code) (by simp [results, Tryd.results23, go_sem]) rfl ⟨rfl, mbel2 _ _ _⟩
set_option maxRecDepth 100000 in
set_option maxHeartbeats 4000000 in
theorem tell_bad (fa : Option Addr) (fn fc : Nat) (ha : Option Addr) (hn hc : Nat) (rest rounds at_ code : Int) (y : Value) (a c : Int) (hA : AsFinds y c) (hS : StFinds y a) (w : World) (hg : Et w) :
    Calls Tryd.prog 23 #[moV fa fn fc ha hn hc rest rounds at_ code, .iface 78 y] w fun e w' => e = .returned (moV none 0 0 none 0 0 0 0 a c) ∧ Below w.heap.size w w' := by
  obtain ⟨W, hW⟩ : ∃ W, W = ((w.alloc (.cells (moA fa fn fc ha hn hc rest rounds at_ code) 29)).alloc (.cells (moA none 0 0 none 0 0 0 0 0 0) 29)).alloc (.cells #[.int .i64 0, .nilIface] 84) := ⟨_, rfl⟩
  have B0 : Hid (Below w.heap.size w W) := by show Below _ _ _; rw [hW]; exact (mbel2 w _ _).alloc (by simp; omega) _
  have R0 : Hid (W.rowIs (w.heap.size + 1) 29 6 (rowN (moL none 0 0 none 0 0 0 0 0 0))) := by show World.rowIs _ _ _ _ _; rw [hW]; exact nrow_below (rowN_alloc' (by simp) _ _) (nbel_alloc _ _)
  have L0 : Hid (W.rowIs (w.heap.size + 1 + 1) 84 2 (rowN [.int .i64 0, .nilIface])) := by show World.rowIs _ _ _ _ _; rw [hW]; exact rowN_alloc' (by simp) _ _
  have G0 : Hid (Et W) := hg.below B0.out
  have GW := Lib.hid hg
  have gl0 : 0 < w.heap.size := World.block_lt_of_cell? _ _ hg
  have GL := Lib.hid gl0
  have HW := Lib.hid hW
  have HA := Lib.hid hA
  have HST := Lib.hid hS
  clear hW hg gl0 hA hS
  go_enter Tryd.func23, Tryd.ntmps23
  go_wp2_with fail
  rw [← HW.out]
  refine (asSTop y a HST.out (w.heap.size + 1 + 1) _ G0.out (L0.out.cell (by omega)) (L0.out.frozen 0) (L0.out.cell (by omega)) (L0.out.frozen 1)).mono ?_
  rintro e w1 ⟨⟨bb, rfl⟩, hc, hb1⟩
  have B1 : Hid (Below w.heap.size w w1) := B0.out.trans (hb1.mono (by omega))
  have R1 : Hid (w1.rowIs (w.heap.size + 1) 29 6 (rowN (moL none 0 0 none 0 0 0 0 0 0))) := R0.out.of_block (hb1.block _ (by omega))
  have L1 := Lib.hid hc
  clear hb1 hc B0 R0 L0 G0
  go_wp2_with fail
  refine wp_region_held_drew (S := fun V => Below w.heap.size w V ∧ V.cell? ⟨w.heap.size + 1 + 1, 0, none⟩ = some (.int .i64 a)) (by kernel_rfl) ⟨B1.out.drew, L1.out⟩ (fun hHeld => ?_)
  obtain ⟨Z, hZ⟩ : ∃ Z, Z = w1.drew := ⟨_, rfl⟩
  have RZ0 : Hid (Z.rowIs (w.heap.size + 1) 29 6 (rowN (moL none 0 0 none 0 0 0 0 0 0))) := by show World.rowIs _ _ _ _ _; rw [hZ]; exact nrow_below R1.out (Below.refl _ _).drew
  rw [← hZ] at hHeld ⊢
  clear hZ
  refine take_do (i := 0) (v := (.pointer (some ⟨w.heap.size + 1 + 1, 0, none⟩))) rfl (by kernel_rfl) (by kernel_rfl) (by kernel_rfl) (fun _ _ _ h => h) (by rfl) ?_ (by assumption) ?_
  · intro w hSw
    skip
    go_simp
  simp only [Act.put, List.setIfInBounds_toArray, List.set_cons_zero, List.set_cons_succ]
  refine take_do (i := 1) (v := (.int .i64 a)) rfl (by kernel_rfl) (by kernel_rfl) (by kernel_rfl) (fun _ _ _ h => h) (by rfl) ?_ (by assumption) ?_
  · intro w hSw
    have c0 := hSw.2
    go_simp
  simp only [Act.put, List.setIfInBounds_toArray, List.set_cons_zero, List.set_cons_succ]
  refine take_do (i := 2) (v := (.iface 78 y)) rfl (by kernel_rfl) (by kernel_rfl) (by kernel_rfl) (fun _ _ _ h => h) (by rfl) ?_ (by assumption) ?_
  · intro w hSw
    skip
    go_simp
  simp only [Act.put, List.setIfInBounds_toArray, List.set_cons_zero, List.set_cons_succ]
  refine take_call (i := 3) rfl (by kernel_rfl) (fun K2 hK => ?_)
  go_simp
  refine (codeOf_any y c HA.out _ ((hHeld.1.cell (p := ⟨0, 0, none⟩) GL.out).trans GW.out)).mono ?_
  rintro e Z1 ⟨rfl, hb⟩
  go_wp2_with fail
  have R2 := nrow_below RZ0.out hb
  refine hK.out _ _ ⟨hHeld.1.trans (hb.mono hHeld.1.size), (hb.cell (World.block_lt_of_cell? _ _ hHeld.2)).trans hHeld.2⟩ (fun hHeld2 => ?_)
  clear hK hHeld hb RZ0
  refine take_do (i := 4) (v := (moV none 0 0 none 0 0 0 0 a c)) rfl (by kernel_rfl) (by kernel_rfl) (by kernel_rfl) (fun _ _ _ h => h) (by rfl) ?_ (hHeld2) ?_
  · intro w hSw
    skip
    go_simp
  simp only [Act.put, List.setIfInBounds_toArray, List.set_cons_zero, List.set_cons_succ]
  obtain ⟨⟨o0, o1, o2, o3, o4, o5⟩, z0, z1, z2, z3, z4, z5⟩ := rowN6 R2
  have l0 := R2.lt
  obtain ⟨WZ, hWZ⟩ : ∃ WZ, WZ = set6 Z1 (w.heap.size + 1) (.slice none 0 0) (.slice none 0 0) (.int .i64 0) (.int .i64 0) (.int .i64 a) (.int .i64 c) := ⟨_, rfl⟩
  have D := set6_done R2 rfl hHeld2.1 (by omega) (.slice none 0 0) (.slice none 0 0) (.int .i64 0) (.int .i64 0) (.int .i64 a) (.int .i64 c)
  rw [← hWZ] at D
  have SZ : Hid (Below w.heap.size w WZ ∧ WZ.cell? ⟨w.heap.size + 1 + 1, 0, none⟩ = some (.int .i64 a)) := ⟨D.2.1, (World.cell?_of_block (a := ⟨w.heap.size + 1 + 1, 0, none⟩) (D.2.2 _ (by show w.heap.size + 1 + 1 ≠ w.heap.size + 1; omega))).trans hHeld2.2⟩
  have RZ := Lib.hid D.1
  have HWZ : Hid (WZ = (((((Z1.setCell ⟨w.heap.size + 1, 0, none⟩ (.slice none 0 0)).setCell ⟨w.heap.size + 1, 1, none⟩ (.slice none 0 0)).setCell ⟨w.heap.size + 1, 2, none⟩ (.int .i64 0)).setCell ⟨w.heap.size + 1, 3, none⟩ (.int .i64 0)).setCell ⟨w.heap.size + 1, 4, none⟩ (.int .i64 a)).setCell ⟨w.heap.size + 1, 5, none⟩ (.int .i64 c)) := hWZ
  clear hWZ R2 D
  refine take_call (i := 5) rfl (by kernel_rfl) (fun K2 hK => ?_)
  go_simp
  rw [← HWZ.out]
  refine hK.out _ _ SZ.out (fun hHeld3 => ?_)
  clear hK hHeld2 hHeld3 HWZ o0 o1 o2 o3 o4 o5 z0 z1 z2 z3 z4 z5 l0
  refine wpAnyH_done (by kernel_rfl) ?_ _
  go_wp2_with fail
  obtain ⟨⟨x0, x1, x2, x3, x4, x5⟩, _⟩ := rowN6 RZ.out
  exact bodyPost_ret (v := moV none 0 0 none 0 0 0 0 a c) (by simp [results, Tryd.results23, go_sem, x0, x1, x2, x3, x4, x5]) rfl ⟨rfl, SZ.out.1⟩
/-- An error of the start, as it is told. -/
theorem errS_finds {ev : Value} {c a : Int} (h : ErrS ev c a) : ∃ y, ev = .iface 78 y ∧ AsFinds y c ∧ StFinds y a := by
  rcases h with ⟨s, rfl, rfl⟩ | ⟨s, rfl⟩
  · exact ⟨_, rfl, finds_one s c, st_dr s c⟩
  · exact ⟨_, rfl, finds_dsr s a c, st_ds s a c⟩
set_option maxRecDepth 100000 in
set_option maxHeartbeats 4000000 in
theorem implStart_any (m : Mn.Mains) (pa : Option Addr) (pk : Nat) (la : Option Addr) (lk : Nat) (wa : Option Addr) (wk : Nat) (w : World) (h : MnAt m pa la wa w) (hg : Et w) :
    Calls Tryd.prog 7 #[mnV m pa pk la lk wa wk] w fun e w' => SsEnd m w.heap.size e w' ∧ Below w.heap.size w w' := by
  obtain ⟨W, hW⟩ : ∃ W, W = (w.alloc (.cells #[.int .i64 m.nodes, .int .i64 m.head, .slice pa m.pn pk, .slice la m.ln lk, .slice wa m.wn wk] 33)).alloc (.cells (moA none 0 0 none 0 0 0 0 0 0) 29) := ⟨_, rfl⟩
  have S0 : Hid (MsS m pa pk la lk wa wk w W) := by
    show MsS _ _ _ _ _ _ _ _ _
    rw [hW]
    exact ⟨nrow_below (rowN_alloc w _ _) (nbel_alloc _ _), rowN_alloc' (by simp) _ _, (h.below (nbel_alloc _ _)).below (nbel_alloc _ _), mbel2 _ _ _⟩
  have HW := Lib.hid hW
  have HG := Lib.hid hg
  clear h hW hg
  go_enter Tryd.func7, Tryd.ntmps7
  go_wp2_with fail
  rw [← HW.out]
  refine (startMains_any m pa pk la lk wa wk _ S0.out.at_).mono ?_
  rintro e w1 ⟨hE, hb⟩
  have S1 := Lib.hid (S0.out.below hb)
  have SZ0 : Hid (w.heap.size + 2 ≤ W.heap.size) := by show _ ≤ _; have := S0.out.res.lt; omega
  clear hb S0
  rcases hE with ⟨c, a, ev, hst, hc0, hev, rfl⟩ | ⟨gk, gf, tv, hst, rfl, hkd, hfl, htr, hgk, hgf⟩
  · obtain ⟨y, rfl, hA, hS⟩ := errS_finds hev
    have HA := Lib.hid hA
    have HST := Lib.hid hS
    have HS := Lib.hid hst
    have HC := Lib.hid hc0
    have S2 := Lib.hid (S1.out.below (nbel_alloc w1 (.cells #[.slice none 0 0, .slice none 0 0, .slice none 0 0] 57)))
    clear hA hS hst hc0 hev S1
    go_wp2_with fail
    refine (tell_bad _ _ _ _ _ _ _ _ _ _ y a c HA.out HST.out _ (HG.out.below S2.out.old)).mono ?_
    rintro e w2 ⟨rfl, hb⟩
    have S3 := Lib.hid (S2.out.below hb)
    clear hb S2
    have D := Lib.hid (set6_done S3.out.res rfl S3.out.old (by omega) (.slice none 0 0) (.slice none 0 0) (.int .i64 0) (.int .i64 0) (.int .i64 a) (.int .i64 c))
    obtain ⟨⟨x0, x1, x2, x3, x4, x5⟩, z0, z1, z2, z3, z4, z5⟩ := rowN6 S3.out.res
    have lx := S3.out.res.lt
    go_wp2_with fail
    obtain ⟨⟨q0, q1, q2, q3, q4, q5⟩, _⟩ := rowN6 D.out.1
    unfold set6 at q0 q1 q2 q3 q4 q5
    refine bodyPost_ret (v := moV none 0 0 none 0 0 0 0 a c) ?_ rfl ⟨SsEnd.no c a HS.out HC.out rfl, D.out.2.1⟩
    simp only [results, Tryd.results7]
    simp [go_sem, q0, q1, q2, q3, q4, q5]
  · have HS := Lib.hid hst
    obtain ⟨ta, tc, etv, _⟩ := htr
    subst etv
    have HF := Lib.hid hfl
    have HGF : Hid (W.heap.size ≤ gf) := hgf
    have S2 := Lib.hid (S1.out.below (nbel_alloc w1 (.cells #[.slice la m.ln lk, .slice (some ⟨gk, 0, none⟩) m.pn m.pn, .slice (some ⟨gf, 0, none⟩) m.pn m.pn] 57)))
    have F2 := Lib.hid (hfl.below (nbel_alloc w1 (.cells #[.slice la m.ln lk, .slice (some ⟨gk, 0, none⟩) m.pn m.pn, .slice (some ⟨gf, 0, none⟩) m.pn m.pn] 57)))
    clear hst hkd hfl hgk hgf S1 HF
    go_wp2_with fail
    refine (tell_ok _ _ _ _ _ _ _ _ _ _ _).mono ?_
    rintro e w2 ⟨rfl, hb⟩
    have S3 := Lib.hid (S2.out.below hb)
    have F3 := Lib.hid (F2.out.below hb)
    clear hb S2 F2
    have D := Lib.hid (set6_done S3.out.res rfl S3.out.old (by omega) (.slice (some ⟨gf, 0, none⟩) m.pn m.pn) (.slice none 0 0) (.int .i64 0) (.int .i64 0) (.int .i64 0) (.int .i64 0))
    obtain ⟨⟨x0, x1, x2, x3, x4, x5⟩, z0, z1, z2, z3, z4, z5⟩ := rowN6 S3.out.res
    have lx := S3.out.res.lt
    go_wp2_with fail
    obtain ⟨⟨q0, q1, q2, q3, q4, q5⟩, _⟩ := rowN6 D.out.1
    unfold set6 at q0 q1 q2 q3 q4 q5
    have hgf := HGF.out
    have hsz := SZ0.out
    refine bodyPost_ret (v := moV (some ⟨gf, 0, none⟩) m.pn m.pn none 0 0 0 0 0 0) ?_ rfl ⟨SsEnd.ok gf HS.out rfl (F3.out.block (D.out.2.2 _ (by omega))) (by omega), D.out.2.1⟩
    simp only [results, Tryd.results7]
    simp [go_sem, q0, q1, q2, q3, q4, q5]
end Go.Proofs.YtngofpjjiadegaaDoor
