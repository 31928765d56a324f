/-
  The law FnStoreBook.
-/
import Derived.Test.YtdpghhmcibiplaaDoorStD4
import Derived.Test.YtdpghhmcibiplaaDoorStLw
import Derived.Test.YtdpghhmcibiplaaDoorStR2
import Derived.Test.YtdpghhmcibiplaaDoorStR3
import Derived.BigQuiet
namespace Go.Proofs.YtdpghhmcibiplaaDoor
open Go.RowKit Go.Deep

theorem sout_code (z : Ans) (w : World) : (Instr.field 61 (ansV z) 5).run Tryd.prog w = .ok (.int .i64 z.k) w := by kernel_rfl
theorem FlS.ints {B n : Nat} {v : Value} {f : Nat → Int} {W : World} (h : FlS B v n f W) : ∃ a c, v = .slice a n c ∧ IntsAt a n f W := by
  obtain ⟨a, c, e, h⟩ := h
  rcases h with ⟨h, _⟩ | ⟨g, e1, hg, h⟩
  · exact ⟨a, c, e, Or.inl h⟩
  · subst e1; exact ⟨_, c, e, h.at_⟩
theorem lwCopyF_any {B n : Nat} {v : Value} {f : Nat → Int} {w : World} (h : FlS B v n f w) (hn : n ≤ 1000) :
    Calls Tryd.prog 28 #[v] w fun e w' => (∃ a c, e = .returned (.slice a n c) ∧ IntsAt a n f w') ∧ Below w.heap.size w w' := by
  obtain ⟨a, c, rfl, h⟩ := h
  rcases h with ⟨rfl, rfl, rfl⟩ | ⟨g, rfl, hg, h⟩
  · refine (lwCopyNil_any w).mono ?_
    rintro e W ⟨⟨a, c, rfl⟩, hb⟩
    exact ⟨⟨a, c, rfl, Or.inl rfl⟩, hb⟩
  · exact lwCopyS_any g n c f w h hn
/-- What stands in the law. -/
structure BkS (w : World) (bS : Nat) (ca : Option Addr) (cn ck : Nat) (ra : Option Addr) (rn rk : Nat) (v : Int) (c r : Nat → St.Pr) (vi : Value) (n : Nat) (f : Nat → Int) (vw : Value) (m : Nat) (g : Nat → Int) (W : World) : Prop where
  row : W.rowIs bS 66 3 (d3 (.slice ca cn ck) (.slice ra rn rk) (.int .i64 v))
  st : StAt ca cn c ra rn r W
  fi : FlS w.heap.size vi n f W
  fw : FlS w.heap.size vw m g W
  bel : Below w.heap.size w W
  et : Et W ∧ TabOk W
  le : w.heap.size ≤ bS
theorem BkS.below {w : World} {bS : Nat} {ca : Option Addr} {cn ck : Nat} {ra : Option Addr} {rn rk : Nat} {v : Int} {c r : Nat → St.Pr} {vi : Value} {n : Nat} {f : Nat → Int} {vw : Value} {m : Nat} {g : Nat → Int} {W W' : World} (h : BkS w bS ca cn ck ra rn rk v c r vi n f vw m g W) (hb : Below W.heap.size W W') : BkS w bS ca cn ck ra rn rk v c r vi n f vw m g W' :=
  ⟨h.row.of_block (hb.block _ h.row.lt), h.st.below hb, h.fi.same (fun k _ hl => hb.block k hl), h.fw.same (fun k _ hl => hb.block k hl), h.bel.trans (hb.mono h.bel.size), ⟨h.et.1.below hb, tab_below h.et.2 hb⟩, h.le⟩
/-- What the law holds its run against. -/
structure BkZ (v : Int) (n : Nat) (f g : Nat → Int) (z : Ans) : Prop where
  code : z.k = 0
  n4 : n ≤ 400
  fo : St.FlowsOk n f
  go : St.FlowsOk n g
  v0 : 0 ≤ v ∧ v ≤ 1000000000
  s0 : 0 ≤ St.sumTo f n ∧ St.sumTo f n ≤ 1000000000000
  s1 : 0 ≤ St.sumTo g n ∧ St.sumTo g n ≤ 1000000000000
  a0 : 0 ≤ z.a
  b0 : 0 ≤ z.b
  c0 : 0 ≤ z.c
  d0 : 0 ≤ z.d
  e0 : 0 ≤ z.e ∧ z.e ≤ z.a
  q1 : v + St.sumTo f n = z.a + z.b + z.c
  q2 : St.sumTo g n = z.b + z.d
theorem bkz_of {cn : Nat} {c : Nat → St.Pr} {rn : Nat} {r : Nat → St.Pr} {v : Int} {n : Nat} {f : Nat → Int} {m : Nat} {g : Nat → Int} {z : Ans} (h : RunIs cn c rn r v n f m g z) (hk : z.k = 0) : m = n ∧ BkZ v n f g z := by
  by_cases hb : 400 < n ∨ 400 < m
  · rw [h.1 hb] at hk; simp at hk
  · by_cases ho : St.StoreOk cn c rn r v ∧ n = m ∧ St.FlowsOk n f ∧ St.FlowsOk n g
    · have hz := h.2.2 hb ho
      obtain ⟨hs, rfl, hf, hg⟩ := ho
      refine ⟨rfl, ?_⟩
      have b1 := St.sumTo_bounds hf n (Nat.le_refl _)
      have b2 := St.sumTo_bounds hg n (Nat.le_refl _)
      obtain ⟨hc, hr, v0, v1⟩ := hs
      have hfu := St.full_bounds hc
      have bk := St.run_book hr (by omega) v0 v1 hf hg n (Nat.le_refl _)
      have hn4 : n ≤ 400 := by omega
      rw [hz]
      generalize St.runS rn r (St.full cn c) v f g n = x at *
      obtain ⟨⟨k1, k2⟩, k3, k4, k5, ⟨k6, k7⟩, k8, k9⟩ := bk
      exact ⟨rfl, hn4, hf, hg, ⟨v0, by omega⟩, ⟨b1.1, by omega⟩, ⟨b2.1, by omega⟩, k1, k3, k4, k5, ⟨k6, k7⟩, k8, k9⟩
    · rw [h.2.1 hb ho] at hk; simp at hk
set_option maxRecDepth 100000 in
set_option maxHeartbeats 16000000 in
theorem book_law (a : Option Addr) (len cap : Nat) (w : World) (h : Bytes a len w) (hl : len ≤ 1048576) (hg : Et w ∧ TabOk w) :
    Calls Tryd.prog 9 #[.slice a len cap] w fun e w' => e = .returned (.bool true) ∧ Below w.heap.size w w' := by
  have hlz : ¬ (1048576 : Int) < (len : Int) := by omega
  have H := Lib.hid h
  have HG := Lib.hid hg
  clear h hg
  go_enter Tryd.func9, Tryd.ntmps9
  go_wp2_with fail
  refine (drawRun_any a len cap _ H.out hl).mono ?_
  rintro e W1 ⟨ca, cn, ck, ra, rn, rk, v, c, r, vi, n, f, vw, m, g, rfl, ⟨hpc, hpr⟩, ⟨hfi, hn⟩, ⟨hfw, hm⟩, hb⟩
  obtain ⟨W2, hW2⟩ : ∃ W2, W2 = W1.alloc (.cells #[.slice ca cn ck, .slice ra rn rk, .int .i64 v] 66) := ⟨_, rfl⟩
  have hb2 : Below W1.heap.size W1 W2 := by rw [hW2]; exact (Below.refl _ _).alloc (Nat.le_refl _) _
  have HN : Hid (n ≤ 1000) := hn
  have HM : Hid (m ≤ 1000) := hm
  have BK : Hid (BkS w W1.heap.size ca cn ck ra rn rk v c r vi n f vw m g W2) := ⟨by rw [hW2]; exact drow3 W1 _ _ _ _, ⟨hpc.below hb2, hpr.below hb2⟩, hfi.same (fun k _ hl => hb2.block k hl), hfw.same (fun k _ hl => hb2.block k hl), hb.trans (hb2.mono hb.size), ⟨(HG.out.1.below hb).below hb2, tab_below (tab_below HG.out.2 hb) hb2⟩, hb.size⟩
  obtain ⟨ia, ik, hvi, hI⟩ := BK.out.fi.ints
  obtain ⟨wa, wk, hvw, hQ⟩ := BK.out.fw.ints
  subst hvi hvw
  have HI := Lib.hid hI
  have HQ := Lib.hid hQ
  have HW2 := Lib.hid hW2
  clear hpc hpr hfi hfw hb hb2 hn hm hI hQ hW2
  go_wp2_with fail
  rw [← HW2.out]
  refine (sRun_any ca cn ck c ra rn rk r v ia n ik f wa m wk g _ BK.out.st HI.out HQ.out (by have := HN.out; omega) (by have := HM.out; omega)).mono ?_
  rintro e W3 ⟨⟨z, rfl, hz⟩, hb⟩
  have BK3 := Lib.hid (BK.out.below hb)
  have hfd := sout_code z
  clear hb BK HI HQ HW2
  by_cases hk : z.k ≠ 0
  · have hkz : (z.k == 0) = false := by simp [hk]
    have hkn : (z.k != 0) = true := by simp [hk]
    clear hz
    go_wp2_with fail
    go_ret
    exact ⟨rfl, BK3.out.bel⟩
  replace hk : z.k = 0 := by omega
  obtain ⟨rfl, hZ⟩ := bkz_of hz.out hk
  have HZ := Lib.hid hZ
  have HR := hz
  obtain ⟨za, zb, zc, zd, ze, zk⟩ := z
  obtain rfl : zk = 0 := hk
  clear hz hZ
  go_wp2_with fail
  obtain ⟨W4, hW4⟩ : ∃ W4, W4 = W3.drew := ⟨_, rfl⟩
  have BK4 : Hid (BkS w W1.heap.size ca cn ck ra rn rk v c r (.slice ia m ik) m f (.slice wa m wk) m g W4) := by
    show BkS _ _ _ _ _ _ _ _ _ _ _ _ _ _ _ _ _ _
    rw [hW4]; exact BK3.out.below (Below.refl _ _).drew
  have HW4 := Lib.hid hW4
  refine wp_region_held_drew (S := BxR W1.heap.size (d3 (.slice ca cn ck) (.slice ra rn rk) (.int .i64 v))) (by kernel_rfl) (by rw [← HW4.out]; exact BK4.out.row) (fun hHeld => ?_)
  rw [← HW4.out] at hHeld ⊢
  clear hW4 HW4 BK3 hfd
  refine take_do (i := 0) (v := (stV ca cn ck ra rn rk v)) rfl (by kernel_rfl) (by kernel_rfl) (by kernel_rfl) (fun _ _ _ h => h) (by rfl) ?_ (by assumption) ?_
  · intro w hSw
    obtain ⟨⟨a0, a1, a2⟩, _⟩ := d3_cells hSw
    go_simp
  simp only [Act.put, List.setIfInBounds_toArray, List.set_cons_zero, List.set_cons_succ]
  refine take_do (i := 1) (v := (.slice ia m ik)) rfl (by kernel_rfl) (by kernel_rfl) (by kernel_rfl) (fun _ _ _ h => h) (by rfl) ?_ (by assumption) ?_
  · intro w hSw
    obtain ⟨⟨a0, a1, a2⟩, _⟩ := d3_cells hSw
    go_simp
  simp only [Act.put, List.setIfInBounds_toArray, List.set_cons_zero, List.set_cons_succ]
  refine take_do (i := 3) (v := (.slice wa m wk)) rfl (by kernel_rfl) (by kernel_rfl) (by kernel_rfl) (fun _ _ _ h => h) (by rfl) ?_ (by assumption) ?_
  · intro w hSw
    obtain ⟨⟨a0, a1, a2⟩, _⟩ := d3_cells hSw
    go_simp
  simp only [Act.put, List.setIfInBounds_toArray, List.set_cons_zero, List.set_cons_succ]
  have BL0 : Hid (Below W4.heap.size W4 W4) := Below.refl _ _
  refine wpAnyH_ready (rs := [2, 6]) (by kernel_rfl) (by simp) (AllReadyH.cons (at_drop (i := 2) rfl) (fun K2 hK => ?_) (AllReadyH.cons (at_drop (i := 6) rfl) (fun K2 hK => ?_) (AllReadyH.nil)))
  · go_simp
    refine (lwCopyF_any (BK4.out.below BL0.out).fi HN.out).mono ?_
    rintro e WA ⟨⟨a2, c2, rfl, hi2⟩, hb⟩
    have BLWA : Hid (Below W4.heap.size W4 WA) := BL0.out.trans (hb.mono BL0.out.size)
    have CIWA := Lib.hid hi2
    clear hi2
    clear hb
    go_wp2_with fail
    refine hK.out _ _ (BK4.out.below BLWA.out).row (fun hHeld2 => ?_)
    clear hK hHeld
    have hHeld := hHeld2
    clear hHeld2
    refine wpAnyH_ready (rs := [4, 6]) (by kernel_rfl) (by simp) (AllReadyH.cons (at_drop (i := 4) rfl) (fun K2 hK => ?_) (AllReadyH.cons (at_drop (i := 6) rfl) (fun K2 hK => ?_) (AllReadyH.nil)))
    · go_simp
      refine (lwCopyF_any (BK4.out.below BLWA.out).fw HN.out).mono ?_
      rintro e WB ⟨⟨a4, c4, rfl, hi4⟩, hb⟩
      have BLWB : Hid (Below W4.heap.size W4 WB) := BLWA.out.trans (hb.mono BLWA.out.size)
      have CIWB := Lib.hid (CIWA.out.below hb)
      have CWWB := Lib.hid hi4
      clear hi4
      clear hb
      go_wp2_with fail
      refine hK.out _ _ (BK4.out.below BLWB.out).row (fun hHeld2 => ?_)
      clear hK hHeld
      have hHeld := hHeld2
      clear hHeld2
      refine wpAnyH_ready (rs := [5, 6]) (by kernel_rfl) (by simp) (AllReadyH.cons (at_drop (i := 5) rfl) (fun K2 hK => ?_) (AllReadyH.cons (at_drop (i := 6) rfl) (fun K2 hK => ?_) (AllReadyH.nil)))
      · go_simp
        refine (implRun_any ca cn ck c ra rn rk r v a2 m c2 f a4 m c4 g _ (BK4.out.below BLWB.out).st CIWB.out CWWB.out (by have := HN.out; omega) (by have := HN.out; omega) (BK4.out.below BLWB.out).et.1 (BK4.out.below BLWB.out).et.2).mono ?_
        rintro e WC ⟨⟨z2, rfl, hz2⟩, hb⟩
        obtain rfl := RunIs.one hz2.out HR.out
        clear hz2
        have BLWC : Hid (Below W4.heap.size W4 WC) := BLWB.out.trans (hb.mono BLWB.out.size)
        have CIWC := Lib.hid (CIWB.out.below hb)
        have CWWC := Lib.hid (CWWB.out.below hb)
        clear hb
        go_wp2_with fail
        refine hK.out _ _ (BK4.out.below BLWC.out).row (fun hHeld2 => ?_)
        clear hK hHeld
        have hHeld := hHeld2
        clear hHeld2
        refine take_call (i := 6) rfl (by kernel_rfl) (fun K2 hK => ?_)
        go_simp
        obtain ⟨WX, hWX⟩ : ∃ WX, WX = WC.alloc (.cells #[.int .i64 0, .int .i64 0, .int .i64 0, .int .i64 0, .int .i64 0, .int .i64 0] 61) := ⟨_, rfl⟩
        have hbx : Below WC.heap.size WC WX := by rw [hWX]; exact (Below.refl _ _).alloc (Nat.le_refl _) _
        have RX : Hid (WX.rowIs WC.heap.size 61 6 (r6 (.int .i64 0) (.int .i64 0) (.int .i64 0) (.int .i64 0) (.int .i64 0) (.int .i64 0))) := by
          show World.rowIs _ _ _ _ _
          rw [hWX]; exact row6 _ _ _ _ _ _ _ _
        have HX : Hid (W4.heap.size ≤ WC.heap.size) := BLWC.out.size
        rw [← hWX]
        have BLX : Hid (Below W4.heap.size W4 WX) := BLWC.out.trans (hbx.mono BLWC.out.size)
        have CIX := Lib.hid (CIWC.out.below hbx)
        have CWX := Lib.hid (CWWC.out.below hbx)
        refine hK.out _ _ (BK4.out.below BLX.out).row (fun hHeld2 => ?_)
        clear hK hHeld hbx hWX
        have hHeld := hHeld2
        clear hHeld2
        obtain ⟨⟨y0, y1, y2, y3, y4, y5⟩, t0, t1, t2, t3, t4, t5⟩ := row6_cells RX.out
        refine take_call (i := 7) rfl (by kernel_rfl) (fun K2 hK => ?_)
        go_simp
        obtain ⟨WZ, hWZ⟩ : ∃ WZ, WZ = ((((((WX.setCell ⟨WC.heap.size, 0, none⟩ (.int .i64 za)).setCell ⟨WC.heap.size, 1, none⟩ (.int .i64 zb)).setCell ⟨WC.heap.size, 2, none⟩ (.int .i64 zc)).setCell ⟨WC.heap.size, 3, none⟩ (.int .i64 zd)).setCell ⟨WC.heap.size, 4, none⟩ (.int .i64 ze)).setCell ⟨WC.heap.size, 5, none⟩ (.int .i64 0)) := ⟨_, rfl⟩
        rw [← hWZ]
        have hLZ : Below W4.heap.size W4 WZ := by rw [hWZ]; exact (((((BLX.out.setCell (p := ⟨WC.heap.size, 0, none⟩) HX.out _).setCell (p := ⟨WC.heap.size, 1, none⟩) HX.out _).setCell (p := ⟨WC.heap.size, 2, none⟩) HX.out _).setCell (p := ⟨WC.heap.size, 3, none⟩) HX.out _).setCell (p := ⟨WC.heap.size, 4, none⟩) HX.out _).setCell (p := ⟨WC.heap.size, 5, none⟩) HX.out _
        have BKZ : Hid (BkS w W1.heap.size ca cn ck ra rn rk v c r (.slice ia m ik) m f (.slice wa m wk) m g WZ) := BK4.out.below hLZ
        have RZ : Hid (WZ.rowIs (WC.heap.size) 61 6 (r6 (.int .i64 za) (.int .i64 zb) (.int .i64 zc) (.int .i64 zd) (.int .i64 ze) (.int .i64 0))) := by
          show World.rowIs _ _ _ _ _
          rw [hWZ]; exact row6_put RX.out _ _ _ _ _ _
        refine hK.out _ _ BKZ.out.row (fun hHeld2 => ?_)
        clear hK hHeld hHeld2 y0 y1 y2 y3 y4 y5 t0 t1 t2 t3 t4 t5 hWZ hLZ BLX RX
        refine wpAnyH_done (by kernel_rfl) ?_ _
        obtain ⟨⟨y0, y1, y2, y3, y4, y5⟩, _⟩ := row6_cells RZ.out
        obtain ⟨⟨_, _, x2⟩, _⟩ := d3_cells BKZ.out.row
        obtain ⟨ib, jk, e1, hI⟩ := BKZ.out.fi.ints
        obtain ⟨wb, kk, e2, hQ⟩ := BKZ.out.fw.ints
        simp only [Value.slice.injEq] at e1 e2
        obtain ⟨rfl, _, rfl⟩ := e1
        obtain ⟨rfl, _, rfl⟩ := e2
        have SI : Hid (∀ k, Calls Tryd.prog 37 #[.slice ia m ik] (WZ.drewN k) fun e w' => e = .returned (.int .i64 (St.sumTo f m)) ∧ w' = WZ.drewN k) := fun k => lwSumS_any ia m ik f _ hI HZ.out.n4 HZ.out.fo
        have SQ : Hid (∀ k, Calls Tryd.prog 37 #[.slice wa m wk] (WZ.drewN k) fun e w' => e = .returned (.int .i64 (St.sumTo g m)) ∧ w' = WZ.drewN k) := fun k => lwSumS_any wa m wk g _ hQ HZ.out.n4 HZ.out.go
        obtain ⟨_, _, _, _, v0, s0, s1, a0, b0, c0, d0, e0, q1, q2⟩ := HZ.out
        simp only at a0 b0 c0 d0 e0 q1 q2
        obtain ⟨v0, v1⟩ := v0
        obtain ⟨s00, s01⟩ := s0
        obtain ⟨s10, s11⟩ := s1
        obtain ⟨e0, e1⟩ := e0
        generalize St.sumTo f m = X1 at *
        generalize St.sumTo g m = X2 at *
        have a1 : za ≤ 2000000000000 := by omega
        have b1 : zb ≤ 2000000000000 := by omega
        have c1 : zc ≤ 2000000000000 := by omega
        have d1 : zd ≤ 2000000000000 := by omega
        have n1 : (v + X1 != za + zb + zc) = false := by simp; omega
        have n2 : (X2 != zb + zd) = false := by simp; omega
        clear hI hQ q1 q2 RZ HR HZ
        go_wp2_with fail
        refine wp_region_quiet_lit (by kernel_rfl) (by kernel_rfl) ?_
        iterate 20 go_big_quiet_step ((go_at_call 37; exact Calls.quiet_of_same (SI.out _)))
        iterate 9 go_big_quiet_step ((go_at_call 37; exact Calls.quiet_of_same (SQ.out _)))
        refine wpQuiet_nil ?_
        intro _ hw'
        obtain ⟨nq, hw''⟩ := hw'
        subst hw''
        go_wp2_with fail
        go_ret
        exact ⟨rfl, ⟨BKZ.out.bel.os, BKZ.out.bel.tape, BKZ.out.bel.output, BKZ.out.bel.size, BKZ.out.bel.block⟩⟩
      · go_simp
        obtain ⟨WX, hWX⟩ : ∃ WX, WX = WB.alloc (.cells #[.int .i64 0, .int .i64 0, .int .i64 0, .int .i64 0, .int .i64 0, .int .i64 0] 61) := ⟨_, rfl⟩
        have hbx : Below WB.heap.size WB WX := by rw [hWX]; exact (Below.refl _ _).alloc (Nat.le_refl _) _
        have RX : Hid (WX.rowIs WB.heap.size 61 6 (r6 (.int .i64 0) (.int .i64 0) (.int .i64 0) (.int .i64 0) (.int .i64 0) (.int .i64 0))) := by
          show World.rowIs _ _ _ _ _
          rw [hWX]; exact row6 _ _ _ _ _ _ _ _
        have HX : Hid (W4.heap.size ≤ WB.heap.size) := BLWB.out.size
        rw [← hWX]
        have BLX : Hid (Below W4.heap.size W4 WX) := BLWB.out.trans (hbx.mono BLWB.out.size)
        have CIX := Lib.hid (CIWB.out.below hbx)
        have CWX := Lib.hid (CWWB.out.below hbx)
        refine hK.out _ _ (BK4.out.below BLX.out).row (fun hHeld2 => ?_)
        clear hK hHeld hbx hWX
        have hHeld := hHeld2
        clear hHeld2
        refine take_call (i := 5) rfl (by kernel_rfl) (fun K2 hK => ?_)
        go_simp
        refine (implRun_any ca cn ck c ra rn rk r v a2 m c2 f a4 m c4 g _ (BK4.out.below BLX.out).st CIX.out CWX.out (by have := HN.out; omega) (by have := HN.out; omega) (BK4.out.below BLX.out).et.1 (BK4.out.below BLX.out).et.2).mono ?_
        rintro e WC ⟨⟨z2, rfl, hz2⟩, hb⟩
        obtain rfl := RunIs.one hz2.out HR.out
        clear hz2
        have BLWC : Hid (Below W4.heap.size W4 WC) := BLX.out.trans (hb.mono BLX.out.size)
        have CIWC := Lib.hid (CIX.out.below hb)
        have CWWC := Lib.hid (CWX.out.below hb)
        have RXWC := Lib.hid (RX.out.of_block (hb.block _ RX.out.lt))
        clear hb
        go_wp2_with fail
        refine hK.out _ _ (BK4.out.below BLWC.out).row (fun hHeld2 => ?_)
        clear hK hHeld
        have hHeld := hHeld2
        clear hHeld2
        obtain ⟨⟨y0, y1, y2, y3, y4, y5⟩, t0, t1, t2, t3, t4, t5⟩ := row6_cells RXWC.out
        refine take_call (i := 7) rfl (by kernel_rfl) (fun K2 hK => ?_)
        go_simp
        obtain ⟨WZ, hWZ⟩ : ∃ WZ, WZ = ((((((WC.setCell ⟨WB.heap.size, 0, none⟩ (.int .i64 za)).setCell ⟨WB.heap.size, 1, none⟩ (.int .i64 zb)).setCell ⟨WB.heap.size, 2, none⟩ (.int .i64 zc)).setCell ⟨WB.heap.size, 3, none⟩ (.int .i64 zd)).setCell ⟨WB.heap.size, 4, none⟩ (.int .i64 ze)).setCell ⟨WB.heap.size, 5, none⟩ (.int .i64 0)) := ⟨_, rfl⟩
        rw [← hWZ]
        have hLZ : Below W4.heap.size W4 WZ := by rw [hWZ]; exact (((((BLWC.out.setCell (p := ⟨WB.heap.size, 0, none⟩) HX.out _).setCell (p := ⟨WB.heap.size, 1, none⟩) HX.out _).setCell (p := ⟨WB.heap.size, 2, none⟩) HX.out _).setCell (p := ⟨WB.heap.size, 3, none⟩) HX.out _).setCell (p := ⟨WB.heap.size, 4, none⟩) HX.out _).setCell (p := ⟨WB.heap.size, 5, none⟩) HX.out _
        have BKZ : Hid (BkS w W1.heap.size ca cn ck ra rn rk v c r (.slice ia m ik) m f (.slice wa m wk) m g WZ) := BK4.out.below hLZ
        have RZ : Hid (WZ.rowIs (WB.heap.size) 61 6 (r6 (.int .i64 za) (.int .i64 zb) (.int .i64 zc) (.int .i64 zd) (.int .i64 ze) (.int .i64 0))) := by
          show World.rowIs _ _ _ _ _
          rw [hWZ]; exact row6_put RXWC.out _ _ _ _ _ _
        refine hK.out _ _ BKZ.out.row (fun hHeld2 => ?_)
        clear hK hHeld hHeld2 y0 y1 y2 y3 y4 y5 t0 t1 t2 t3 t4 t5 hWZ hLZ BLWC RXWC
        refine wpAnyH_done (by kernel_rfl) ?_ _
        obtain ⟨⟨y0, y1, y2, y3, y4, y5⟩, _⟩ := row6_cells RZ.out
        obtain ⟨⟨_, _, x2⟩, _⟩ := d3_cells BKZ.out.row
        obtain ⟨ib, jk, e1, hI⟩ := BKZ.out.fi.ints
        obtain ⟨wb, kk, e2, hQ⟩ := BKZ.out.fw.ints
        simp only [Value.slice.injEq] at e1 e2
        obtain ⟨rfl, _, rfl⟩ := e1
        obtain ⟨rfl, _, rfl⟩ := e2
        have SI : Hid (∀ k, Calls Tryd.prog 37 #[.slice ia m ik] (WZ.drewN k) fun e w' => e = .returned (.int .i64 (St.sumTo f m)) ∧ w' = WZ.drewN k) := fun k => lwSumS_any ia m ik f _ hI HZ.out.n4 HZ.out.fo
        have SQ : Hid (∀ k, Calls Tryd.prog 37 #[.slice wa m wk] (WZ.drewN k) fun e w' => e = .returned (.int .i64 (St.sumTo g m)) ∧ w' = WZ.drewN k) := fun k => lwSumS_any wa m wk g _ hQ HZ.out.n4 HZ.out.go
        obtain ⟨_, _, _, _, v0, s0, s1, a0, b0, c0, d0, e0, q1, q2⟩ := HZ.out
        simp only at a0 b0 c0 d0 e0 q1 q2
        obtain ⟨v0, v1⟩ := v0
        obtain ⟨s00, s01⟩ := s0
        obtain ⟨s10, s11⟩ := s1
        obtain ⟨e0, e1⟩ := e0
        generalize St.sumTo f m = X1 at *
        generalize St.sumTo g m = X2 at *
        have a1 : za ≤ 2000000000000 := by omega
        have b1 : zb ≤ 2000000000000 := by omega
        have c1 : zc ≤ 2000000000000 := by omega
        have d1 : zd ≤ 2000000000000 := by omega
        have n1 : (v + X1 != za + zb + zc) = false := by simp; omega
        have n2 : (X2 != zb + zd) = false := by simp; omega
        clear hI hQ q1 q2 RZ HR HZ
        go_wp2_with fail
        refine wp_region_quiet_lit (by kernel_rfl) (by kernel_rfl) ?_
        iterate 20 go_big_quiet_step ((go_at_call 37; exact Calls.quiet_of_same (SI.out _)))
        iterate 9 go_big_quiet_step ((go_at_call 37; exact Calls.quiet_of_same (SQ.out _)))
        refine wpQuiet_nil ?_
        intro _ hw'
        obtain ⟨nq, hw''⟩ := hw'
        subst hw''
        go_wp2_with fail
        go_ret
        exact ⟨rfl, ⟨BKZ.out.bel.os, BKZ.out.bel.tape, BKZ.out.bel.output, BKZ.out.bel.size, BKZ.out.bel.block⟩⟩
    · go_simp
      obtain ⟨WX, hWX⟩ : ∃ WX, WX = WA.alloc (.cells #[.int .i64 0, .int .i64 0, .int .i64 0, .int .i64 0, .int .i64 0, .int .i64 0] 61) := ⟨_, rfl⟩
      have hbx : Below WA.heap.size WA WX := by rw [hWX]; exact (Below.refl _ _).alloc (Nat.le_refl _) _
      have RX : Hid (WX.rowIs WA.heap.size 61 6 (r6 (.int .i64 0) (.int .i64 0) (.int .i64 0) (.int .i64 0) (.int .i64 0) (.int .i64 0))) := by
        show World.rowIs _ _ _ _ _
        rw [hWX]; exact row6 _ _ _ _ _ _ _ _
      have HX : Hid (W4.heap.size ≤ WA.heap.size) := BLWA.out.size
      rw [← hWX]
      have BLX : Hid (Below W4.heap.size W4 WX) := BLWA.out.trans (hbx.mono BLWA.out.size)
      have CIX := Lib.hid (CIWA.out.below hbx)
      refine hK.out _ _ (BK4.out.below BLX.out).row (fun hHeld2 => ?_)
      clear hK hHeld hbx hWX
      have hHeld := hHeld2
      clear hHeld2
      refine take_call (i := 4) rfl (by kernel_rfl) (fun K2 hK => ?_)
      go_simp
      refine (lwCopyF_any (BK4.out.below BLX.out).fw HN.out).mono ?_
      rintro e WB ⟨⟨a4, c4, rfl, hi4⟩, hb⟩
      have BLWB : Hid (Below W4.heap.size W4 WB) := BLX.out.trans (hb.mono BLX.out.size)
      have CIWB := Lib.hid (CIX.out.below hb)
      have CWWB := Lib.hid hi4
      clear hi4
      have RXWB := Lib.hid (RX.out.of_block (hb.block _ RX.out.lt))
      clear hb
      go_wp2_with fail
      refine hK.out _ _ (BK4.out.below BLWB.out).row (fun hHeld2 => ?_)
      clear hK hHeld
      have hHeld := hHeld2
      clear hHeld2
      refine take_call (i := 5) rfl (by kernel_rfl) (fun K2 hK => ?_)
      go_simp
      refine (implRun_any ca cn ck c ra rn rk r v a2 m c2 f a4 m c4 g _ (BK4.out.below BLWB.out).st CIWB.out CWWB.out (by have := HN.out; omega) (by have := HN.out; omega) (BK4.out.below BLWB.out).et.1 (BK4.out.below BLWB.out).et.2).mono ?_
      rintro e WC ⟨⟨z2, rfl, hz2⟩, hb⟩
      obtain rfl := RunIs.one hz2.out HR.out
      clear hz2
      have BLWC : Hid (Below W4.heap.size W4 WC) := BLWB.out.trans (hb.mono BLWB.out.size)
      have CIWC := Lib.hid (CIWB.out.below hb)
      have CWWC := Lib.hid (CWWB.out.below hb)
      have RXWC := Lib.hid (RXWB.out.of_block (hb.block _ RXWB.out.lt))
      clear hb
      go_wp2_with fail
      refine hK.out _ _ (BK4.out.below BLWC.out).row (fun hHeld2 => ?_)
      clear hK hHeld
      have hHeld := hHeld2
      clear hHeld2
      obtain ⟨⟨y0, y1, y2, y3, y4, y5⟩, t0, t1, t2, t3, t4, t5⟩ := row6_cells RXWC.out
      refine take_call (i := 7) rfl (by kernel_rfl) (fun K2 hK => ?_)
      go_simp
      obtain ⟨WZ, hWZ⟩ : ∃ WZ, WZ = ((((((WC.setCell ⟨WA.heap.size, 0, none⟩ (.int .i64 za)).setCell ⟨WA.heap.size, 1, none⟩ (.int .i64 zb)).setCell ⟨WA.heap.size, 2, none⟩ (.int .i64 zc)).setCell ⟨WA.heap.size, 3, none⟩ (.int .i64 zd)).setCell ⟨WA.heap.size, 4, none⟩ (.int .i64 ze)).setCell ⟨WA.heap.size, 5, none⟩ (.int .i64 0)) := ⟨_, rfl⟩
      rw [← hWZ]
      have hLZ : Below W4.heap.size W4 WZ := by rw [hWZ]; exact (((((BLWC.out.setCell (p := ⟨WA.heap.size, 0, none⟩) HX.out _).setCell (p := ⟨WA.heap.size, 1, none⟩) HX.out _).setCell (p := ⟨WA.heap.size, 2, none⟩) HX.out _).setCell (p := ⟨WA.heap.size, 3, none⟩) HX.out _).setCell (p := ⟨WA.heap.size, 4, none⟩) HX.out _).setCell (p := ⟨WA.heap.size, 5, none⟩) HX.out _
      have BKZ : Hid (BkS w W1.heap.size ca cn ck ra rn rk v c r (.slice ia m ik) m f (.slice wa m wk) m g WZ) := BK4.out.below hLZ
      have RZ : Hid (WZ.rowIs (WA.heap.size) 61 6 (r6 (.int .i64 za) (.int .i64 zb) (.int .i64 zc) (.int .i64 zd) (.int .i64 ze) (.int .i64 0))) := by
        show World.rowIs _ _ _ _ _
        rw [hWZ]; exact row6_put RXWC.out _ _ _ _ _ _
      refine hK.out _ _ BKZ.out.row (fun hHeld2 => ?_)
      clear hK hHeld hHeld2 y0 y1 y2 y3 y4 y5 t0 t1 t2 t3 t4 t5 hWZ hLZ BLWC RXWC
      refine wpAnyH_done (by kernel_rfl) ?_ _
      obtain ⟨⟨y0, y1, y2, y3, y4, y5⟩, _⟩ := row6_cells RZ.out
      obtain ⟨⟨_, _, x2⟩, _⟩ := d3_cells BKZ.out.row
      obtain ⟨ib, jk, e1, hI⟩ := BKZ.out.fi.ints
      obtain ⟨wb, kk, e2, hQ⟩ := BKZ.out.fw.ints
      simp only [Value.slice.injEq] at e1 e2
      obtain ⟨rfl, _, rfl⟩ := e1
      obtain ⟨rfl, _, rfl⟩ := e2
      have SI : Hid (∀ k, Calls Tryd.prog 37 #[.slice ia m ik] (WZ.drewN k) fun e w' => e = .returned (.int .i64 (St.sumTo f m)) ∧ w' = WZ.drewN k) := fun k => lwSumS_any ia m ik f _ hI HZ.out.n4 HZ.out.fo
      have SQ : Hid (∀ k, Calls Tryd.prog 37 #[.slice wa m wk] (WZ.drewN k) fun e w' => e = .returned (.int .i64 (St.sumTo g m)) ∧ w' = WZ.drewN k) := fun k => lwSumS_any wa m wk g _ hQ HZ.out.n4 HZ.out.go
      obtain ⟨_, _, _, _, v0, s0, s1, a0, b0, c0, d0, e0, q1, q2⟩ := HZ.out
      simp only at a0 b0 c0 d0 e0 q1 q2
      obtain ⟨v0, v1⟩ := v0
      obtain ⟨s00, s01⟩ := s0
      obtain ⟨s10, s11⟩ := s1
      obtain ⟨e0, e1⟩ := e0
      generalize St.sumTo f m = X1 at *
      generalize St.sumTo g m = X2 at *
      have a1 : za ≤ 2000000000000 := by omega
      have b1 : zb ≤ 2000000000000 := by omega
      have c1 : zc ≤ 2000000000000 := by omega
      have d1 : zd ≤ 2000000000000 := by omega
      have n1 : (v + X1 != za + zb + zc) = false := by simp; omega
      have n2 : (X2 != zb + zd) = false := by simp; omega
      clear hI hQ q1 q2 RZ HR HZ
      go_wp2_with fail
      refine wp_region_quiet_lit (by kernel_rfl) (by kernel_rfl) ?_
      iterate 20 go_big_quiet_step ((go_at_call 37; exact Calls.quiet_of_same (SI.out _)))
      iterate 9 go_big_quiet_step ((go_at_call 37; exact Calls.quiet_of_same (SQ.out _)))
      refine wpQuiet_nil ?_
      intro _ hw'
      obtain ⟨nq, hw''⟩ := hw'
      subst hw''
      go_wp2_with fail
      go_ret
      exact ⟨rfl, ⟨BKZ.out.bel.os, BKZ.out.bel.tape, BKZ.out.bel.output, BKZ.out.bel.size, BKZ.out.bel.block⟩⟩
  · go_simp
    obtain ⟨WX, hWX⟩ : ∃ WX, WX = W4.alloc (.cells #[.int .i64 0, .int .i64 0, .int .i64 0, .int .i64 0, .int .i64 0, .int .i64 0] 61) := ⟨_, rfl⟩
    have hbx : Below W4.heap.size W4 WX := by rw [hWX]; exact (Below.refl _ _).alloc (Nat.le_refl _) _
    have RX : Hid (WX.rowIs W4.heap.size 61 6 (r6 (.int .i64 0) (.int .i64 0) (.int .i64 0) (.int .i64 0) (.int .i64 0) (.int .i64 0))) := by
      show World.rowIs _ _ _ _ _
      rw [hWX]; exact row6 _ _ _ _ _ _ _ _
    have HX : Hid (W4.heap.size ≤ W4.heap.size) := BL0.out.size
    rw [← hWX]
    have BLX : Hid (Below W4.heap.size W4 WX) := BL0.out.trans (hbx.mono BL0.out.size)
    refine hK.out _ _ (BK4.out.below BLX.out).row (fun hHeld2 => ?_)
    clear hK hHeld hbx hWX
    have hHeld := hHeld2
    clear hHeld2
    refine take_call (i := 2) rfl (by kernel_rfl) (fun K2 hK => ?_)
    go_simp
    refine (lwCopyF_any (BK4.out.below BLX.out).fi HN.out).mono ?_
    rintro e WA ⟨⟨a2, c2, rfl, hi2⟩, hb⟩
    have BLWA : Hid (Below W4.heap.size W4 WA) := BLX.out.trans (hb.mono BLX.out.size)
    have CIWA := Lib.hid hi2
    clear hi2
    have RXWA := Lib.hid (RX.out.of_block (hb.block _ RX.out.lt))
    clear hb
    go_wp2_with fail
    refine hK.out _ _ (BK4.out.below BLWA.out).row (fun hHeld2 => ?_)
    clear hK hHeld
    have hHeld := hHeld2
    clear hHeld2
    refine take_call (i := 4) rfl (by kernel_rfl) (fun K2 hK => ?_)
    go_simp
    refine (lwCopyF_any (BK4.out.below BLWA.out).fw HN.out).mono ?_
    rintro e WB ⟨⟨a4, c4, rfl, hi4⟩, hb⟩
    have BLWB : Hid (Below W4.heap.size W4 WB) := BLWA.out.trans (hb.mono BLWA.out.size)
    have CIWB := Lib.hid (CIWA.out.below hb)
    have CWWB := Lib.hid hi4
    clear hi4
    have RXWB := Lib.hid (RXWA.out.of_block (hb.block _ RXWA.out.lt))
    clear hb
    go_wp2_with fail
    refine hK.out _ _ (BK4.out.below BLWB.out).row (fun hHeld2 => ?_)
    clear hK hHeld
    have hHeld := hHeld2
    clear hHeld2
    refine take_call (i := 5) rfl (by kernel_rfl) (fun K2 hK => ?_)
    go_simp
    refine (implRun_any ca cn ck c ra rn rk r v a2 m c2 f a4 m c4 g _ (BK4.out.below BLWB.out).st CIWB.out CWWB.out (by have := HN.out; omega) (by have := HN.out; omega) (BK4.out.below BLWB.out).et.1 (BK4.out.below BLWB.out).et.2).mono ?_
    rintro e WC ⟨⟨z2, rfl, hz2⟩, hb⟩
    obtain rfl := RunIs.one hz2.out HR.out
    clear hz2
    have BLWC : Hid (Below W4.heap.size W4 WC) := BLWB.out.trans (hb.mono BLWB.out.size)
    have CIWC := Lib.hid (CIWB.out.below hb)
    have CWWC := Lib.hid (CWWB.out.below hb)
    have RXWC := Lib.hid (RXWB.out.of_block (hb.block _ RXWB.out.lt))
    clear hb
    go_wp2_with fail
    refine hK.out _ _ (BK4.out.below BLWC.out).row (fun hHeld2 => ?_)
    clear hK hHeld
    have hHeld := hHeld2
    clear hHeld2
    obtain ⟨⟨y0, y1, y2, y3, y4, y5⟩, t0, t1, t2, t3, t4, t5⟩ := row6_cells RXWC.out
    refine take_call (i := 7) rfl (by kernel_rfl) (fun K2 hK => ?_)
    go_simp
    obtain ⟨WZ, hWZ⟩ : ∃ WZ, WZ = ((((((WC.setCell ⟨W4.heap.size, 0, none⟩ (.int .i64 za)).setCell ⟨W4.heap.size, 1, none⟩ (.int .i64 zb)).setCell ⟨W4.heap.size, 2, none⟩ (.int .i64 zc)).setCell ⟨W4.heap.size, 3, none⟩ (.int .i64 zd)).setCell ⟨W4.heap.size, 4, none⟩ (.int .i64 ze)).setCell ⟨W4.heap.size, 5, none⟩ (.int .i64 0)) := ⟨_, rfl⟩
    rw [← hWZ]
    have hLZ : Below W4.heap.size W4 WZ := by rw [hWZ]; exact (((((BLWC.out.setCell (p := ⟨W4.heap.size, 0, none⟩) HX.out _).setCell (p := ⟨W4.heap.size, 1, none⟩) HX.out _).setCell (p := ⟨W4.heap.size, 2, none⟩) HX.out _).setCell (p := ⟨W4.heap.size, 3, none⟩) HX.out _).setCell (p := ⟨W4.heap.size, 4, none⟩) HX.out _).setCell (p := ⟨W4.heap.size, 5, none⟩) HX.out _
    have BKZ : Hid (BkS w W1.heap.size ca cn ck ra rn rk v c r (.slice ia m ik) m f (.slice wa m wk) m g WZ) := BK4.out.below hLZ
    have RZ : Hid (WZ.rowIs (W4.heap.size) 61 6 (r6 (.int .i64 za) (.int .i64 zb) (.int .i64 zc) (.int .i64 zd) (.int .i64 ze) (.int .i64 0))) := by
      show World.rowIs _ _ _ _ _
      rw [hWZ]; exact row6_put RXWC.out _ _ _ _ _ _
    refine hK.out _ _ BKZ.out.row (fun hHeld2 => ?_)
    clear hK hHeld hHeld2 y0 y1 y2 y3 y4 y5 t0 t1 t2 t3 t4 t5 hWZ hLZ BLWC RXWC
    refine wpAnyH_done (by kernel_rfl) ?_ _
    obtain ⟨⟨y0, y1, y2, y3, y4, y5⟩, _⟩ := row6_cells RZ.out
    obtain ⟨⟨_, _, x2⟩, _⟩ := d3_cells BKZ.out.row
    obtain ⟨ib, jk, e1, hI⟩ := BKZ.out.fi.ints
    obtain ⟨wb, kk, e2, hQ⟩ := BKZ.out.fw.ints
    simp only [Value.slice.injEq] at e1 e2
    obtain ⟨rfl, _, rfl⟩ := e1
    obtain ⟨rfl, _, rfl⟩ := e2
    have SI : Hid (∀ k, Calls Tryd.prog 37 #[.slice ia m ik] (WZ.drewN k) fun e w' => e = .returned (.int .i64 (St.sumTo f m)) ∧ w' = WZ.drewN k) := fun k => lwSumS_any ia m ik f _ hI HZ.out.n4 HZ.out.fo
    have SQ : Hid (∀ k, Calls Tryd.prog 37 #[.slice wa m wk] (WZ.drewN k) fun e w' => e = .returned (.int .i64 (St.sumTo g m)) ∧ w' = WZ.drewN k) := fun k => lwSumS_any wa m wk g _ hQ HZ.out.n4 HZ.out.go
    obtain ⟨_, _, _, _, v0, s0, s1, a0, b0, c0, d0, e0, q1, q2⟩ := HZ.out
    simp only at a0 b0 c0 d0 e0 q1 q2
    obtain ⟨v0, v1⟩ := v0
    obtain ⟨s00, s01⟩ := s0
    obtain ⟨s10, s11⟩ := s1
    obtain ⟨e0, e1⟩ := e0
    generalize St.sumTo f m = X1 at *
    generalize St.sumTo g m = X2 at *
    have a1 : za ≤ 2000000000000 := by omega
    have b1 : zb ≤ 2000000000000 := by omega
    have c1 : zc ≤ 2000000000000 := by omega
    have d1 : zd ≤ 2000000000000 := by omega
    have n1 : (v + X1 != za + zb + zc) = false := by simp; omega
    have n2 : (X2 != zb + zd) = false := by simp; omega
    clear hI hQ q1 q2 RZ HR HZ
    go_wp2_with fail
    refine wp_region_quiet_lit (by kernel_rfl) (by kernel_rfl) ?_
    iterate 20 go_big_quiet_step ((go_at_call 37; exact Calls.quiet_of_same (SI.out _)))
    iterate 9 go_big_quiet_step ((go_at_call 37; exact Calls.quiet_of_same (SQ.out _)))
    refine wpQuiet_nil ?_
    intro _ hw'
    obtain ⟨nq, hw''⟩ := hw'
    subst hw''
    go_wp2_with fail
    go_ret
    exact ⟨rfl, ⟨BKZ.out.bel.os, BKZ.out.bel.tape, BKZ.out.bel.output, BKZ.out.bel.size, BKZ.out.bel.block⟩⟩
theorem book_all (w : World) (a : Option Addr) (len cap : Nat) (h : Bytes a len w) (_hm : len ≤ 9223372036854775807) (hg : Et w ∧ TabOk w) :
    Calls Tryd.prog 9 #[.slice a len cap] w fun e w' => e = .returned (.bool true) ∧ Below w.heap.size w w' := by
  by_cases hl : len ≤ 1048576
  · exact book_law a len cap w h hl hg
  · have hz : (1048576 : Int) < (len : Int) := by omega
    go_enter Tryd.func9, Tryd.ntmps9
    go_wp2_with fail
    go_ret
    exact ⟨rfl, Below.refl _ _⟩
end Go.Proofs.YtdpghhmcibiplaaDoor
