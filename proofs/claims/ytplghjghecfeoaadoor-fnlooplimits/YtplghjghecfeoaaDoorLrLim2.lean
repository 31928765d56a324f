/-
  The law FnLoopLimits.
-/
import Derived.Test.YtplghjghecfeoaaDoorLrLim
namespace Go.Proofs.YtplghjghecfeoaaDoor
open Go.RowKit Go.Deep

attribute [local go_sem] lrun_store_float lrun_store_complex
set_option maxRecDepth 100000 in
set_option maxHeartbeats 16000000 in
theorem limits_law (w : World) (a : Option Addr) (len cap : Nat) (h : Bytes a len w) (_u1 : len ≤ 9223372036854775807) (a2 : Option Addr) (len2 cap2 : Nat) (h2 : Bytes a2 len2 w) (_u2 : len2 ≤ 9223372036854775807) (hg : Et w ∧ TabOk w) :
    Calls Tryd.prog 3 #[.slice a len cap, .slice a2 len2 cap2] w fun e w' => e = .returned (.bool true) ∧ Below w.heap.size w w' := by
  clear _u1 _u2
  by_cases hb1 : 1048576 < len
  · have hz : (1048576 : Int) < (len : Int) := by omega
    clear h h2
    go_enter Tryd.func3, Tryd.ntmps3
    go_wp2_with fail
    go_ret
    exact ⟨rfl, Below.refl _ _⟩
  have hz : ¬ (1048576 : Int) < (len : Int) := by omega
  by_cases hb2 : 1048576 < len2
  · have hz2' : (1048576 : Int) < (len2 : Int) := by omega
    clear h h2
    go_enter Tryd.func3, Tryd.ntmps3
    go_wp2_with fail
    go_ret
    exact ⟨rfl, Below.refl _ _⟩
  have hz2' : ¬ (1048576 : Int) < (len2 : Int) := by omega
  have HBY := Lib.hid h
  have HBY2 := Lib.hid h2
  have HLN : Hid (len ≤ 4194304) := by show _ ≤ _; omega
  have HLN2 : Hid (len2 ≤ 4194304) := by show _ ≤ _; omega
  have HG := Lib.hid hg
  obtain ⟨i0, hi, hz0, hz1, hz2⟩ := info_parts info_float
  clear h h2 hb1 hb2 hg
  go_enter Tryd.func3, Tryd.ntmps3
  go_wp2_with fail
  refine (drawLr_any a len cap _ HBY.out HLN.out).mono ?_
  rintro e w1 ⟨⟨l, start, g, n, kk, f, rfl, ⟨hn4, hnk⟩, hcw⟩, hb⟩
  have HN4 := Lib.hid hn4
  have HNK := Lib.hid hnk
  have HC1 := Lib.hid hcw
  obtain ⟨W1, hW1⟩ : ∃ W1, W1 = w1.alloc (.cells #[.float .f64 l.up, .float .f64 l.sum, .float .f64 l.gain, .float .f64 l.lag, .float .f64 l.low, .float .f64 l.high] 25) := ⟨_, rfl⟩
  have hb' : Below w1.heap.size w1 W1 := by rw [hW1]; exact bel_alloc _ _
  obtain ⟨g5, hg5⟩ : ∃ g5, g5 = w1.heap.size := ⟨_, rfl⟩
  have HR5 : Hid (W1.rowIs g5 25 6 (rowL (loL l))) := by show World.rowIs _ _ _ _ _; rw [hW1]; exact rowL_alloc' hg5.symm (loL l) _
  have HB : Hid (Below w.heap.size w W1) := hb.trans (hb'.mono hb.size)
  have HCW : Hid (∀ i, i < n → W1.cell? ⟨g, i, none⟩ = some (.float .f64 (f i))) := fun i hi => (hb'.cell (p := ⟨g, i, none⟩) (World.block_lt_of_cell? _ _ (HC1.out i hi))).trans (HC1.out i hi)
  have HW1 := Lib.hid hW1
  have HGG := Lib.hid hg5
  clear hb hb' hW1 hg5 hcw hn4 hnk HC1
  go_wp2_with fail
  rw [← HW1.out]
  try rw [← HGG.out]
  clear HW1 HGG
  refine (specLoop_any l start g n kk f _ HCW.out).mono ?_
  rintro e w2 ⟨⟨v1, v2, rfl, hT⟩, hb⟩
  obtain ⟨pa, pk, e1, _⟩ := hT.one.sl
  obtain ⟨pb, pl, e2, _⟩ := hT.two.sl
  subst e1 e2
  clear hT
  replace HR5 := Lib.hid (wrow_below HR5.out hb)
  replace HCW : Hid (∀ i, i < n → w2.cell? ⟨g, i, none⟩ = some (.float .f64 (f i))) := fun i hi => (hb.cell (p := ⟨g, i, none⟩) (World.block_lt_of_cell? _ _ (HCW.out i hi))).trans (HCW.out i hi)
  replace HB : Hid (Below w.heap.size w w2) := HB.out.trans (hb.mono HB.out.size)
  clear hb
  have hfc := lo_code pa (Fl.loopLen l start n f) pk pb (Fl.loopLen l start n f) pl (Fl.loopCode l start n f)
  by_cases hcode : Fl.loopCode l start n f = 0
  rotate_left
  · have hcz : (Fl.loopCode l start n f != 0) = true := by simpa using hcode
    go_wp2_with fail
    go_ret
    exact ⟨rfl, HB.out⟩
  have HCO := Lib.hid hcode
  rw [hcode] at hfc ⊢
  clear hcode
  have HFX := Lib.hid (Fl.code_facts HCO.out)
  have HIM : Hid (∀ K, K ≤ n → ∀ a' k' wx, FlAt a' K f wx → TabOk wx → Et wx → Calls Tryd.prog 7 #[loV l, .float .f64 start, .slice a' K k'] wx fun e w' => (∃ v1 v2, e = .returned (loOutV v1 v2 0) ∧ Two wx.heap.size v1 K (Fl.vals l start f) v2 K (Fl.drvs l start f) w') ∧ Below wx.heap.size wx w') := fun K hK a' k' wx hx ht he => by
    have hp := Fl.code_prefix HCO.out hK
    refine (implLoop_any l start a' K k' f wx hx ht he).mono ?_
    rintro e w' ⟨⟨v1, v2, h1, h2⟩, h3⟩
    rw [hp.1] at h1
    rw [hp.2] at h2
    exact ⟨⟨v1, v2, h1, h2⟩, h3⟩
  have HLIM : Hid (∀ i, FloatKind.f64.format.order (Fl.drvs l start f i) l.low ≠ some .lt ∧ FloatKind.f64.format.order (Fl.drvs l start f i) l.high ≠ some .gt) := fun i => Fl.code_lim HCO.out i
  generalize Fl.vals l start f = F1 at HIM
  generalize Fl.drvs l start f = F2 at HIM HLIM
  have HIN : Hid (∀ a' k' wx, FlAt a' n f wx → TabOk wx → Et wx → Calls Tryd.prog 7 #[loV l, .float .f64 start, .slice a' n k'] wx fun e w' => (∃ v1 v2, e = .returned (loOutV v1 v2 0) ∧ Two wx.heap.size v1 n F1 v2 n F2 w') ∧ Below wx.heap.size wx w') := HIM.out n (Nat.le_refl _)
  have HKN : Hid (n ≤ n) := Nat.le_refl n
  go_wp2_with fail
  clear hfc
  go_cut [8] (fun p V => ∃ a1 k1 a2 k2 gb, p = .pointer (some ⟨gb, 0, none⟩) ∧ Hid (V.rowIs gb 30 3 (rowL (outL (.slice a1 n k1) (.slice a2 n k2) 0)) ∧ Two w2.heap.size (.slice a1 n k1) n F1 (.slice a2 n k2) n F2 V ∧ Below w2.heap.size w2 V))
  case first =>
    refine wp_region_held_drew (S := fun V => Below w2.heap.size w2 V) (by kernel_rfl) (Below.refl _ _).drew (fun hHeld => ?_)
    obtain ⟨Z, hZ⟩ : ∃ Z, Z = w2.drew := ⟨_, rfl⟩
    rw [← hZ] at hHeld ⊢
    clear hZ
    refine take_do (i := 0) (v := (loV l)) rfl (by kernel_rfl) (by kernel_rfl) (by kernel_rfl) (fun _ _ _ h => h) (by rfl) ?_ (by assumption) ?_
    · intro w hSw
      obtain ⟨⟨q0, q1, q2⟩, q3, q4, q5⟩ := row6_cells (wrow_below HR5.out hSw)
      go_simp
    simp only [Act.put, List.setIfInBounds_toArray, List.set_cons_zero, List.set_cons_succ]
    refine take_do (i := 1) (v := (.float .f64 start)) rfl (by kernel_rfl) (by kernel_rfl) (by kernel_rfl) (fun _ _ _ h => h) (by rfl) ?_ (by assumption) ?_
    · intro w hSw
      skip
      go_simp
    simp only [Act.put, List.setIfInBounds_toArray, List.set_cons_zero, List.set_cons_succ]
    refine take_do (i := 3) (v := (.slice (some ⟨g, 0, none⟩) n kk)) rfl (by kernel_rfl) (by kernel_rfl) (by kernel_rfl) (fun _ _ _ h => h) (by rfl) ?_ (by assumption) ?_
    · intro w hSw
      skip
      go_simp
    simp only [Act.put, List.setIfInBounds_toArray, List.set_cons_zero, List.set_cons_succ]
    refine wpAnyH_ready (rs := [2, 6]) (by kernel_rfl) (by simp) (AllReadyH.cons (at_drop (i := 2) rfl) (fun K2 hK => ?_) (AllReadyH.cons (at_drop (i := 6) rfl) (fun K2 hK => ?_) (AllReadyH.nil)))
    · obtain ⟨Z1, hZ1⟩ : ∃ Z1, Z1 = Z.alloc (.cells #[] 23) := ⟨_, rfl⟩
      have hb : Below Z.heap.size Z Z1 := by rw [hZ1]; exact bel_alloc _ _
      obtain ⟨gs, hgs⟩ : ∃ gs, gs = Z.heap.size := ⟨_, rfl⟩
      have HOS : Hid (OwnF w2.heap.size (.slice (some ⟨gs, 0, none⟩) 0 0) 0 f Z1) := by
        show World.ownsRow _ _ _ _ _ _ _
        rw [hZ1, hgs]
        exact ⟨rfl, Or.inr ⟨_, 0, #[], rfl, hHeld.size, blk_alloc_new _ _, Nat.le_refl _, Nat.zero_le _, rfl, rfl⟩⟩
      have HGS : Hid (w2.heap.size ≤ gs) := by show _ ≤ _; rw [hgs]; exact hHeld.size
      go_simp
      rw [← hZ1, ← hgs]
      refine hK.out _ _ (hHeld.trans (hb.mono hHeld.size)) (fun hHeld2 => ?_)
      clear hK hHeld
      have hHeld := hHeld2
      clear hHeld2
      clear hb hZ1 hgs
      refine wpAnyH_ready (rs := [4, 6]) (by kernel_rfl) (by simp) (AllReadyH.cons (at_drop (i := 4) rfl) (fun K2 hK => ?_) (AllReadyH.cons (at_drop (i := 6) rfl) (fun K2 hK => ?_) (AllReadyH.nil)))
      · refine lstep_append rfl (.tmp 34) (.tmp 35) 26 rfl w2.heap.size 23 i0 (.float .f64 0) 1 8 Tryd.underlying26 hi hz0 hz1 hz2 rfl (by decide) (.slice (some ⟨gs, 0, none⟩) 0 0) 0 [] rfl HOS.out ⟨g, 0, none⟩ n kk (lst f n) rfl (by rw [lst_len, Nat.mul_one]) ?_ ?_ (by have := HKN.out; have h2 := HN4.out; unfold maxLen; omega) (by have := HKN.out; have h2 := HN4.out; omega) hHeld.size ?_
        · intro j u hj
          have hjn : j < n := by
            rcases Nat.lt_or_ge j n with h | h
            · exact h
            · rw [List.getElem?_eq_none (by rw [lst_len]; exact h)] at hj; cases hj
          rw [lst_at hjn] at hj
          injection hj with hj
          subst hj
          have hkn := HKN.out
          have hcell := HCW.out j (by omega)
          have e1 : ((⟨g, 0, none⟩ : Addr).add j) = ⟨g, j, none⟩ := by rw [Addr.add_lit, Nat.zero_add]
          rw [e1]
          exact (hHeld.cell (p := ⟨g, j, none⟩) (World.block_lt_of_cell? _ _ hcell)).trans hcell
        · intro u hu
          unfold lst at hu
          obtain ⟨i, _, e⟩ := List.mem_map.1 hu
          rw [← e]; rfl
        intro v' Z2 hown hgrow
        have hrow : ∀ q, (Value.slice (some ⟨gs, 0, none⟩) 0 0).ownBlock = some q → w2.heap.size ≤ q := fun q e => (World.ownsRow.lt HOS.out q e).1
        have hbN : Below w2.heap.size w2 Z2 := ⟨hgrow.os.trans hHeld.os, hgrow.tape.trans hHeld.tape, hgrow.output.trans hHeld.output, Nat.le_trans hHeld.size hgrow.size, fun q hq => (hgrow.block q (Nat.lt_of_lt_of_le hq hHeld.size) (fun e => by have := hrow q e.symm; omega)).trans (hHeld.block q hq)⟩
        have hofa : OwnF w2.heap.size v' n f Z2 := by
          have h2 := hown
          rw [Nat.zero_add, List.nil_append] at h2
          exact h2
        obtain ⟨aw, kw, rfl, hA⟩ := hofa.sl
        have HFA := Lib.hid hA
        refine hK.out _ _ hbN (fun hHeld2 => ?_)
        clear hK hHeld hown hgrow hrow hbN hofa hA HOS HGS
        have hHeld := hHeld2
        clear hHeld2
        simp only [Act.put, List.setIfInBounds_toArray, List.set_cons_zero, List.set_cons_succ]
        refine wpAnyH_ready (rs := [5, 6]) (by kernel_rfl) (by simp) (AllReadyH.cons (at_drop (i := 5) rfl) (fun K2 hK => ?_) (AllReadyH.cons (at_drop (i := 6) rfl) (fun K2 hK => ?_) (AllReadyH.nil)))
        · go_simp
          refine (HIN.out _ _ _ HFA.out (tab_below HG.out.2 (HB.out.trans (hHeld.mono HB.out.size))) (HG.out.1.below (HB.out.trans (hHeld.mono HB.out.size)))).mono ?_
          rintro e Z3 ⟨⟨v1, v2, rfl, hT⟩, hb⟩
          obtain ⟨a1, k1, e1, _⟩ := hT.one.sl
          obtain ⟨a2, k2, e2, _⟩ := hT.two.sl
          subst e1 e2
          have TW : Hid (Two w2.heap.size (.slice a1 n k1) n F1 (.slice a2 n k2) n F2 Z3) := hT.lower hHeld.size
          go_wp2_with fail
          refine hK.out _ _ (hHeld.trans (hb.mono hHeld.size)) (fun hHeld2 => ?_)
          clear hK hHeld
          have hHeld := hHeld2
          clear hHeld2
          clear hb hT HFA
          refine take_call (i := 6) rfl (by kernel_rfl) (fun K2 hK => ?_)
          obtain ⟨Z4, hZ4⟩ : ∃ Z4, Z4 = Z3.alloc (.cells #[nilS, nilS, .int .i64 0] 30) := ⟨_, rfl⟩
          have hb : Below Z3.heap.size Z3 Z4 := by rw [hZ4]; exact bel_alloc _ _
          obtain ⟨gb, hgb⟩ : ∃ gb, gb = Z3.heap.size := ⟨_, rfl⟩
          have RZ : Hid (Z4.rowIs gb 30 3 (rowL (outL nilS nilS 0))) := by show World.rowIs _ _ _ _ _; rw [hZ4]; exact rowL_alloc' hgb.symm (outL nilS nilS 0) _
          have HGB : Hid (w2.heap.size ≤ gb) := by show _ ≤ _; rw [hgb]; exact hHeld.size
          have HFAR : Hid (∀ q, In2 (.slice a1 n k1) (.slice a2 n k2) q → q ≠ gb) := fun q hq => by
            rcases hq with hq | hq
            · have := (World.ownsRow.lt TW.out.one q hq).2; omega
            · have := (World.ownsRow.lt TW.out.two q hq).2; omega
          replace TW := Lib.hid (TW.out.below hb)
          go_simp
          rw [← hZ4, ← hgb]
          refine hK.out _ _ (hHeld.trans (hb.mono hHeld.size)) (fun hHeld2 => ?_)
          clear hK hHeld
          have hHeld := hHeld2
          clear hHeld2
          clear hb hZ4 hgb
          have o0 := RZ.out.cell (i := 0) (by omega)
          have o1 := RZ.out.cell (i := 1) (by omega)
          have o2 := RZ.out.cell (i := 2) (by omega)
          have z0 := RZ.out.frozen 0
          have z1 := RZ.out.frozen 1
          have z2 := RZ.out.frozen 2
          have l0 := RZ.out.lt
          obtain ⟨WZ, hWZ⟩ : ∃ WZ, WZ = ((Z4.setCell ⟨gb, 0, none⟩ (.slice a1 n k1)).setCell ⟨gb, 1, none⟩ (.slice a2 n k2)).setCell ⟨gb, 2, none⟩ (.int .i64 0) := ⟨_, rfl⟩
          have hbZ : Below w2.heap.size w2 WZ := by rw [hWZ]; exact ((hHeld.setCell (p := ⟨gb, 0, none⟩) HGB.out _).setCell (p := ⟨gb, 1, none⟩) HGB.out _).setCell (p := ⟨gb, 2, none⟩) HGB.out _
          have HFM : Hid (WZ.rowIs gb 30 3 (rowL (outL (.slice a1 n k1) (.slice a2 n k2) 0))) := by show World.rowIs _ _ _ _ _; rw [hWZ]; exact rowL_set (rowL_set (rowL_set RZ.out 0 (.slice a1 n k1) (by simp)) 1 (.slice a2 n k2) (by simp)) 2 (.int .i64 0) (by simp)
          have HTZ : Hid (Two w2.heap.size (.slice a1 n k1) n F1 (.slice a2 n k2) n F2 WZ) := by show Two _ _ _ _ _ _ _ _; rw [hWZ]; exact TW.out.only (only_set3 _ _ _) (fun q h1 hq => HFAR.out q (Or.inl h1) hq) (fun q h1 hq => HFAR.out q (Or.inr h1) hq)
          have HWZ := Lib.hid hWZ
          have HBZ := Lib.hid hbZ
          clear hWZ hbZ
          refine take_call (i := 7) rfl (by kernel_rfl) (fun K2 hK => ?_)
          go_simp
          rw [← HWZ.out]
          refine hK.out _ _ HBZ.out (fun hHeld2 => ?_)
          clear hK hHeld hHeld2 HWZ o0 o1 o2 z0 z1 z2 l0
          refine wpAnyH_done (by kernel_rfl) ?_ _
          go_wp2_with fail
          go_meet
          case rel => exact ⟨a1, k1, a2, k2, gb, rfl, HFM.out, HTZ.out, HBZ.out⟩
        · obtain ⟨Z5, hZ5⟩ : ∃ Z5, Z5 = Z2.alloc (.cells #[nilS, nilS, .int .i64 0] 30) := ⟨_, rfl⟩
          have hb : Below Z2.heap.size Z2 Z5 := by rw [hZ5]; exact bel_alloc _ _
          obtain ⟨gb, hgb⟩ : ∃ gb, gb = Z2.heap.size := ⟨_, rfl⟩
          have RZ : Hid (Z5.rowIs gb 30 3 (rowL (outL nilS nilS 0))) := by show World.rowIs _ _ _ _ _; rw [hZ5]; exact rowL_alloc' hgb.symm (outL nilS nilS 0) _
          have HGB : Hid (w2.heap.size ≤ gb) := by show _ ≤ _; rw [hgb]; exact hHeld.size
          replace HFA := Lib.hid (HFA.out.below hb)
          go_simp
          rw [← hZ5, ← hgb]
          refine hK.out _ _ (hHeld.trans (hb.mono hHeld.size)) (fun hHeld2 => ?_)
          clear hK hHeld
          have hHeld := hHeld2
          clear hHeld2
          clear hb hZ5 hgb
          refine take_call (i := 5) rfl (by kernel_rfl) (fun K2 hK => ?_)
          go_simp
          refine (HIN.out _ _ _ HFA.out (tab_below HG.out.2 (HB.out.trans (hHeld.mono HB.out.size))) (HG.out.1.below (HB.out.trans (hHeld.mono HB.out.size)))).mono ?_
          rintro e Z6 ⟨⟨v1, v2, rfl, hT⟩, hb⟩
          obtain ⟨a1, k1, e1, _⟩ := hT.one.sl
          obtain ⟨a2, k2, e2, _⟩ := hT.two.sl
          subst e1 e2
          have HFAR : Hid (∀ q, In2 (.slice a1 n k1) (.slice a2 n k2) q → q ≠ gb) := fun q hq => by
            have h0 := RZ.out.lt
            rcases hq with hq | hq
            · have := (World.ownsRow.lt hT.one q hq).1; omega
            · have := (World.ownsRow.lt hT.two q hq).1; omega
          have TW : Hid (Two w2.heap.size (.slice a1 n k1) n F1 (.slice a2 n k2) n F2 Z6) := hT.lower hHeld.size
          replace RZ := Lib.hid (wrow_below RZ.out hb)
          go_wp2_with fail
          refine hK.out _ _ (hHeld.trans (hb.mono hHeld.size)) (fun hHeld2 => ?_)
          clear hK hHeld
          have hHeld := hHeld2
          clear hHeld2
          clear hb hT HFA
          have o0 := RZ.out.cell (i := 0) (by omega)
          have o1 := RZ.out.cell (i := 1) (by omega)
          have o2 := RZ.out.cell (i := 2) (by omega)
          have z0 := RZ.out.frozen 0
          have z1 := RZ.out.frozen 1
          have z2 := RZ.out.frozen 2
          have l0 := RZ.out.lt
          obtain ⟨WZ, hWZ⟩ : ∃ WZ, WZ = ((Z6.setCell ⟨gb, 0, none⟩ (.slice a1 n k1)).setCell ⟨gb, 1, none⟩ (.slice a2 n k2)).setCell ⟨gb, 2, none⟩ (.int .i64 0) := ⟨_, rfl⟩
          have hbZ : Below w2.heap.size w2 WZ := by rw [hWZ]; exact ((hHeld.setCell (p := ⟨gb, 0, none⟩) HGB.out _).setCell (p := ⟨gb, 1, none⟩) HGB.out _).setCell (p := ⟨gb, 2, none⟩) HGB.out _
          have HFM : Hid (WZ.rowIs gb 30 3 (rowL (outL (.slice a1 n k1) (.slice a2 n k2) 0))) := by show World.rowIs _ _ _ _ _; rw [hWZ]; exact rowL_set (rowL_set (rowL_set RZ.out 0 (.slice a1 n k1) (by simp)) 1 (.slice a2 n k2) (by simp)) 2 (.int .i64 0) (by simp)
          have HTZ : Hid (Two w2.heap.size (.slice a1 n k1) n F1 (.slice a2 n k2) n F2 WZ) := by show Two _ _ _ _ _ _ _ _; rw [hWZ]; exact TW.out.only (only_set3 _ _ _) (fun q h1 hq => HFAR.out q (Or.inl h1) hq) (fun q h1 hq => HFAR.out q (Or.inr h1) hq)
          have HWZ := Lib.hid hWZ
          have HBZ := Lib.hid hbZ
          clear hWZ hbZ
          refine take_call (i := 7) rfl (by kernel_rfl) (fun K2 hK => ?_)
          go_simp
          rw [← HWZ.out]
          refine hK.out _ _ HBZ.out (fun hHeld2 => ?_)
          clear hK hHeld hHeld2 HWZ o0 o1 o2 z0 z1 z2 l0
          refine wpAnyH_done (by kernel_rfl) ?_ _
          go_wp2_with fail
          go_meet
          case rel => exact ⟨a1, k1, a2, k2, gb, rfl, HFM.out, HTZ.out, HBZ.out⟩
      · obtain ⟨Z7, hZ7⟩ : ∃ Z7, Z7 = Z1.alloc (.cells #[nilS, nilS, .int .i64 0] 30) := ⟨_, rfl⟩
        have hb : Below Z1.heap.size Z1 Z7 := by rw [hZ7]; exact bel_alloc _ _
        obtain ⟨gb, hgb⟩ : ∃ gb, gb = Z1.heap.size := ⟨_, rfl⟩
        have RZ : Hid (Z7.rowIs gb 30 3 (rowL (outL nilS nilS 0))) := by show World.rowIs _ _ _ _ _; rw [hZ7]; exact rowL_alloc' hgb.symm (outL nilS nilS 0) _
        have HGB : Hid (w2.heap.size ≤ gb) := by show _ ≤ _; rw [hgb]; exact hHeld.size
        have HNE : Hid (gb ≠ gs) := by have := (World.ownsRow.lt HOS.out gs rfl).2; show gb ≠ gs; omega
        replace HOS := Lib.hid (HOS.out.below hb)
        go_simp
        rw [← hZ7, ← hgb]
        refine hK.out _ _ (hHeld.trans (hb.mono hHeld.size)) (fun hHeld2 => ?_)
        clear hK hHeld
        have hHeld := hHeld2
        clear hHeld2
        clear hb hZ7 hgb
        refine take_call (i := 4) rfl (by kernel_rfl) (fun K2 hK => ?_)
        refine lstep_append rfl (.tmp 34) (.tmp 35) 26 rfl w2.heap.size 23 i0 (.float .f64 0) 1 8 Tryd.underlying26 hi hz0 hz1 hz2 rfl (by decide) (.slice (some ⟨gs, 0, none⟩) 0 0) 0 [] rfl HOS.out ⟨g, 0, none⟩ n kk (lst f n) rfl (by rw [lst_len, Nat.mul_one]) ?_ ?_ (by have := HKN.out; have h2 := HN4.out; unfold maxLen; omega) (by have := HKN.out; have h2 := HN4.out; omega) hHeld.size ?_
        · intro j u hj
          have hjn : j < n := by
            rcases Nat.lt_or_ge j n with h | h
            · exact h
            · rw [List.getElem?_eq_none (by rw [lst_len]; exact h)] at hj; cases hj
          rw [lst_at hjn] at hj
          injection hj with hj
          subst hj
          have hkn := HKN.out
          have hcell := HCW.out j (by omega)
          have e1 : ((⟨g, 0, none⟩ : Addr).add j) = ⟨g, j, none⟩ := by rw [Addr.add_lit, Nat.zero_add]
          rw [e1]
          exact (hHeld.cell (p := ⟨g, j, none⟩) (World.block_lt_of_cell? _ _ hcell)).trans hcell
        · intro u hu
          unfold lst at hu
          obtain ⟨i, _, e⟩ := List.mem_map.1 hu
          rw [← e]; rfl
        intro v' Z8 hown hgrow
        have hrow : ∀ q, (Value.slice (some ⟨gs, 0, none⟩) 0 0).ownBlock = some q → w2.heap.size ≤ q := fun q e => (World.ownsRow.lt HOS.out q e).1
        have hbN : Below w2.heap.size w2 Z8 := ⟨hgrow.os.trans hHeld.os, hgrow.tape.trans hHeld.tape, hgrow.output.trans hHeld.output, Nat.le_trans hHeld.size hgrow.size, fun q hq => (hgrow.block q (Nat.lt_of_lt_of_le hq hHeld.size) (fun e => by have := hrow q e.symm; omega)).trans (hHeld.block q hq)⟩
        have hofa : OwnF w2.heap.size v' n f Z8 := by
          have h2 := hown
          rw [Nat.zero_add, List.nil_append] at h2
          exact h2
        obtain ⟨aw, kw, rfl, hA⟩ := hofa.sl
        have HFA := Lib.hid hA
        replace RZ : Hid (Z8.rowIs gb 30 3 (rowL (outL nilS nilS 0))) := RZ.out.of_block (hgrow.block gb RZ.out.lt (fun e => HNE.out (by injection e)))
        refine hK.out _ _ hbN (fun hHeld2 => ?_)
        clear hK hHeld hown hgrow hrow hbN hofa hA HOS HGS
        have hHeld := hHeld2
        clear hHeld2
        simp only [Act.put, List.setIfInBounds_toArray, List.set_cons_zero, List.set_cons_succ]
        clear HNE
        refine take_call (i := 5) rfl (by kernel_rfl) (fun K2 hK => ?_)
        go_simp
        refine (HIN.out _ _ _ HFA.out (tab_below HG.out.2 (HB.out.trans (hHeld.mono HB.out.size))) (HG.out.1.below (HB.out.trans (hHeld.mono HB.out.size)))).mono ?_
        rintro e Z9 ⟨⟨v1, v2, rfl, hT⟩, hb⟩
        obtain ⟨a1, k1, e1, _⟩ := hT.one.sl
        obtain ⟨a2, k2, e2, _⟩ := hT.two.sl
        subst e1 e2
        have HFAR : Hid (∀ q, In2 (.slice a1 n k1) (.slice a2 n k2) q → q ≠ gb) := fun q hq => by
          have h0 := RZ.out.lt
          rcases hq with hq | hq
          · have := (World.ownsRow.lt hT.one q hq).1; omega
          · have := (World.ownsRow.lt hT.two q hq).1; omega
        have TW : Hid (Two w2.heap.size (.slice a1 n k1) n F1 (.slice a2 n k2) n F2 Z9) := hT.lower hHeld.size
        replace RZ := Lib.hid (wrow_below RZ.out hb)
        go_wp2_with fail
        refine hK.out _ _ (hHeld.trans (hb.mono hHeld.size)) (fun hHeld2 => ?_)
        clear hK hHeld
        have hHeld := hHeld2
        clear hHeld2
        clear hb hT HFA
        have o0 := RZ.out.cell (i := 0) (by omega)
        have o1 := RZ.out.cell (i := 1) (by omega)
        have o2 := RZ.out.cell (i := 2) (by omega)
        have z0 := RZ.out.frozen 0
        have z1 := RZ.out.frozen 1
        have z2 := RZ.out.frozen 2
        have l0 := RZ.out.lt
        obtain ⟨WZ, hWZ⟩ : ∃ WZ, WZ = ((Z9.setCell ⟨gb, 0, none⟩ (.slice a1 n k1)).setCell ⟨gb, 1, none⟩ (.slice a2 n k2)).setCell ⟨gb, 2, none⟩ (.int .i64 0) := ⟨_, rfl⟩
        have hbZ : Below w2.heap.size w2 WZ := by rw [hWZ]; exact ((hHeld.setCell (p := ⟨gb, 0, none⟩) HGB.out _).setCell (p := ⟨gb, 1, none⟩) HGB.out _).setCell (p := ⟨gb, 2, none⟩) HGB.out _
        have HFM : Hid (WZ.rowIs gb 30 3 (rowL (outL (.slice a1 n k1) (.slice a2 n k2) 0))) := by show World.rowIs _ _ _ _ _; rw [hWZ]; exact rowL_set (rowL_set (rowL_set RZ.out 0 (.slice a1 n k1) (by simp)) 1 (.slice a2 n k2) (by simp)) 2 (.int .i64 0) (by simp)
        have HTZ : Hid (Two w2.heap.size (.slice a1 n k1) n F1 (.slice a2 n k2) n F2 WZ) := by show Two _ _ _ _ _ _ _ _; rw [hWZ]; exact TW.out.only (only_set3 _ _ _) (fun q h1 hq => HFAR.out q (Or.inl h1) hq) (fun q h1 hq => HFAR.out q (Or.inr h1) hq)
        have HWZ := Lib.hid hWZ
        have HBZ := Lib.hid hbZ
        clear hWZ hbZ
        refine take_call (i := 7) rfl (by kernel_rfl) (fun K2 hK => ?_)
        go_simp
        rw [← HWZ.out]
        refine hK.out _ _ HBZ.out (fun hHeld2 => ?_)
        clear hK hHeld hHeld2 HWZ o0 o1 o2 z0 z1 z2 l0
        refine wpAnyH_done (by kernel_rfl) ?_ _
        go_wp2_with fail
        go_meet
        case rel => exact ⟨a1, k1, a2, k2, gb, rfl, HFM.out, HTZ.out, HBZ.out⟩
    · obtain ⟨Z10, hZ10⟩ : ∃ Z10, Z10 = Z.alloc (.cells #[nilS, nilS, .int .i64 0] 30) := ⟨_, rfl⟩
      have hb : Below Z.heap.size Z Z10 := by rw [hZ10]; exact bel_alloc _ _
      obtain ⟨gb, hgb⟩ : ∃ gb, gb = Z.heap.size := ⟨_, rfl⟩
      have RZ : Hid (Z10.rowIs gb 30 3 (rowL (outL nilS nilS 0))) := by show World.rowIs _ _ _ _ _; rw [hZ10]; exact rowL_alloc' hgb.symm (outL nilS nilS 0) _
      have HGB : Hid (w2.heap.size ≤ gb) := by show _ ≤ _; rw [hgb]; exact hHeld.size
      go_simp
      rw [← hZ10, ← hgb]
      refine hK.out _ _ (hHeld.trans (hb.mono hHeld.size)) (fun hHeld2 => ?_)
      clear hK hHeld
      have hHeld := hHeld2
      clear hHeld2
      clear hb hZ10 hgb
      refine take_call (i := 2) rfl (by kernel_rfl) (fun K2 hK => ?_)
      obtain ⟨Z11, hZ11⟩ : ∃ Z11, Z11 = Z10.alloc (.cells #[] 23) := ⟨_, rfl⟩
      have hb : Below Z10.heap.size Z10 Z11 := by rw [hZ11]; exact bel_alloc _ _
      obtain ⟨gs, hgs⟩ : ∃ gs, gs = Z10.heap.size := ⟨_, rfl⟩
      have HOS : Hid (OwnF w2.heap.size (.slice (some ⟨gs, 0, none⟩) 0 0) 0 f Z11) := by
        show World.ownsRow _ _ _ _ _ _ _
        rw [hZ11, hgs]
        exact ⟨rfl, Or.inr ⟨_, 0, #[], rfl, hHeld.size, blk_alloc_new _ _, Nat.le_refl _, Nat.zero_le _, rfl, rfl⟩⟩
      have HGS : Hid (w2.heap.size ≤ gs) := by show _ ≤ _; rw [hgs]; exact hHeld.size
      have HNE : Hid (gb ≠ gs) := by have := RZ.out.lt; show gb ≠ gs; omega
      replace RZ := Lib.hid (wrow_below RZ.out hb)
      go_simp
      rw [← hZ11, ← hgs]
      refine hK.out _ _ (hHeld.trans (hb.mono hHeld.size)) (fun hHeld2 => ?_)
      clear hK hHeld
      have hHeld := hHeld2
      clear hHeld2
      clear hb hZ11 hgs
      refine take_call (i := 4) rfl (by kernel_rfl) (fun K2 hK => ?_)
      refine lstep_append rfl (.tmp 34) (.tmp 35) 26 rfl w2.heap.size 23 i0 (.float .f64 0) 1 8 Tryd.underlying26 hi hz0 hz1 hz2 rfl (by decide) (.slice (some ⟨gs, 0, none⟩) 0 0) 0 [] rfl HOS.out ⟨g, 0, none⟩ n kk (lst f n) rfl (by rw [lst_len, Nat.mul_one]) ?_ ?_ (by have := HKN.out; have h2 := HN4.out; unfold maxLen; omega) (by have := HKN.out; have h2 := HN4.out; omega) hHeld.size ?_
      · intro j u hj
        have hjn : j < n := by
          rcases Nat.lt_or_ge j n with h | h
          · exact h
          · rw [List.getElem?_eq_none (by rw [lst_len]; exact h)] at hj; cases hj
        rw [lst_at hjn] at hj
        injection hj with hj
        subst hj
        have hkn := HKN.out
        have hcell := HCW.out j (by omega)
        have e1 : ((⟨g, 0, none⟩ : Addr).add j) = ⟨g, j, none⟩ := by rw [Addr.add_lit, Nat.zero_add]
        rw [e1]
        exact (hHeld.cell (p := ⟨g, j, none⟩) (World.block_lt_of_cell? _ _ hcell)).trans hcell
      · intro u hu
        unfold lst at hu
        obtain ⟨i, _, e⟩ := List.mem_map.1 hu
        rw [← e]; rfl
      intro v' Z12 hown hgrow
      have hrow : ∀ q, (Value.slice (some ⟨gs, 0, none⟩) 0 0).ownBlock = some q → w2.heap.size ≤ q := fun q e => (World.ownsRow.lt HOS.out q e).1
      have hbN : Below w2.heap.size w2 Z12 := ⟨hgrow.os.trans hHeld.os, hgrow.tape.trans hHeld.tape, hgrow.output.trans hHeld.output, Nat.le_trans hHeld.size hgrow.size, fun q hq => (hgrow.block q (Nat.lt_of_lt_of_le hq hHeld.size) (fun e => by have := hrow q e.symm; omega)).trans (hHeld.block q hq)⟩
      have hofa : OwnF w2.heap.size v' n f Z12 := by
        have h2 := hown
        rw [Nat.zero_add, List.nil_append] at h2
        exact h2
      obtain ⟨aw, kw, rfl, hA⟩ := hofa.sl
      have HFA := Lib.hid hA
      replace RZ : Hid (Z12.rowIs gb 30 3 (rowL (outL nilS nilS 0))) := RZ.out.of_block (hgrow.block gb RZ.out.lt (fun e => HNE.out (by injection e)))
      refine hK.out _ _ hbN (fun hHeld2 => ?_)
      clear hK hHeld hown hgrow hrow hbN hofa hA HOS HGS
      have hHeld := hHeld2
      clear hHeld2
      simp only [Act.put, List.setIfInBounds_toArray, List.set_cons_zero, List.set_cons_succ]
      clear HNE
      refine take_call (i := 5) rfl (by kernel_rfl) (fun K2 hK => ?_)
      go_simp
      refine (HIN.out _ _ _ HFA.out (tab_below HG.out.2 (HB.out.trans (hHeld.mono HB.out.size))) (HG.out.1.below (HB.out.trans (hHeld.mono HB.out.size)))).mono ?_
      rintro e Z13 ⟨⟨v1, v2, rfl, hT⟩, hb⟩
      obtain ⟨a1, k1, e1, _⟩ := hT.one.sl
      obtain ⟨a2, k2, e2, _⟩ := hT.two.sl
      subst e1 e2
      have HFAR : Hid (∀ q, In2 (.slice a1 n k1) (.slice a2 n k2) q → q ≠ gb) := fun q hq => by
        have h0 := RZ.out.lt
        rcases hq with hq | hq
        · have := (World.ownsRow.lt hT.one q hq).1; omega
        · have := (World.ownsRow.lt hT.two q hq).1; omega
      have TW : Hid (Two w2.heap.size (.slice a1 n k1) n F1 (.slice a2 n k2) n F2 Z13) := hT.lower hHeld.size
      replace RZ := Lib.hid (wrow_below RZ.out hb)
      go_wp2_with fail
      refine hK.out _ _ (hHeld.trans (hb.mono hHeld.size)) (fun hHeld2 => ?_)
      clear hK hHeld
      have hHeld := hHeld2
      clear hHeld2
      clear hb hT HFA
      have o0 := RZ.out.cell (i := 0) (by omega)
      have o1 := RZ.out.cell (i := 1) (by omega)
      have o2 := RZ.out.cell (i := 2) (by omega)
      have z0 := RZ.out.frozen 0
      have z1 := RZ.out.frozen 1
      have z2 := RZ.out.frozen 2
      have l0 := RZ.out.lt
      obtain ⟨WZ, hWZ⟩ : ∃ WZ, WZ = ((Z13.setCell ⟨gb, 0, none⟩ (.slice a1 n k1)).setCell ⟨gb, 1, none⟩ (.slice a2 n k2)).setCell ⟨gb, 2, none⟩ (.int .i64 0) := ⟨_, rfl⟩
      have hbZ : Below w2.heap.size w2 WZ := by rw [hWZ]; exact ((hHeld.setCell (p := ⟨gb, 0, none⟩) HGB.out _).setCell (p := ⟨gb, 1, none⟩) HGB.out _).setCell (p := ⟨gb, 2, none⟩) HGB.out _
      have HFM : Hid (WZ.rowIs gb 30 3 (rowL (outL (.slice a1 n k1) (.slice a2 n k2) 0))) := by show World.rowIs _ _ _ _ _; rw [hWZ]; exact rowL_set (rowL_set (rowL_set RZ.out 0 (.slice a1 n k1) (by simp)) 1 (.slice a2 n k2) (by simp)) 2 (.int .i64 0) (by simp)
      have HTZ : Hid (Two w2.heap.size (.slice a1 n k1) n F1 (.slice a2 n k2) n F2 WZ) := by show Two _ _ _ _ _ _ _ _; rw [hWZ]; exact TW.out.only (only_set3 _ _ _) (fun q h1 hq => HFAR.out q (Or.inl h1) hq) (fun q h1 hq => HFAR.out q (Or.inr h1) hq)
      have HWZ := Lib.hid hWZ
      have HBZ := Lib.hid hbZ
      clear hWZ hbZ
      refine take_call (i := 7) rfl (by kernel_rfl) (fun K2 hK => ?_)
      go_simp
      rw [← HWZ.out]
      refine hK.out _ _ HBZ.out (fun hHeld2 => ?_)
      clear hK hHeld hHeld2 HWZ o0 o1 o2 z0 z1 z2 l0
      refine wpAnyH_done (by kernel_rfl) ?_ _
      go_wp2_with fail
      go_meet
      case rel => exact ⟨a1, k1, a2, k2, gb, rfl, HFM.out, HTZ.out, HBZ.out⟩
  case rest =>
    obtain ⟨xa, xk, xb, xl, g8, rfl, hC⟩ := hcut
    obtain ⟨w3, hw3⟩ : ∃ w3, w3 = wc := ⟨_, rfl⟩
    rw [← hw3] at hC ⊢
    clear hw3
    have hb := hC.out.2.2
    have M8 := Lib.hid hC.out.1
    have T8 := Lib.hid hC.out.2.1
    replace HR5 := Lib.hid (wrow_below HR5.out hb)
    replace HCW : Hid (∀ i, i < n → w3.cell? ⟨g, i, none⟩ = some (.float .f64 (f i))) := fun i hi => (hb.cell (p := ⟨g, i, none⟩) (World.block_lt_of_cell? _ _ (HCW.out i hi))).trans (HCW.out i hi)
    replace HB : Hid (Below w.heap.size w w3) := HB.out.trans (hb.mono HB.out.size)
    clear hb hC
    have hn4 := HN4.out
    go_wp2_with fail
    refine (lwAt_any a2 len2 cap2 0 ((n : Int) + 1) _ (HBY2.out.below HB.out) HLN2.out (by omega) (by omega) (by omega)).mono ?_
    rintro e w4 ⟨⟨kz, rfl, kz0, _, kz1⟩, rfl⟩
    obtain ⟨k, hk⟩ : ∃ k : Nat, (k : Int) = kz := ⟨kz.toNat, by omega⟩
    have hkn : k ≤ n := by have := kz1 (by omega); omega
    subst hk
    clear kz0 kz1
    have HKN2 := Lib.hid hkn
    have HIK : Hid (∀ a' k' wx, FlAt a' k f wx → TabOk wx → Et wx → Calls Tryd.prog 7 #[loV l, .float .f64 start, .slice a' k k'] wx fun e w' => (∃ v1 v2, e = .returned (loOutV v1 v2 0) ∧ Two wx.heap.size v1 k F1 v2 k F2 w') ∧ Below wx.heap.size wx w') := HIM.out k hkn
    clear HKN
    have HKN := HKN2
    have hkk : k ≤ kk := by have := HNK.out; omega
    have hkkz : (k : Int) ≤ (kk : Int) := by omega
    have hk00 : (0 : Int) ≤ (k : Int) := by omega
    go_wp2_with fail
    go_cut [10] (fun p V => ∃ a1 k1 a2 k2 gb, p = .pointer (some ⟨gb, 0, none⟩) ∧ Hid (V.rowIs gb 30 3 (rowL (outL (.slice a1 k k1) (.slice a2 k k2) 0)) ∧ Two w4.heap.size (.slice a1 k k1) k F1 (.slice a2 k k2) k F2 V ∧ Below w4.heap.size w4 V))
    case first =>
      refine wp_region_held_drew (S := fun V => Below w4.heap.size w4 V) (by kernel_rfl) (Below.refl _ _).drew (fun hHeld => ?_)
      obtain ⟨Z, hZ⟩ : ∃ Z, Z = w4.drew := ⟨_, rfl⟩
      rw [← hZ] at hHeld ⊢
      clear hZ
      refine take_do (i := 0) (v := (loV l)) rfl (by kernel_rfl) (by kernel_rfl) (by kernel_rfl) (fun _ _ _ h => h) (by rfl) ?_ (by assumption) ?_
      · intro w hSw
        obtain ⟨⟨q0, q1, q2⟩, q3, q4, q5⟩ := row6_cells (wrow_below HR5.out hSw)
        go_simp
      simp only [Act.put, List.setIfInBounds_toArray, List.set_cons_zero, List.set_cons_succ]
      refine take_do (i := 1) (v := (.float .f64 start)) rfl (by kernel_rfl) (by kernel_rfl) (by kernel_rfl) (fun _ _ _ h => h) (by rfl) ?_ (by assumption) ?_
      · intro w hSw
        skip
        go_simp
      simp only [Act.put, List.setIfInBounds_toArray, List.set_cons_zero, List.set_cons_succ]
      refine take_do (i := 3) (v := (.slice (some ⟨g, 0, none⟩) n kk)) rfl (by kernel_rfl) (by kernel_rfl) (by kernel_rfl) (fun _ _ _ h => h) (by rfl) ?_ (by assumption) ?_
      · intro w hSw
        skip
        go_simp
      simp only [Act.put, List.setIfInBounds_toArray, List.set_cons_zero, List.set_cons_succ]
      refine take_do (i := 4) (v := (.int .i64 k)) rfl (by kernel_rfl) (by kernel_rfl) (by kernel_rfl) (fun _ _ _ h => h) (by rfl) ?_ (by assumption) ?_
      · intro w hSw
        skip
        go_simp
      simp only [Act.put, List.setIfInBounds_toArray, List.set_cons_zero, List.set_cons_succ]
      refine take_do (i := 5) (v := (.slice (some ⟨g, 0, none⟩) k kk)) rfl (by kernel_rfl) (by kernel_rfl) (by kernel_rfl) (fun _ _ _ h => h) (by rfl) ?_ (by assumption) ?_
      · intro w hSw
        skip
        go_simp
      simp only [Act.put, List.setIfInBounds_toArray, List.set_cons_zero, List.set_cons_succ]
      refine wpAnyH_ready (rs := [2, 8]) (by kernel_rfl) (by simp) (AllReadyH.cons (at_drop (i := 2) rfl) (fun K2 hK => ?_) (AllReadyH.cons (at_drop (i := 8) rfl) (fun K2 hK => ?_) (AllReadyH.nil)))
      · obtain ⟨Z14, hZ14⟩ : ∃ Z14, Z14 = Z.alloc (.cells #[] 23) := ⟨_, rfl⟩
        have hb : Below Z.heap.size Z Z14 := by rw [hZ14]; exact bel_alloc _ _
        obtain ⟨gs, hgs⟩ : ∃ gs, gs = Z.heap.size := ⟨_, rfl⟩
        have HOS : Hid (OwnF w4.heap.size (.slice (some ⟨gs, 0, none⟩) 0 0) 0 f Z14) := by
          show World.ownsRow _ _ _ _ _ _ _
          rw [hZ14, hgs]
          exact ⟨rfl, Or.inr ⟨_, 0, #[], rfl, hHeld.size, blk_alloc_new _ _, Nat.le_refl _, Nat.zero_le _, rfl, rfl⟩⟩
        have HGS : Hid (w4.heap.size ≤ gs) := by show _ ≤ _; rw [hgs]; exact hHeld.size
        go_simp
        rw [← hZ14, ← hgs]
        refine hK.out _ _ (hHeld.trans (hb.mono hHeld.size)) (fun hHeld2 => ?_)
        clear hK hHeld
        have hHeld := hHeld2
        clear hHeld2
        clear hb hZ14 hgs
        refine wpAnyH_ready (rs := [6, 8]) (by kernel_rfl) (by simp) (AllReadyH.cons (at_drop (i := 6) rfl) (fun K2 hK => ?_) (AllReadyH.cons (at_drop (i := 8) rfl) (fun K2 hK => ?_) (AllReadyH.nil)))
        · refine lstep_append rfl (.tmp 45) (.tmp 48) 26 rfl w4.heap.size 23 i0 (.float .f64 0) 1 8 Tryd.underlying26 hi hz0 hz1 hz2 rfl (by decide) (.slice (some ⟨gs, 0, none⟩) 0 0) 0 [] rfl HOS.out ⟨g, 0, none⟩ k kk (lst f k) rfl (by rw [lst_len, Nat.mul_one]) ?_ ?_ (by have := HKN.out; have h2 := HN4.out; unfold maxLen; omega) (by have := HKN.out; have h2 := HN4.out; omega) hHeld.size ?_
          · intro j u hj
            have hjn : j < k := by
              rcases Nat.lt_or_ge j k with h | h
              · exact h
              · rw [List.getElem?_eq_none (by rw [lst_len]; exact h)] at hj; cases hj
            rw [lst_at hjn] at hj
            injection hj with hj
            subst hj
            have hkn := HKN.out
            have hcell := HCW.out j (by omega)
            have e1 : ((⟨g, 0, none⟩ : Addr).add j) = ⟨g, j, none⟩ := by rw [Addr.add_lit, Nat.zero_add]
            rw [e1]
            exact (hHeld.cell (p := ⟨g, j, none⟩) (World.block_lt_of_cell? _ _ hcell)).trans hcell
          · intro u hu
            unfold lst at hu
            obtain ⟨i, _, e⟩ := List.mem_map.1 hu
            rw [← e]; rfl
          intro v' Z15 hown hgrow
          have hrow : ∀ q, (Value.slice (some ⟨gs, 0, none⟩) 0 0).ownBlock = some q → w4.heap.size ≤ q := fun q e => (World.ownsRow.lt HOS.out q e).1
          have hbN : Below w4.heap.size w4 Z15 := ⟨hgrow.os.trans hHeld.os, hgrow.tape.trans hHeld.tape, hgrow.output.trans hHeld.output, Nat.le_trans hHeld.size hgrow.size, fun q hq => (hgrow.block q (Nat.lt_of_lt_of_le hq hHeld.size) (fun e => by have := hrow q e.symm; omega)).trans (hHeld.block q hq)⟩
          have hofa : OwnF w4.heap.size v' k f Z15 := by
            have h2 := hown
            rw [Nat.zero_add, List.nil_append] at h2
            exact h2
          obtain ⟨aw, kw, rfl, hA⟩ := hofa.sl
          have HFA := Lib.hid hA
          refine hK.out _ _ hbN (fun hHeld2 => ?_)
          clear hK hHeld hown hgrow hrow hbN hofa hA HOS HGS
          have hHeld := hHeld2
          clear hHeld2
          simp only [Act.put, List.setIfInBounds_toArray, List.set_cons_zero, List.set_cons_succ]
          refine wpAnyH_ready (rs := [7, 8]) (by kernel_rfl) (by simp) (AllReadyH.cons (at_drop (i := 7) rfl) (fun K2 hK => ?_) (AllReadyH.cons (at_drop (i := 8) rfl) (fun K2 hK => ?_) (AllReadyH.nil)))
          · go_simp
            refine (HIK.out _ _ _ HFA.out (tab_below HG.out.2 (HB.out.trans (hHeld.mono HB.out.size))) (HG.out.1.below (HB.out.trans (hHeld.mono HB.out.size)))).mono ?_
            rintro e Z16 ⟨⟨v1, v2, rfl, hT⟩, hb⟩
            obtain ⟨a1, k1, e1, _⟩ := hT.one.sl
            obtain ⟨a2, k2, e2, _⟩ := hT.two.sl
            subst e1 e2
            have TW : Hid (Two w4.heap.size (.slice a1 k k1) k F1 (.slice a2 k k2) k F2 Z16) := hT.lower hHeld.size
            go_wp2_with fail
            refine hK.out _ _ (hHeld.trans (hb.mono hHeld.size)) (fun hHeld2 => ?_)
            clear hK hHeld
            have hHeld := hHeld2
            clear hHeld2
            clear hb hT HFA
            refine take_call (i := 8) rfl (by kernel_rfl) (fun K2 hK => ?_)
            obtain ⟨Z17, hZ17⟩ : ∃ Z17, Z17 = Z16.alloc (.cells #[nilS, nilS, .int .i64 0] 30) := ⟨_, rfl⟩
            have hb : Below Z16.heap.size Z16 Z17 := by rw [hZ17]; exact bel_alloc _ _
            obtain ⟨gb, hgb⟩ : ∃ gb, gb = Z16.heap.size := ⟨_, rfl⟩
            have RZ : Hid (Z17.rowIs gb 30 3 (rowL (outL nilS nilS 0))) := by show World.rowIs _ _ _ _ _; rw [hZ17]; exact rowL_alloc' hgb.symm (outL nilS nilS 0) _
            have HGB : Hid (w4.heap.size ≤ gb) := by show _ ≤ _; rw [hgb]; exact hHeld.size
            have HFAR : Hid (∀ q, In2 (.slice a1 k k1) (.slice a2 k k2) q → q ≠ gb) := fun q hq => by
              rcases hq with hq | hq
              · have := (World.ownsRow.lt TW.out.one q hq).2; omega
              · have := (World.ownsRow.lt TW.out.two q hq).2; omega
            replace TW := Lib.hid (TW.out.below hb)
            go_simp
            rw [← hZ17, ← hgb]
            refine hK.out _ _ (hHeld.trans (hb.mono hHeld.size)) (fun hHeld2 => ?_)
            clear hK hHeld
            have hHeld := hHeld2
            clear hHeld2
            clear hb hZ17 hgb
            have o0 := RZ.out.cell (i := 0) (by omega)
            have o1 := RZ.out.cell (i := 1) (by omega)
            have o2 := RZ.out.cell (i := 2) (by omega)
            have z0 := RZ.out.frozen 0
            have z1 := RZ.out.frozen 1
            have z2 := RZ.out.frozen 2
            have l0 := RZ.out.lt
            obtain ⟨WZ, hWZ⟩ : ∃ WZ, WZ = ((Z17.setCell ⟨gb, 0, none⟩ (.slice a1 k k1)).setCell ⟨gb, 1, none⟩ (.slice a2 k k2)).setCell ⟨gb, 2, none⟩ (.int .i64 0) := ⟨_, rfl⟩
            have hbZ : Below w4.heap.size w4 WZ := by rw [hWZ]; exact ((hHeld.setCell (p := ⟨gb, 0, none⟩) HGB.out _).setCell (p := ⟨gb, 1, none⟩) HGB.out _).setCell (p := ⟨gb, 2, none⟩) HGB.out _
            have HFM : Hid (WZ.rowIs gb 30 3 (rowL (outL (.slice a1 k k1) (.slice a2 k k2) 0))) := by show World.rowIs _ _ _ _ _; rw [hWZ]; exact rowL_set (rowL_set (rowL_set RZ.out 0 (.slice a1 k k1) (by simp)) 1 (.slice a2 k k2) (by simp)) 2 (.int .i64 0) (by simp)
            have HTZ : Hid (Two w4.heap.size (.slice a1 k k1) k F1 (.slice a2 k k2) k F2 WZ) := by show Two _ _ _ _ _ _ _ _; rw [hWZ]; exact TW.out.only (only_set3 _ _ _) (fun q h1 hq => HFAR.out q (Or.inl h1) hq) (fun q h1 hq => HFAR.out q (Or.inr h1) hq)
            have HWZ := Lib.hid hWZ
            have HBZ := Lib.hid hbZ
            clear hWZ hbZ
            refine take_call (i := 9) rfl (by kernel_rfl) (fun K2 hK => ?_)
            go_simp
            rw [← HWZ.out]
            refine hK.out _ _ HBZ.out (fun hHeld2 => ?_)
            clear hK hHeld hHeld2 HWZ o0 o1 o2 z0 z1 z2 l0
            refine wpAnyH_done (by kernel_rfl) ?_ _
            go_wp2_with fail
            go_meet
            case rel => exact ⟨a1, k1, a2, k2, gb, rfl, HFM.out, HTZ.out, HBZ.out⟩
          · obtain ⟨Z18, hZ18⟩ : ∃ Z18, Z18 = Z15.alloc (.cells #[nilS, nilS, .int .i64 0] 30) := ⟨_, rfl⟩
            have hb : Below Z15.heap.size Z15 Z18 := by rw [hZ18]; exact bel_alloc _ _
            obtain ⟨gb, hgb⟩ : ∃ gb, gb = Z15.heap.size := ⟨_, rfl⟩
            have RZ : Hid (Z18.rowIs gb 30 3 (rowL (outL nilS nilS 0))) := by show World.rowIs _ _ _ _ _; rw [hZ18]; exact rowL_alloc' hgb.symm (outL nilS nilS 0) _
            have HGB : Hid (w4.heap.size ≤ gb) := by show _ ≤ _; rw [hgb]; exact hHeld.size
            replace HFA := Lib.hid (HFA.out.below hb)
            go_simp
            rw [← hZ18, ← hgb]
            refine hK.out _ _ (hHeld.trans (hb.mono hHeld.size)) (fun hHeld2 => ?_)
            clear hK hHeld
            have hHeld := hHeld2
            clear hHeld2
            clear hb hZ18 hgb
            refine take_call (i := 7) rfl (by kernel_rfl) (fun K2 hK => ?_)
            go_simp
            refine (HIK.out _ _ _ HFA.out (tab_below HG.out.2 (HB.out.trans (hHeld.mono HB.out.size))) (HG.out.1.below (HB.out.trans (hHeld.mono HB.out.size)))).mono ?_
            rintro e Z19 ⟨⟨v1, v2, rfl, hT⟩, hb⟩
            obtain ⟨a1, k1, e1, _⟩ := hT.one.sl
            obtain ⟨a2, k2, e2, _⟩ := hT.two.sl
            subst e1 e2
            have HFAR : Hid (∀ q, In2 (.slice a1 k k1) (.slice a2 k k2) q → q ≠ gb) := fun q hq => by
              have h0 := RZ.out.lt
              rcases hq with hq | hq
              · have := (World.ownsRow.lt hT.one q hq).1; omega
              · have := (World.ownsRow.lt hT.two q hq).1; omega
            have TW : Hid (Two w4.heap.size (.slice a1 k k1) k F1 (.slice a2 k k2) k F2 Z19) := hT.lower hHeld.size
            replace RZ := Lib.hid (wrow_below RZ.out hb)
            go_wp2_with fail
            refine hK.out _ _ (hHeld.trans (hb.mono hHeld.size)) (fun hHeld2 => ?_)
            clear hK hHeld
            have hHeld := hHeld2
            clear hHeld2
            clear hb hT HFA
            have o0 := RZ.out.cell (i := 0) (by omega)
            have o1 := RZ.out.cell (i := 1) (by omega)
            have o2 := RZ.out.cell (i := 2) (by omega)
            have z0 := RZ.out.frozen 0
            have z1 := RZ.out.frozen 1
            have z2 := RZ.out.frozen 2
            have l0 := RZ.out.lt
            obtain ⟨WZ, hWZ⟩ : ∃ WZ, WZ = ((Z19.setCell ⟨gb, 0, none⟩ (.slice a1 k k1)).setCell ⟨gb, 1, none⟩ (.slice a2 k k2)).setCell ⟨gb, 2, none⟩ (.int .i64 0) := ⟨_, rfl⟩
            have hbZ : Below w4.heap.size w4 WZ := by rw [hWZ]; exact ((hHeld.setCell (p := ⟨gb, 0, none⟩) HGB.out _).setCell (p := ⟨gb, 1, none⟩) HGB.out _).setCell (p := ⟨gb, 2, none⟩) HGB.out _
            have HFM : Hid (WZ.rowIs gb 30 3 (rowL (outL (.slice a1 k k1) (.slice a2 k k2) 0))) := by show World.rowIs _ _ _ _ _; rw [hWZ]; exact rowL_set (rowL_set (rowL_set RZ.out 0 (.slice a1 k k1) (by simp)) 1 (.slice a2 k k2) (by simp)) 2 (.int .i64 0) (by simp)
            have HTZ : Hid (Two w4.heap.size (.slice a1 k k1) k F1 (.slice a2 k k2) k F2 WZ) := by show Two _ _ _ _ _ _ _ _; rw [hWZ]; exact TW.out.only (only_set3 _ _ _) (fun q h1 hq => HFAR.out q (Or.inl h1) hq) (fun q h1 hq => HFAR.out q (Or.inr h1) hq)
            have HWZ := Lib.hid hWZ
            have HBZ := Lib.hid hbZ
            clear hWZ hbZ
            refine take_call (i := 9) rfl (by kernel_rfl) (fun K2 hK => ?_)
            go_simp
            rw [← HWZ.out]
            refine hK.out _ _ HBZ.out (fun hHeld2 => ?_)
            clear hK hHeld hHeld2 HWZ o0 o1 o2 z0 z1 z2 l0
            refine wpAnyH_done (by kernel_rfl) ?_ _
            go_wp2_with fail
            go_meet
            case rel => exact ⟨a1, k1, a2, k2, gb, rfl, HFM.out, HTZ.out, HBZ.out⟩
        · obtain ⟨Z20, hZ20⟩ : ∃ Z20, Z20 = Z14.alloc (.cells #[nilS, nilS, .int .i64 0] 30) := ⟨_, rfl⟩
          have hb : Below Z14.heap.size Z14 Z20 := by rw [hZ20]; exact bel_alloc _ _
          obtain ⟨gb, hgb⟩ : ∃ gb, gb = Z14.heap.size := ⟨_, rfl⟩
          have RZ : Hid (Z20.rowIs gb 30 3 (rowL (outL nilS nilS 0))) := by show World.rowIs _ _ _ _ _; rw [hZ20]; exact rowL_alloc' hgb.symm (outL nilS nilS 0) _
          have HGB : Hid (w4.heap.size ≤ gb) := by show _ ≤ _; rw [hgb]; exact hHeld.size
          have HNE : Hid (gb ≠ gs) := by have := (World.ownsRow.lt HOS.out gs rfl).2; show gb ≠ gs; omega
          replace HOS := Lib.hid (HOS.out.below hb)
          go_simp
          rw [← hZ20, ← hgb]
          refine hK.out _ _ (hHeld.trans (hb.mono hHeld.size)) (fun hHeld2 => ?_)
          clear hK hHeld
          have hHeld := hHeld2
          clear hHeld2
          clear hb hZ20 hgb
          refine take_call (i := 6) rfl (by kernel_rfl) (fun K2 hK => ?_)
          refine lstep_append rfl (.tmp 45) (.tmp 48) 26 rfl w4.heap.size 23 i0 (.float .f64 0) 1 8 Tryd.underlying26 hi hz0 hz1 hz2 rfl (by decide) (.slice (some ⟨gs, 0, none⟩) 0 0) 0 [] rfl HOS.out ⟨g, 0, none⟩ k kk (lst f k) rfl (by rw [lst_len, Nat.mul_one]) ?_ ?_ (by have := HKN.out; have h2 := HN4.out; unfold maxLen; omega) (by have := HKN.out; have h2 := HN4.out; omega) hHeld.size ?_
          · intro j u hj
            have hjn : j < k := by
              rcases Nat.lt_or_ge j k with h | h
              · exact h
              · rw [List.getElem?_eq_none (by rw [lst_len]; exact h)] at hj; cases hj
            rw [lst_at hjn] at hj
            injection hj with hj
            subst hj
            have hkn := HKN.out
            have hcell := HCW.out j (by omega)
            have e1 : ((⟨g, 0, none⟩ : Addr).add j) = ⟨g, j, none⟩ := by rw [Addr.add_lit, Nat.zero_add]
            rw [e1]
            exact (hHeld.cell (p := ⟨g, j, none⟩) (World.block_lt_of_cell? _ _ hcell)).trans hcell
          · intro u hu
            unfold lst at hu
            obtain ⟨i, _, e⟩ := List.mem_map.1 hu
            rw [← e]; rfl
          intro v' Z21 hown hgrow
          have hrow : ∀ q, (Value.slice (some ⟨gs, 0, none⟩) 0 0).ownBlock = some q → w4.heap.size ≤ q := fun q e => (World.ownsRow.lt HOS.out q e).1
          have hbN : Below w4.heap.size w4 Z21 := ⟨hgrow.os.trans hHeld.os, hgrow.tape.trans hHeld.tape, hgrow.output.trans hHeld.output, Nat.le_trans hHeld.size hgrow.size, fun q hq => (hgrow.block q (Nat.lt_of_lt_of_le hq hHeld.size) (fun e => by have := hrow q e.symm; omega)).trans (hHeld.block q hq)⟩
          have hofa : OwnF w4.heap.size v' k f Z21 := by
            have h2 := hown
            rw [Nat.zero_add, List.nil_append] at h2
            exact h2
          obtain ⟨aw, kw, rfl, hA⟩ := hofa.sl
          have HFA := Lib.hid hA
          replace RZ : Hid (Z21.rowIs gb 30 3 (rowL (outL nilS nilS 0))) := RZ.out.of_block (hgrow.block gb RZ.out.lt (fun e => HNE.out (by injection e)))
          refine hK.out _ _ hbN (fun hHeld2 => ?_)
          clear hK hHeld hown hgrow hrow hbN hofa hA HOS HGS
          have hHeld := hHeld2
          clear hHeld2
          simp only [Act.put, List.setIfInBounds_toArray, List.set_cons_zero, List.set_cons_succ]
          clear HNE
          refine take_call (i := 7) rfl (by kernel_rfl) (fun K2 hK => ?_)
          go_simp
          refine (HIK.out _ _ _ HFA.out (tab_below HG.out.2 (HB.out.trans (hHeld.mono HB.out.size))) (HG.out.1.below (HB.out.trans (hHeld.mono HB.out.size)))).mono ?_
          rintro e Z22 ⟨⟨v1, v2, rfl, hT⟩, hb⟩
          obtain ⟨a1, k1, e1, _⟩ := hT.one.sl
          obtain ⟨a2, k2, e2, _⟩ := hT.two.sl
          subst e1 e2
          have HFAR : Hid (∀ q, In2 (.slice a1 k k1) (.slice a2 k k2) q → q ≠ gb) := fun q hq => by
            have h0 := RZ.out.lt
            rcases hq with hq | hq
            · have := (World.ownsRow.lt hT.one q hq).1; omega
            · have := (World.ownsRow.lt hT.two q hq).1; omega
          have TW : Hid (Two w4.heap.size (.slice a1 k k1) k F1 (.slice a2 k k2) k F2 Z22) := hT.lower hHeld.size
          replace RZ := Lib.hid (wrow_below RZ.out hb)
          go_wp2_with fail
          refine hK.out _ _ (hHeld.trans (hb.mono hHeld.size)) (fun hHeld2 => ?_)
          clear hK hHeld
          have hHeld := hHeld2
          clear hHeld2
          clear hb hT HFA
          have o0 := RZ.out.cell (i := 0) (by omega)
          have o1 := RZ.out.cell (i := 1) (by omega)
          have o2 := RZ.out.cell (i := 2) (by omega)
          have z0 := RZ.out.frozen 0
          have z1 := RZ.out.frozen 1
          have z2 := RZ.out.frozen 2
          have l0 := RZ.out.lt
          obtain ⟨WZ, hWZ⟩ : ∃ WZ, WZ = ((Z22.setCell ⟨gb, 0, none⟩ (.slice a1 k k1)).setCell ⟨gb, 1, none⟩ (.slice a2 k k2)).setCell ⟨gb, 2, none⟩ (.int .i64 0) := ⟨_, rfl⟩
          have hbZ : Below w4.heap.size w4 WZ := by rw [hWZ]; exact ((hHeld.setCell (p := ⟨gb, 0, none⟩) HGB.out _).setCell (p := ⟨gb, 1, none⟩) HGB.out _).setCell (p := ⟨gb, 2, none⟩) HGB.out _
          have HFM : Hid (WZ.rowIs gb 30 3 (rowL (outL (.slice a1 k k1) (.slice a2 k k2) 0))) := by show World.rowIs _ _ _ _ _; rw [hWZ]; exact rowL_set (rowL_set (rowL_set RZ.out 0 (.slice a1 k k1) (by simp)) 1 (.slice a2 k k2) (by simp)) 2 (.int .i64 0) (by simp)
          have HTZ : Hid (Two w4.heap.size (.slice a1 k k1) k F1 (.slice a2 k k2) k F2 WZ) := by show Two _ _ _ _ _ _ _ _; rw [hWZ]; exact TW.out.only (only_set3 _ _ _) (fun q h1 hq => HFAR.out q (Or.inl h1) hq) (fun q h1 hq => HFAR.out q (Or.inr h1) hq)
          have HWZ := Lib.hid hWZ
          have HBZ := Lib.hid hbZ
          clear hWZ hbZ
          refine take_call (i := 9) rfl (by kernel_rfl) (fun K2 hK => ?_)
          go_simp
          rw [← HWZ.out]
          refine hK.out _ _ HBZ.out (fun hHeld2 => ?_)
          clear hK hHeld hHeld2 HWZ o0 o1 o2 z0 z1 z2 l0
          refine wpAnyH_done (by kernel_rfl) ?_ _
          go_wp2_with fail
          go_meet
          case rel => exact ⟨a1, k1, a2, k2, gb, rfl, HFM.out, HTZ.out, HBZ.out⟩
      · obtain ⟨Z23, hZ23⟩ : ∃ Z23, Z23 = Z.alloc (.cells #[nilS, nilS, .int .i64 0] 30) := ⟨_, rfl⟩
        have hb : Below Z.heap.size Z Z23 := by rw [hZ23]; exact bel_alloc _ _
        obtain ⟨gb, hgb⟩ : ∃ gb, gb = Z.heap.size := ⟨_, rfl⟩
        have RZ : Hid (Z23.rowIs gb 30 3 (rowL (outL nilS nilS 0))) := by show World.rowIs _ _ _ _ _; rw [hZ23]; exact rowL_alloc' hgb.symm (outL nilS nilS 0) _
        have HGB : Hid (w4.heap.size ≤ gb) := by show _ ≤ _; rw [hgb]; exact hHeld.size
        go_simp
        rw [← hZ23, ← hgb]
        refine hK.out _ _ (hHeld.trans (hb.mono hHeld.size)) (fun hHeld2 => ?_)
        clear hK hHeld
        have hHeld := hHeld2
        clear hHeld2
        clear hb hZ23 hgb
        refine take_call (i := 2) rfl (by kernel_rfl) (fun K2 hK => ?_)
        obtain ⟨Z24, hZ24⟩ : ∃ Z24, Z24 = Z23.alloc (.cells #[] 23) := ⟨_, rfl⟩
        have hb : Below Z23.heap.size Z23 Z24 := by rw [hZ24]; exact bel_alloc _ _
        obtain ⟨gs, hgs⟩ : ∃ gs, gs = Z23.heap.size := ⟨_, rfl⟩
        have HOS : Hid (OwnF w4.heap.size (.slice (some ⟨gs, 0, none⟩) 0 0) 0 f Z24) := by
          show World.ownsRow _ _ _ _ _ _ _
          rw [hZ24, hgs]
          exact ⟨rfl, Or.inr ⟨_, 0, #[], rfl, hHeld.size, blk_alloc_new _ _, Nat.le_refl _, Nat.zero_le _, rfl, rfl⟩⟩
        have HGS : Hid (w4.heap.size ≤ gs) := by show _ ≤ _; rw [hgs]; exact hHeld.size
        have HNE : Hid (gb ≠ gs) := by have := RZ.out.lt; show gb ≠ gs; omega
        replace RZ := Lib.hid (wrow_below RZ.out hb)
        go_simp
        rw [← hZ24, ← hgs]
        refine hK.out _ _ (hHeld.trans (hb.mono hHeld.size)) (fun hHeld2 => ?_)
        clear hK hHeld
        have hHeld := hHeld2
        clear hHeld2
        clear hb hZ24 hgs
        refine take_call (i := 6) rfl (by kernel_rfl) (fun K2 hK => ?_)
        refine lstep_append rfl (.tmp 45) (.tmp 48) 26 rfl w4.heap.size 23 i0 (.float .f64 0) 1 8 Tryd.underlying26 hi hz0 hz1 hz2 rfl (by decide) (.slice (some ⟨gs, 0, none⟩) 0 0) 0 [] rfl HOS.out ⟨g, 0, none⟩ k kk (lst f k) rfl (by rw [lst_len, Nat.mul_one]) ?_ ?_ (by have := HKN.out; have h2 := HN4.out; unfold maxLen; omega) (by have := HKN.out; have h2 := HN4.out; omega) hHeld.size ?_
        · intro j u hj
          have hjn : j < k := by
            rcases Nat.lt_or_ge j k with h | h
            · exact h
            · rw [List.getElem?_eq_none (by rw [lst_len]; exact h)] at hj; cases hj
          rw [lst_at hjn] at hj
          injection hj with hj
          subst hj
          have hkn := HKN.out
          have hcell := HCW.out j (by omega)
          have e1 : ((⟨g, 0, none⟩ : Addr).add j) = ⟨g, j, none⟩ := by rw [Addr.add_lit, Nat.zero_add]
          rw [e1]
          exact (hHeld.cell (p := ⟨g, j, none⟩) (World.block_lt_of_cell? _ _ hcell)).trans hcell
        · intro u hu
          unfold lst at hu
          obtain ⟨i, _, e⟩ := List.mem_map.1 hu
          rw [← e]; rfl
        intro v' Z25 hown hgrow
        have hrow : ∀ q, (Value.slice (some ⟨gs, 0, none⟩) 0 0).ownBlock = some q → w4.heap.size ≤ q := fun q e => (World.ownsRow.lt HOS.out q e).1
        have hbN : Below w4.heap.size w4 Z25 := ⟨hgrow.os.trans hHeld.os, hgrow.tape.trans hHeld.tape, hgrow.output.trans hHeld.output, Nat.le_trans hHeld.size hgrow.size, fun q hq => (hgrow.block q (Nat.lt_of_lt_of_le hq hHeld.size) (fun e => by have := hrow q e.symm; omega)).trans (hHeld.block q hq)⟩
        have hofa : OwnF w4.heap.size v' k f Z25 := by
          have h2 := hown
          rw [Nat.zero_add, List.nil_append] at h2
          exact h2
        obtain ⟨aw, kw, rfl, hA⟩ := hofa.sl
        have HFA := Lib.hid hA
        replace RZ : Hid (Z25.rowIs gb 30 3 (rowL (outL nilS nilS 0))) := RZ.out.of_block (hgrow.block gb RZ.out.lt (fun e => HNE.out (by injection e)))
        refine hK.out _ _ hbN (fun hHeld2 => ?_)
        clear hK hHeld hown hgrow hrow hbN hofa hA HOS HGS
        have hHeld := hHeld2
        clear hHeld2
        simp only [Act.put, List.setIfInBounds_toArray, List.set_cons_zero, List.set_cons_succ]
        clear HNE
        refine take_call (i := 7) rfl (by kernel_rfl) (fun K2 hK => ?_)
        go_simp
        refine (HIK.out _ _ _ HFA.out (tab_below HG.out.2 (HB.out.trans (hHeld.mono HB.out.size))) (HG.out.1.below (HB.out.trans (hHeld.mono HB.out.size)))).mono ?_
        rintro e Z26 ⟨⟨v1, v2, rfl, hT⟩, hb⟩
        obtain ⟨a1, k1, e1, _⟩ := hT.one.sl
        obtain ⟨a2, k2, e2, _⟩ := hT.two.sl
        subst e1 e2
        have HFAR : Hid (∀ q, In2 (.slice a1 k k1) (.slice a2 k k2) q → q ≠ gb) := fun q hq => by
          have h0 := RZ.out.lt
          rcases hq with hq | hq
          · have := (World.ownsRow.lt hT.one q hq).1; omega
          · have := (World.ownsRow.lt hT.two q hq).1; omega
        have TW : Hid (Two w4.heap.size (.slice a1 k k1) k F1 (.slice a2 k k2) k F2 Z26) := hT.lower hHeld.size
        replace RZ := Lib.hid (wrow_below RZ.out hb)
        go_wp2_with fail
        refine hK.out _ _ (hHeld.trans (hb.mono hHeld.size)) (fun hHeld2 => ?_)
        clear hK hHeld
        have hHeld := hHeld2
        clear hHeld2
        clear hb hT HFA
        have o0 := RZ.out.cell (i := 0) (by omega)
        have o1 := RZ.out.cell (i := 1) (by omega)
        have o2 := RZ.out.cell (i := 2) (by omega)
        have z0 := RZ.out.frozen 0
        have z1 := RZ.out.frozen 1
        have z2 := RZ.out.frozen 2
        have l0 := RZ.out.lt
        obtain ⟨WZ, hWZ⟩ : ∃ WZ, WZ = ((Z26.setCell ⟨gb, 0, none⟩ (.slice a1 k k1)).setCell ⟨gb, 1, none⟩ (.slice a2 k k2)).setCell ⟨gb, 2, none⟩ (.int .i64 0) := ⟨_, rfl⟩
        have hbZ : Below w4.heap.size w4 WZ := by rw [hWZ]; exact ((hHeld.setCell (p := ⟨gb, 0, none⟩) HGB.out _).setCell (p := ⟨gb, 1, none⟩) HGB.out _).setCell (p := ⟨gb, 2, none⟩) HGB.out _
        have HFM : Hid (WZ.rowIs gb 30 3 (rowL (outL (.slice a1 k k1) (.slice a2 k k2) 0))) := by show World.rowIs _ _ _ _ _; rw [hWZ]; exact rowL_set (rowL_set (rowL_set RZ.out 0 (.slice a1 k k1) (by simp)) 1 (.slice a2 k k2) (by simp)) 2 (.int .i64 0) (by simp)
        have HTZ : Hid (Two w4.heap.size (.slice a1 k k1) k F1 (.slice a2 k k2) k F2 WZ) := by show Two _ _ _ _ _ _ _ _; rw [hWZ]; exact TW.out.only (only_set3 _ _ _) (fun q h1 hq => HFAR.out q (Or.inl h1) hq) (fun q h1 hq => HFAR.out q (Or.inr h1) hq)
        have HWZ := Lib.hid hWZ
        have HBZ := Lib.hid hbZ
        clear hWZ hbZ
        refine take_call (i := 9) rfl (by kernel_rfl) (fun K2 hK => ?_)
        go_simp
        rw [← HWZ.out]
        refine hK.out _ _ HBZ.out (fun hHeld2 => ?_)
        clear hK hHeld hHeld2 HWZ o0 o1 o2 z0 z1 z2 l0
        refine wpAnyH_done (by kernel_rfl) ?_ _
        go_wp2_with fail
        go_meet
        case rel => exact ⟨a1, k1, a2, k2, gb, rfl, HFM.out, HTZ.out, HBZ.out⟩
    case rest =>
      obtain ⟨ya, yk, yb, yl, g10, rfl, hC⟩ := hcut
      obtain ⟨w5, hw5⟩ : ∃ w5, w5 = wc := ⟨_, rfl⟩
      rw [← hw5] at hC ⊢
      clear hw5
      have hb := hC.out.2.2
      have M10 := Lib.hid hC.out.1
      have T10 := Lib.hid hC.out.2.1
      replace HR5 := Lib.hid (wrow_below HR5.out hb)
      replace HCW : Hid (∀ i, i < n → w5.cell? ⟨g, i, none⟩ = some (.float .f64 (f i))) := fun i hi => (hb.cell (p := ⟨g, i, none⟩) (World.block_lt_of_cell? _ _ (HCW.out i hi))).trans (HCW.out i hi)
      replace HB : Hid (Below w.heap.size w w5) := HB.out.trans (hb.mono HB.out.size)
      replace M8 := Lib.hid (wrow_below M8.out hb)
      replace T8 := Lib.hid (T8.out.below hb)
      clear hb hC
      obtain ⟨⟨x0, x1, x2⟩, _⟩ := row3_cells M8.out
      obtain ⟨⟨y0, y1, y2⟩, _⟩ := row3_cells M10.out
      have hnn : ((n : Int) != (n : Int)) = false := by simp
      go_wp2_with fail
      clear x0 x1 x2 y0 y1 y2
      obtain ⟨_, _, ex1, HX1⟩ := T8.out.one.sl
      injection ex1 with ex1a ex1b ex1c
      subst ex1a ex1c
      obtain ⟨_, _, ex2, HX2⟩ := T8.out.two.sl
      injection ex2 with ex2a ex2b ex2c
      subst ex2a ex2c
      obtain ⟨_, _, ey1, HY1⟩ := T10.out.one.sl
      injection ey1 with ey1a ey1b ey1c
      subst ey1a ey1c
      obtain ⟨_, _, ey2, HY2⟩ := T10.out.two.sl
      injection ey2 with ey2a ey2b ey2c
      subst ey2a ey2c
      clear ex1b ex2b ey1b ey2b
      have HHX1 := Lib.hid HX1
      have HHX2 := Lib.hid HX2
      have HHY1 := Lib.hid HY1
      have HHY2 := Lib.hid HY2
      have hc1 := OwnF.cap T8.out.one
      have hc2 := OwnF.cap T8.out.two
      have hfm := two_form T8.out
      clear HX1 HX2 HY1 HY2
      go_loopw [11] (fun iv wx => ∃ (i q : Nat), i ≤ n ∧ iv = .int .i64 i ∧ Hid (wx = w5.drewN q)) (fun iv _ => n - (intOf iv).toNat)
      case atStart => exact ⟨0, 0, Nat.zero_le _, rfl, rfl⟩
      case round =>
        obtain ⟨i, q, hi1, rfl, hw⟩ := hrel
        have hBq : Below w5.heap.size w5 wr := by rw [hw.out]; exact below_drewN (Below.refl _ _) q
        have M8w := Lib.hid (wrow_below M8.out hBq)
        have R5w := Lib.hid (wrow_below HR5.out hBq)
        obtain ⟨⟨x0, x1, x2⟩, _⟩ := row3_cells M8w.out
        obtain ⟨⟨_, _, _⟩, _, b4, b5⟩ := row6_cells R5w.out
        by_cases hlt : i < n
        · have hltz : (i : Int) < (n : Int) := by omega
          have hi00 : (0 : Int) ≤ (i : Int) := by omega
          obtain ⟨gd, rfl, cd⟩ := (HHX2.out.below hBq).at_ hlt
          have hlo : (FloatKind.f64.format.order (F2 i) l.low == some .lt) = false := by have := (HLIM.out i).1; simpa using this
          have hhi : (FloatKind.f64.format.order (F2 i) l.high == some .gt) = false := by have := (HLIM.out i).2; simpa using this
          clear hBq hfm
          go_wp2_with fail
          go_quiet (fail)
          go_wp2_with fail
          go_roundw
          case rel => exact ⟨i + 1, _, by omega, by go_num, by show _ = _; rw [hw.out]; exact World.drewN_drewN _ _ _⟩
          case measure => simp [intOf]; omega
        · obtain rfl : i = n := by omega
          have M10w := Lib.hid (wrow_below M10.out hBq)
          obtain ⟨⟨y0, y1, y2⟩, _⟩ := row3_cells M10w.out
          have HBq := Lib.hid (HB.out.trans (hBq.mono HB.out.size))
          have HA1 := Lib.hid ((HHX1.out.below hBq).cut hkn)
          have HA2 := Lib.hid ((HHX2.out.below hBq).cut hkn)
          have HC1 := Lib.hid (HHY1.out.below hBq)
          have HC2 := Lib.hid (HHY2.out.below hBq)
          have hkx1 : (k : Int) ≤ (xk : Int) := by omega
          have hkx2 : (k : Int) ≤ (xl : Int) := by omega
          have hkx1' : k ≤ xk := by omega
          have hkx2' : k ≤ xl := by omega
          clear hBq HHX1 HHX2 HHY1 HHY2
          obtain ⟨hf1, hf2⟩ := hfm
          have hk9 : k ≤ 1048576 := by omega
          rcases hf1 with e1 | ⟨g1, k1', e1⟩ <;> rcases hf2 with e2 | ⟨g2, k2', e2⟩ <;> (injection e1 with e1a e1b e1c; injection e2 with e2a e2b e2c; subst e1a; subst e2a)
          all_goals
            go_wp2_with fail
            go_quiet (first | (go_at_call 9; exact Calls.quiet_of (lwFl_same _ _ k _ _ F1 _ (HC1.out.below (below_drewN (Below.refl _ _) _)) (HA1.out.below (below_drewN (Below.refl _ _) _)) hk9)) | (go_at_call 9; exact Calls.quiet_of (lwFl_same _ _ k _ _ F2 _ (HC2.out.below (below_drewN (Below.refl _ _) _)) (HA2.out.below (below_drewN (Below.refl _ _) _)) hk9)))
            go_wp2_with fail
            go_ret
            exact ⟨rfl, below_drewN HBq.out _⟩
end Go.Proofs.YtplghjghecfeoaaDoor
