/-
  Mains with given flows: the program's walk.
-/
import Derived.Test.YtfgmalnkpgloiaaGreatDoorMnT3
import Derived.Test.YtfgmalnkpgloiaaGreatDoorMnRm
import Derived.Test.YtfgmalnkpgloiaaGreatDoorMnEx4
namespace Go.Proofs.YtfgmalnkpgloiaaGreatDoor
open Go.RowKit Go.Deep
/-- What is told of mains with given flows. -/
inductive GvEnd (m : Mn.Mains) (xn : Nat) (f : Nat → Int) (B : Nat) (la : Option Addr) (lk : Nat) (e : Ending) (W : World) : Prop
  | no (c : Int) (s : ByteArray) : (c = 2 ∧ 400 < xn) ∨ (c = 1 ∧ xn ≤ 400 ∧ ¬ (Mn.Right m ∧ xn = m.pn ∧ Mn.AllOk m f)) → e = .returned (.tuple #[rmZ, errV s c]) → GvEnd m xn f B la lk e W
  | ok (gk : Nat) (a : Option Addr) (c : Nat) : xn ≤ 400 → Mn.Right m → xn = m.pn → Mn.AllOk m f → e = .returned (.tuple #[rmV la m.ln lk gk m.pn a c, .nilIface]) → KdBlk gk m W → OwL 2 B m.pn a c f W → B ≤ gk → GvEnd m xn f B la lk e W
set_option maxRecDepth 100000 in
set_option maxHeartbeats 8000000 in
theorem given_any (m : Mn.Mains) (pa : Option Addr) (pk : Nat) (la : Option Addr) (lk : Nat) (wa : Option Addr) (wk : Nat) (xb xn xc : Nat) (f : Nat → Int) (w : World) (h : MnAt m pa la wa w) (hx : ∀ i, i < xn → w.cell? ⟨xb, i, none⟩ = some (.int .i64 (f i))) (hxn : xn ≤ 1048576) :
    Calls Tryz.prog 39 #[mnV m pa pk la lk wa wk, .slice (some ⟨xb, 0, none⟩) xn xc] w fun e w' => GvEnd m xn f w.heap.size la lk e w' ∧ Below w.heap.size w w' := by
  obtain ⟨W0, hW0⟩ : ∃ W0, W0 = (w.alloc (.cells #[.int .i64 m.nodes, .int .i64 m.head, .slice pa m.pn pk, .slice la m.ln lk, .slice wa m.wn wk] 27)).alloc (.cells #[.slice none 0 0, .slice none 0 0, .slice none 0 0] 70) := ⟨_, rfl⟩
  have S0 : Hid (SmS m pa pk la lk wa wk w W0) := by
    show SmS _ _ _ _ _ _ _ _ _
    rw [hW0]
    exact ⟨nrow_below (rowN_alloc w _ _) (nbel_alloc _ _), rowN_alloc' (by simp) _ _, (h.below (nbel_alloc _ _)).below (nbel_alloc _ _), mbel2 _ _ _⟩
  have HW0 := Lib.hid hW0
  have HX : Hid (∀ V, Below w.heap.size w V → ∀ i, i < xn → V.cell? ⟨xb, i, none⟩ = some (.int .i64 (f i))) := fun V hV i hi => (hV.cell (World.block_lt_of_cell? _ _ (hx i hi))).trans (hx i hi)
  clear h hW0 hx
  by_cases h400 : 400 < xn
  · have h4z : (400 : Int) < (xn : Int) := by omega
    have H4 := Lib.hid h400
    clear h400
    go_enter Tryz.func39, Tryz.ntmps39
    go_wp2_with fail
    refine bodyPost_ret (v := .tuple #[rmZ, errV ⟨#[102, 108, 111, 119, 115]⟩ 2]) ?_ rfl ⟨GvEnd.no 2 _ (Or.inl ⟨rfl, H4.out⟩) rfl, ?_⟩
    · simp [results, Tryz.results39, go_sem]
    · exact mbel2 _ _ _
  have h4z : ¬ (400 : Int) < (xn : Int) := by omega
  have H4 : Hid (xn ≤ 400) := by show _ ≤ _; omega
  clear h400
  go_enter Tryz.func39, Tryz.ntmps39
  go_wp2_with fail
  rw [← HW0.out]
  refine (implMains_any m pa pk la lk wa wk _ S0.out.at_).mono ?_
  rintro e w1 ⟨⟨b1, rfl, hb1⟩, hb⟩
  have S1 := Lib.hid (S0.out.below hb)
  have K1 := Lib.hid hb1
  clear hb hb1 S0
  cases b1 with
  | false =>
    have HNR : Hid (¬ (Mn.Right m ∧ xn = m.pn ∧ Mn.AllOk m f)) := fun k => by have := K1.out.2 k.1; cases this
    clear K1
    have D := Lib.hid (S1.out.done (.slice none 0 0) (.slice none 0 0) (.slice none 0 0))
    obtain ⟨⟨x0, x1, x2⟩, z0, z1, z2⟩ := rowN3 S1.out.res
    have lx := S1.out.res.lt
    go_wp2_with fail
    obtain ⟨⟨q0, q1, q2⟩, _⟩ := rowN3 D.out.1
    refine bodyPost_ret (v := .tuple #[rmZ, errV ⟨#[109, 97, 105, 110, 115]⟩ 1]) ?_ rfl ⟨GvEnd.no 1 _ (Or.inr ⟨rfl, H4.out, HNR.out⟩) rfl, D.out.2.1⟩
    simp only [results, Tryz.results39]
    simp [go_sem, q0, q1, q2]
  | true =>
  have HR := Lib.hid (K1.out.1 (by trivial))
  clear K1
  obtain ⟨⟨r0, r1, r2, r3, r4⟩, _⟩ := rowN5 S1.out.row
  by_cases hxp : xn = m.pn
  case neg =>
    have hxz : ((xn : Int) != (m.pn : Int)) = true := by simp; omega
    have HNR : Hid (¬ (Mn.Right m ∧ xn = m.pn ∧ Mn.AllOk m f)) := fun k => hxp k.2.1
    clear hxp
    have D := Lib.hid (S1.out.done (.slice none 0 0) (.slice none 0 0) (.slice none 0 0))
    obtain ⟨⟨x0, x1, x2⟩, z0, z1, z2⟩ := rowN3 S1.out.res
    have lx := S1.out.res.lt
    go_wp2_with fail
    obtain ⟨⟨q0, q1, q2⟩, _⟩ := rowN3 D.out.1
    refine bodyPost_ret (v := .tuple #[rmZ, errV ⟨#[97, 115, 32, 109, 97, 110, 121, 32, 102, 108, 111, 119, 115, 32, 97, 115, 32, 112, 105, 112, 101, 115]⟩ 1]) ?_ rfl ⟨GvEnd.no 1 _ (Or.inr ⟨rfl, H4.out, HNR.out⟩) rfl, D.out.2.1⟩
    simp only [results, Tryz.results39]
    simp [go_sem, q0, q1, q2]
  case pos =>
  subst hxp
  have hxz : ((m.pn : Int) != (m.pn : Int)) = false := by simp
  have HX1 : Hid (∀ i, i < m.pn → w1.cell? ⟨xb, i, none⟩ = some (.int .i64 (f i))) := HX.out _ S1.out.old
  go_wp2_with fail
  clear r0 r1 r2 r3 r4
  go_cut [6] (fun p V => ∃ gb gk a2 c2, p = .pointer (some ⟨gb, 0, none⟩) ∧ Hid (V.rowIs gb 70 3 (rowN [.slice la m.ln lk, .slice (some ⟨gk, 0, none⟩) m.pn m.pn, .slice a2 m.pn c2]) ∧ KdBlk gk m V ∧ OwL 2 w1.heap.size m.pn a2 c2 f V ∧ Below w1.heap.size w1 V ∧ w1.heap.size ≤ gk ∧ w1.heap.size ≤ gb))
  case first =>
    refine wp_region_held_drew (S := fun V => Below w1.heap.size w1 V) (by kernel_rfl) (Below.refl _ _).drew (fun hHeld => ?_)
    obtain ⟨Z, hZ⟩ : ∃ Z, Z = w1.drew := ⟨_, rfl⟩
    rw [← hZ] at hHeld ⊢
    clear hZ
    refine take_do (i := 0) (v := (.pointer (some ⟨w.heap.size, 3, none⟩))) rfl (by kernel_rfl) (by kernel_rfl) (by kernel_rfl) (fun _ _ _ h => h) (by rfl) ?_ (by assumption) ?_
    · intro w hSw
      skip
      go_simp
    simp only [Act.put, List.setIfInBounds_toArray, List.set_cons_zero, List.set_cons_succ]
    refine take_do (i := 1) (v := (.slice la m.ln lk)) rfl (by kernel_rfl) (by kernel_rfl) (by kernel_rfl) (fun _ _ _ h => h) (by rfl) ?_ (by assumption) ?_
    · intro w hSw
      obtain ⟨⟨r0, r1, r2, r3, r4⟩, _⟩ := rowN5 (nrow_below S1.out.row hSw)
      go_simp
    simp only [Act.put, List.setIfInBounds_toArray, List.set_cons_zero, List.set_cons_succ]
    refine take_do (i := 2) (v := (.pointer (some ⟨w.heap.size, 2, none⟩))) rfl (by kernel_rfl) (by kernel_rfl) (by kernel_rfl) (fun _ _ _ h => h) (by rfl) ?_ (by assumption) ?_
    · intro w hSw
      skip
      go_simp
    simp only [Act.put, List.setIfInBounds_toArray, List.set_cons_zero, List.set_cons_succ]
    refine take_do (i := 3) (v := (.slice pa m.pn pk)) rfl (by kernel_rfl) (by kernel_rfl) (by kernel_rfl) (fun _ _ _ h => h) (by rfl) ?_ (by assumption) ?_
    · intro w hSw
      obtain ⟨⟨r0, r1, r2, r3, r4⟩, _⟩ := rowN5 (nrow_below S1.out.row hSw)
      go_simp
    simp only [Act.put, List.setIfInBounds_toArray, List.set_cons_zero, List.set_cons_succ]
    refine take_do (i := 5) (v := (.slice (some ⟨xb, 0, none⟩) m.pn xc)) rfl (by kernel_rfl) (by kernel_rfl) (by kernel_rfl) (fun _ _ _ h => h) (by rfl) ?_ (by assumption) ?_
    · intro w hSw
      skip
      go_simp
    simp only [Act.put, List.setIfInBounds_toArray, List.set_cons_zero, List.set_cons_succ]
    refine wpAnyH_ready (rs := [4, 8]) (by kernel_rfl) (by simp) (AllReadyH.cons (at_drop (i := 4) rfl) (fun K2 hK => ?_) (AllReadyH.cons (at_drop (i := 8) rfl) (fun K2 hK => ?_) (AllReadyH.nil)))
    · go_simp
      refine (kindsOf_any m pa pk _ (S1.out.at_.p.below hHeld) HR.out).mono ?_
      rintro e Z1 ⟨⟨he, hkd⟩, hb⟩
      obtain ⟨gk, hgk⟩ : ∃ gk, gk = Z.heap.size := ⟨_, rfl⟩
      rw [← hgk] at hkd he
      subst he
      have KD := Lib.hid hkd
      have HGK : Hid (w1.heap.size ≤ gk) := by show _ ≤ _; rw [hgk]; exact hHeld.size
      clear hkd hgk
      go_wp2_with fail
      refine hK.out _ _ (hHeld.trans (hb.mono hHeld.size)) (fun hHeld2 => ?_)
      clear hK hHeld
      have hHeld := hHeld2
      clear hHeld2
      clear hb
      refine wpAnyH_ready (rs := [6, 8]) (by kernel_rfl) (by simp) (AllReadyH.cons (at_drop (i := 6) rfl) (fun K2 hK => ?_) (AllReadyH.cons (at_drop (i := 8) rfl) (fun K2 hK => ?_) (AllReadyH.nil)))
      · go_simp
        refine (mclone_any xb m.pn xc f _ (fun j hj => (hHeld.cell (World.block_lt_of_cell? _ _ (HX1.out j hj))).trans (HX1.out j hj)) (by have := HR.out.pn; omega)).mono ?_
        rintro e Z2 ⟨⟨a2, c2, rfl, hcl⟩, hb⟩
        have CL : Hid (OwL 2 w1.heap.size m.pn a2 c2 f Z2) := hcl.low hHeld.size
        replace KD := Lib.hid (KD.out.below hb)
        clear hcl
        go_wp2_with fail
        refine hK.out _ _ (hHeld.trans (hb.mono hHeld.size)) (fun hHeld2 => ?_)
        clear hK hHeld
        have hHeld := hHeld2
        clear hHeld2
        clear hb
        refine take_do (i := 7) (v := (.agg #[.slice la m.ln lk, .slice (some ⟨gk, 0, none⟩) m.pn m.pn, .slice a2 m.pn c2])) rfl (by kernel_rfl) (by kernel_rfl) (by kernel_rfl) (fun _ _ _ h => h) (by rfl) ?_ (by assumption) ?_
        · intro w hSw
          skip
          go_simp
        simp only [Act.put, List.setIfInBounds_toArray, List.set_cons_zero, List.set_cons_succ]
        refine take_call (i := 8) rfl (by kernel_rfl) (fun K2 hK => ?_)
        obtain ⟨Z3, hZ3⟩ : ∃ Z3, Z3 = Z2.alloc (.cells #[.slice none 0 0, .slice none 0 0, .slice none 0 0] 70) := ⟨_, rfl⟩
        have hb : Below Z2.heap.size Z2 Z3 := by rw [hZ3]; exact nbel_alloc _ _
        obtain ⟨gb, hgb⟩ : ∃ gb, gb = Z2.heap.size := ⟨_, rfl⟩
        have RZ : Hid (Z3.rowIs gb 70 3 (rowN [.slice none 0 0, .slice none 0 0, .slice none 0 0])) := by show World.rowIs _ _ _ _ _; rw [hZ3, hgb]; exact rowN_alloc _ _ _
        have HGB : Hid (w1.heap.size ≤ gb) := by show _ ≤ _; rw [hgb]; exact hHeld.size
        have HNK : Hid (gk ≠ gb) := by show _ ≠ _; have := KD.out.lt; omega
        replace KD := Lib.hid (KD.out.below hb)
        have HNC : Hid (∀ k, a2 = some ⟨k, 0, none⟩ → k ≠ gb) := fun k e => by have := (CL.out.lt e).2; omega
        replace CL := Lib.hid (CL.out.below hb)
        go_simp
        rw [← hZ3, ← hgb]
        refine hK.out _ _ (hHeld.trans (hb.mono hHeld.size)) (fun hHeld2 => ?_)
        clear hK hHeld
        have hHeld := hHeld2
        clear hHeld2
        clear hb
        clear hZ3 hgb
        have o0 := RZ.out.cell (i := 0) (by omega)
        have z0 := RZ.out.frozen 0
        have o1 := RZ.out.cell (i := 1) (by omega)
        have z1 := RZ.out.frozen 1
        have o2 := RZ.out.cell (i := 2) (by omega)
        have z2 := RZ.out.frozen 2
        have l0 := RZ.out.lt
        obtain ⟨WZ, hWZ⟩ : ∃ WZ, WZ = (((Z3.setCell ⟨gb, 0, none⟩ (.slice la m.ln lk)).setCell ⟨gb, 1, none⟩ (.slice (some ⟨gk, 0, none⟩) m.pn m.pn)).setCell ⟨gb, 2, none⟩ (.slice a2 m.pn c2)) := ⟨_, rfl⟩
        have hbZ : Below w1.heap.size w1 WZ := by rw [hWZ]; exact (((hHeld.setCell (p := ⟨gb, 0, none⟩) HGB.out _).setCell (p := ⟨gb, 1, none⟩) HGB.out _).setCell (p := ⟨gb, 2, none⟩) HGB.out _)
        have HFM : Hid (WZ.rowIs gb 70 3 (rowN [.slice la m.ln lk, .slice (some ⟨gk, 0, none⟩) m.pn m.pn, .slice a2 m.pn c2])) := by show World.rowIs _ _ _ _ _; rw [hWZ]; exact (rowN_put (rowN_put (rowN_put RZ.out 0 (.slice la m.ln lk) (by simp)) 1 (.slice (some ⟨gk, 0, none⟩) m.pn m.pn) (by simp)) 2 (.slice a2 m.pn c2) (by simp))
        have HKD : Hid (KdBlk gk m WZ) := by show KdPart _ _ _ _; rw [hWZ]; exact (((KD.out.block (Below.heap_setCell _ _ _ _ HNK.out)).block (Below.heap_setCell _ _ _ _ HNK.out)).block (Below.heap_setCell _ _ _ _ HNK.out))
        have HCL : Hid (OwL 2 w1.heap.size m.pn a2 c2 f WZ) := by
          show OwL _ _ _ _ _ _ _
          rw [hWZ]
          refine CL.out.keep (fun k e hk => ?_)
          have ne := HNC.out k e
          rw [Below.heap_setCell _ _ _ _ ne, Below.heap_setCell _ _ _ _ ne, Below.heap_setCell _ _ _ _ ne]
        have HWZ := Lib.hid hWZ
        have HBZ := Lib.hid hbZ
        clear hWZ hbZ
        refine take_call (i := 9) rfl (by kernel_rfl) (fun K2 hK => ?_)
        go_simp
        rw [← HWZ.out]
        refine hK.out _ _ HBZ.out (fun hHeld2 => ?_)
        clear hK hHeld hHeld2 HWZ o0 z0 o1 z1 o2 z2 l0
        refine wpAnyH_done (by kernel_rfl) ?_ _
        go_wp2_with fail
        go_meet
        case rel => exact ⟨gb, gk, a2, c2, rfl, HFM.out, HKD.out, HCL.out, HBZ.out, HGK.out, HGB.out⟩
      · obtain ⟨Z4, hZ4⟩ : ∃ Z4, Z4 = Z1.alloc (.cells #[.slice none 0 0, .slice none 0 0, .slice none 0 0] 70) := ⟨_, rfl⟩
        have hb : Below Z1.heap.size Z1 Z4 := by rw [hZ4]; exact nbel_alloc _ _
        obtain ⟨gb, hgb⟩ : ∃ gb, gb = Z1.heap.size := ⟨_, rfl⟩
        have RZ : Hid (Z4.rowIs gb 70 3 (rowN [.slice none 0 0, .slice none 0 0, .slice none 0 0])) := by show World.rowIs _ _ _ _ _; rw [hZ4, hgb]; exact rowN_alloc _ _ _
        have HGB : Hid (w1.heap.size ≤ gb) := by show _ ≤ _; rw [hgb]; exact hHeld.size
        have HNK : Hid (gk ≠ gb) := by show _ ≠ _; have := KD.out.lt; omega
        replace KD := Lib.hid (KD.out.below hb)
        go_simp
        rw [← hZ4, ← hgb]
        refine hK.out _ _ (hHeld.trans (hb.mono hHeld.size)) (fun hHeld2 => ?_)
        clear hK hHeld
        have hHeld := hHeld2
        clear hHeld2
        clear hb
        clear hZ4 hgb
        refine take_call (i := 6) rfl (by kernel_rfl) (fun K2 hK => ?_)
        go_simp
        refine (mclone_any xb m.pn xc f _ (fun j hj => (hHeld.cell (World.block_lt_of_cell? _ _ (HX1.out j hj))).trans (HX1.out j hj)) (by have := HR.out.pn; omega)).mono ?_
        rintro e Z5 ⟨⟨a2, c2, rfl, hcl⟩, hb⟩
        have CL : Hid (OwL 2 w1.heap.size m.pn a2 c2 f Z5) := hcl.low hHeld.size
        have HNC : Hid (∀ k, a2 = some ⟨k, 0, none⟩ → k ≠ gb) := fun k e => by have h1 := (hcl.lt e).1; have h2 := RZ.out.lt; omega
        replace RZ := Lib.hid (nrow_below RZ.out hb)
        replace KD := Lib.hid (KD.out.below hb)
        clear hcl
        go_wp2_with fail
        refine hK.out _ _ (hHeld.trans (hb.mono hHeld.size)) (fun hHeld2 => ?_)
        clear hK hHeld
        have hHeld := hHeld2
        clear hHeld2
        clear hb
        refine take_do (i := 7) (v := (.agg #[.slice la m.ln lk, .slice (some ⟨gk, 0, none⟩) m.pn m.pn, .slice a2 m.pn c2])) rfl (by kernel_rfl) (by kernel_rfl) (by kernel_rfl) (fun _ _ _ h => h) (by rfl) ?_ (by assumption) ?_
        · intro w hSw
          skip
          go_simp
        simp only [Act.put, List.setIfInBounds_toArray, List.set_cons_zero, List.set_cons_succ]
        have o0 := RZ.out.cell (i := 0) (by omega)
        have z0 := RZ.out.frozen 0
        have o1 := RZ.out.cell (i := 1) (by omega)
        have z1 := RZ.out.frozen 1
        have o2 := RZ.out.cell (i := 2) (by omega)
        have z2 := RZ.out.frozen 2
        have l0 := RZ.out.lt
        obtain ⟨WZ, hWZ⟩ : ∃ WZ, WZ = (((Z5.setCell ⟨gb, 0, none⟩ (.slice la m.ln lk)).setCell ⟨gb, 1, none⟩ (.slice (some ⟨gk, 0, none⟩) m.pn m.pn)).setCell ⟨gb, 2, none⟩ (.slice a2 m.pn c2)) := ⟨_, rfl⟩
        have hbZ : Below w1.heap.size w1 WZ := by rw [hWZ]; exact (((hHeld.setCell (p := ⟨gb, 0, none⟩) HGB.out _).setCell (p := ⟨gb, 1, none⟩) HGB.out _).setCell (p := ⟨gb, 2, none⟩) HGB.out _)
        have HFM : Hid (WZ.rowIs gb 70 3 (rowN [.slice la m.ln lk, .slice (some ⟨gk, 0, none⟩) m.pn m.pn, .slice a2 m.pn c2])) := by show World.rowIs _ _ _ _ _; rw [hWZ]; exact (rowN_put (rowN_put (rowN_put RZ.out 0 (.slice la m.ln lk) (by simp)) 1 (.slice (some ⟨gk, 0, none⟩) m.pn m.pn) (by simp)) 2 (.slice a2 m.pn c2) (by simp))
        have HKD : Hid (KdBlk gk m WZ) := by show KdPart _ _ _ _; rw [hWZ]; exact (((KD.out.block (Below.heap_setCell _ _ _ _ HNK.out)).block (Below.heap_setCell _ _ _ _ HNK.out)).block (Below.heap_setCell _ _ _ _ HNK.out))
        have HCL : Hid (OwL 2 w1.heap.size m.pn a2 c2 f WZ) := by
          show OwL _ _ _ _ _ _ _
          rw [hWZ]
          refine CL.out.keep (fun k e hk => ?_)
          have ne := HNC.out k e
          rw [Below.heap_setCell _ _ _ _ ne, Below.heap_setCell _ _ _ _ ne, Below.heap_setCell _ _ _ _ ne]
        have HWZ := Lib.hid hWZ
        have HBZ := Lib.hid hbZ
        clear hWZ hbZ
        refine take_call (i := 9) rfl (by kernel_rfl) (fun K2 hK => ?_)
        go_simp
        rw [← HWZ.out]
        refine hK.out _ _ HBZ.out (fun hHeld2 => ?_)
        clear hK hHeld hHeld2 HWZ o0 z0 o1 z1 o2 z2 l0
        refine wpAnyH_done (by kernel_rfl) ?_ _
        go_wp2_with fail
        go_meet
        case rel => exact ⟨gb, gk, a2, c2, rfl, HFM.out, HKD.out, HCL.out, HBZ.out, HGK.out, HGB.out⟩
    · obtain ⟨Z6, hZ6⟩ : ∃ Z6, Z6 = Z.alloc (.cells #[.slice none 0 0, .slice none 0 0, .slice none 0 0] 70) := ⟨_, rfl⟩
      have hb : Below Z.heap.size Z Z6 := by rw [hZ6]; exact nbel_alloc _ _
      obtain ⟨gb, hgb⟩ : ∃ gb, gb = Z.heap.size := ⟨_, rfl⟩
      have RZ : Hid (Z6.rowIs gb 70 3 (rowN [.slice none 0 0, .slice none 0 0, .slice none 0 0])) := by show World.rowIs _ _ _ _ _; rw [hZ6, hgb]; exact rowN_alloc _ _ _
      have HGB : Hid (w1.heap.size ≤ gb) := by show _ ≤ _; rw [hgb]; exact hHeld.size
      go_simp
      rw [← hZ6, ← hgb]
      refine hK.out _ _ (hHeld.trans (hb.mono hHeld.size)) (fun hHeld2 => ?_)
      clear hK hHeld
      have hHeld := hHeld2
      clear hHeld2
      clear hb
      clear hZ6 hgb
      refine take_call (i := 4) rfl (by kernel_rfl) (fun K2 hK => ?_)
      go_simp
      refine (kindsOf_any m pa pk _ (S1.out.at_.p.below hHeld) HR.out).mono ?_
      rintro e Z7 ⟨⟨he, hkd⟩, hb⟩
      obtain ⟨gk, hgk⟩ : ∃ gk, gk = Z6.heap.size := ⟨_, rfl⟩
      rw [← hgk] at hkd he
      subst he
      have KD := Lib.hid hkd
      have HGK : Hid (w1.heap.size ≤ gk) := by show _ ≤ _; rw [hgk]; exact hHeld.size
      have HNK : Hid (gk ≠ gb) := by show _ ≠ _; have := RZ.out.lt; omega
      replace RZ := Lib.hid (nrow_below RZ.out hb)
      clear hkd hgk
      go_wp2_with fail
      refine hK.out _ _ (hHeld.trans (hb.mono hHeld.size)) (fun hHeld2 => ?_)
      clear hK hHeld
      have hHeld := hHeld2
      clear hHeld2
      clear hb
      refine take_call (i := 6) rfl (by kernel_rfl) (fun K2 hK => ?_)
      go_simp
      refine (mclone_any xb m.pn xc f _ (fun j hj => (hHeld.cell (World.block_lt_of_cell? _ _ (HX1.out j hj))).trans (HX1.out j hj)) (by have := HR.out.pn; omega)).mono ?_
      rintro e Z8 ⟨⟨a2, c2, rfl, hcl⟩, hb⟩
      have CL : Hid (OwL 2 w1.heap.size m.pn a2 c2 f Z8) := hcl.low hHeld.size
      have HNC : Hid (∀ k, a2 = some ⟨k, 0, none⟩ → k ≠ gb) := fun k e => by have h1 := (hcl.lt e).1; have h2 := RZ.out.lt; omega
      replace RZ := Lib.hid (nrow_below RZ.out hb)
      replace KD := Lib.hid (KD.out.below hb)
      clear hcl
      go_wp2_with fail
      refine hK.out _ _ (hHeld.trans (hb.mono hHeld.size)) (fun hHeld2 => ?_)
      clear hK hHeld
      have hHeld := hHeld2
      clear hHeld2
      clear hb
      refine take_do (i := 7) (v := (.agg #[.slice la m.ln lk, .slice (some ⟨gk, 0, none⟩) m.pn m.pn, .slice a2 m.pn c2])) rfl (by kernel_rfl) (by kernel_rfl) (by kernel_rfl) (fun _ _ _ h => h) (by rfl) ?_ (by assumption) ?_
      · intro w hSw
        skip
        go_simp
      simp only [Act.put, List.setIfInBounds_toArray, List.set_cons_zero, List.set_cons_succ]
      have o0 := RZ.out.cell (i := 0) (by omega)
      have z0 := RZ.out.frozen 0
      have o1 := RZ.out.cell (i := 1) (by omega)
      have z1 := RZ.out.frozen 1
      have o2 := RZ.out.cell (i := 2) (by omega)
      have z2 := RZ.out.frozen 2
      have l0 := RZ.out.lt
      obtain ⟨WZ, hWZ⟩ : ∃ WZ, WZ = (((Z8.setCell ⟨gb, 0, none⟩ (.slice la m.ln lk)).setCell ⟨gb, 1, none⟩ (.slice (some ⟨gk, 0, none⟩) m.pn m.pn)).setCell ⟨gb, 2, none⟩ (.slice a2 m.pn c2)) := ⟨_, rfl⟩
      have hbZ : Below w1.heap.size w1 WZ := by rw [hWZ]; exact (((hHeld.setCell (p := ⟨gb, 0, none⟩) HGB.out _).setCell (p := ⟨gb, 1, none⟩) HGB.out _).setCell (p := ⟨gb, 2, none⟩) HGB.out _)
      have HFM : Hid (WZ.rowIs gb 70 3 (rowN [.slice la m.ln lk, .slice (some ⟨gk, 0, none⟩) m.pn m.pn, .slice a2 m.pn c2])) := by show World.rowIs _ _ _ _ _; rw [hWZ]; exact (rowN_put (rowN_put (rowN_put RZ.out 0 (.slice la m.ln lk) (by simp)) 1 (.slice (some ⟨gk, 0, none⟩) m.pn m.pn) (by simp)) 2 (.slice a2 m.pn c2) (by simp))
      have HKD : Hid (KdBlk gk m WZ) := by show KdPart _ _ _ _; rw [hWZ]; exact (((KD.out.block (Below.heap_setCell _ _ _ _ HNK.out)).block (Below.heap_setCell _ _ _ _ HNK.out)).block (Below.heap_setCell _ _ _ _ HNK.out))
      have HCL : Hid (OwL 2 w1.heap.size m.pn a2 c2 f WZ) := by
        show OwL _ _ _ _ _ _ _
        rw [hWZ]
        refine CL.out.keep (fun k e hk => ?_)
        have ne := HNC.out k e
        rw [Below.heap_setCell _ _ _ _ ne, Below.heap_setCell _ _ _ _ ne, Below.heap_setCell _ _ _ _ ne]
      have HWZ := Lib.hid hWZ
      have HBZ := Lib.hid hbZ
      clear hWZ hbZ
      refine take_call (i := 9) rfl (by kernel_rfl) (fun K2 hK => ?_)
      go_simp
      rw [← HWZ.out]
      refine hK.out _ _ HBZ.out (fun hHeld2 => ?_)
      clear hK hHeld hHeld2 HWZ o0 z0 o1 z1 o2 z2 l0
      refine wpAnyH_done (by kernel_rfl) ?_ _
      go_wp2_with fail
      go_meet
      case rel => exact ⟨gb, gk, a2, c2, rfl, HFM.out, HKD.out, HCL.out, HBZ.out, HGK.out, HGB.out⟩
  case rest =>
    obtain ⟨gb, gk, a2, c2, rfl, C⟩ := hcut
    obtain ⟨⟨x0, x1, x2⟩, _⟩ := rowN3 C.out.1
    have S6 := Lib.hid (S1.out.below C.out.2.2.2.1)
    go_wp2_with fail
    refine (wrongFlow_any m la m.ln lk gk a2 c2 f _ C.out.2.1 C.out.2.2.1.at_ HR.out).mono ?_
    rintro e w7 ⟨⟨z, rfl, hwr⟩, hb⟩
    have HWR := Lib.hid hwr
    obtain ⟨hzb1, hzb2⟩ := hwr.pos HR.out.pn
    have S7 := Lib.hid (S6.out.below hb)
    have C7 : Hid (w7.rowIs gb 70 3 (rowN [.slice la m.ln lk, .slice (some ⟨gk, 0, none⟩) m.pn m.pn, .slice a2 m.pn c2]) ∧ KdBlk gk m w7 ∧ OwL 2 w1.heap.size m.pn a2 c2 f w7 ∧ w1.heap.size ≤ gk ∧ w1.heap.size ≤ gb) := ⟨nrow_below C.out.1 hb, C.out.2.1.below hb, C.out.2.2.1.below hb, C.out.2.2.2.2.1, C.out.2.2.2.2.2⟩
    have LZ : Hid (w.heap.size + 1 < w1.heap.size) := S1.out.res.lt
    clear hwr hb C S6 x0 x1 x2 S1
    by_cases hz0 : 0 ≤ z
    · have HNR : Hid (¬ Mn.AllOk m f) := fun k => by
        rcases HWR.out with ⟨i, h1, _, h3, _⟩ | ⟨h1, _⟩
        · exact h3 (k i h1)
        · omega
      have D := Lib.hid (S7.out.done (.slice none 0 0) (.slice none 0 0) (.slice none 0 0))
      obtain ⟨⟨x0, x1, x2⟩, z0, z1, z2⟩ := rowN3 S7.out.res
      have lx := S7.out.res.lt
      go_wp2_with fail
      obtain ⟨⟨q0, q1, q2⟩, _⟩ := rowN3 D.out.1
      refine bodyPost_ret (v := .tuple #[rmZ, errV ⟨#[97, 32, 102, 108, 111, 119]⟩ 1]) ?_ rfl ⟨GvEnd.no 1 _ (Or.inr ⟨rfl, H4.out, (fun k => HNR.out k.2.2)⟩) rfl, D.out.2.1⟩
      simp only [results, Tryz.results39]
      simp [go_sem, q0, q1, q2]
    · have HO : Hid (Mn.AllOk m f) := by
        rcases HWR.out with ⟨i, _, h2, _⟩ | ⟨_, h2⟩
        · omega
        · exact h2
      have D := Lib.hid (S7.out.done (.slice la m.ln lk) (.slice (some ⟨gk, 0, none⟩) m.pn m.pn) (.slice a2 m.pn c2))
      obtain ⟨⟨x0, x1, x2⟩, z0, z1, z2⟩ := rowN3 S7.out.res
      obtain ⟨⟨y0, y1, y2⟩, _⟩ := rowN3 C7.out.1
      have lx := S7.out.res.lt
      have lz := LZ.out
      have lg := C7.out.2.2.2.2
      have hne : ¬ gb = w.heap.size + 1 := by omega
      clear lz lg
      go_wp2_with fail
      obtain ⟨⟨q0, q1, q2⟩, _⟩ := rowN3 D.out.1
      have lz := LZ.out
      refine bodyPost_ret (v := .tuple #[rmV la m.ln lk gk m.pn a2 c2, .nilIface]) ?_ rfl ⟨GvEnd.ok gk a2 c2 H4.out HR.out rfl HO.out rfl (C7.out.2.1.block (D.out.2.2 _ (by have := C7.out.2.2.2.1; omega))) ((C7.out.2.2.1.keep (fun k e hk => D.out.2.2 k (by have := (C7.out.2.2.1.lt e).1; omega))).low (by omega)) (by have := C7.out.2.2.2.1; omega), D.out.2.1⟩
      simp only [results, Tryz.results39]
      simp [go_sem, q0, q1, q2]
end Go.Proofs.YtfgmalnkpgloiaaGreatDoor
