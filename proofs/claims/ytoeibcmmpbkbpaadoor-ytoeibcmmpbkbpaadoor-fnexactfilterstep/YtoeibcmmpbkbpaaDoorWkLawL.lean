/-
  The law FnExactFilterStep.
-/
import Derived.Test.YtoeibcmmpbkbpaaDoorWkLawR
import Derived.Test.YtoeibcmmpbkbpaaDoorWkFl2
import Derived.Test.YtoeibcmmpbkbpaaDoorWkFl4
namespace Go.Proofs.YtoeibcmmpbkbpaaDoor
open Go.RowKit Go.Deep

theorem setAll_size (g : Nat) : ∀ (l : List Value) (i : Nat) (w : World), (setAll g i l w).heap.size = w.heap.size
  | [], _, _ => rfl
  | x :: l, i, w => (setAll_size g l (i + 1) (w.setCell ⟨g, i, none⟩ x)).trans (by simp)
theorem Wk.step_n (fl : Wk.Fl) (b : Wk.Bt) : (Wk.step fl b).clean.n ≤ b.n ∧ (Wk.step fl b).waste.n ≤ b.n := by
  unfold Wk.step
  by_cases h1 : Wk.StepOk fl b
  · rw [if_pos h1]
    by_cases h2 : 1000000000 < fl.held + Wk.caught fl b
    · rw [if_pos h2]; exact ⟨Nat.zero_le _, Nat.zero_le _⟩
    · rw [if_neg h2]
      unfold Wk.filt
      by_cases h3 : Wk.Washes fl b
      · rw [if_pos h3]; exact ⟨Nat.le_refl _, Nat.le_refl _⟩
      · rw [if_neg h3]; exact ⟨Nat.le_refl _, Nat.le_refl _⟩
  · rw [if_neg h1]; exact ⟨Nat.zero_le _, Nat.zero_le _⟩
set_option maxRecDepth 100000 in
set_option maxHeartbeats 16000000 in
theorem filter_law_of (hs : ∀ (fl : Wk.Fl) (b : Wk.Bt) (a : Option Addr) (k : Nat) (w : World), IntsAt a b.n b.f w → b.n ≤ 4194304 → Calls Tryd.prog 49 #[flV fl, btV b.wt a b.n k] w fun e w' => FoEnd w.heap.size (Wk.step fl b) e w' ∧ Below w.heap.size w w') (w : World) (fl : Wk.Fl) (wt : Int) (a : Option Addr) (n k : Nat) (f : Nat → Int) (h1 : IntsIn a n f w) (hm1 : n ≤ 9223372036854775807) (hg : Et w) :
    Calls Tryd.prog 10 #[flV fl, btV wt a n k] w fun e w' => e = .returned (.bool true) ∧ Below w.heap.size w w' := by
  have H1 := Lib.hid h1
  have HET := Lib.hid hg
  obtain ⟨W, hW⟩ : ∃ W, W = (w.alloc (.cells #[.int .i64 fl.held, .int .i64 fl.most, .int .i64 fl.catch_, .int .i64 fl.wash] 85)).alloc (.cells #[.int .i64 wt, .slice a n k] 77) := ⟨_, rfl⟩
  have HB : Hid (Below w.heap.size w W) := by show Below _ _ _; rw [hW]; exact ((Below.refl _ _).alloc (Nat.le_refl _) _).alloc (by simp) _
  have HRF : Hid (W.rowIs w.heap.size 85 4 (rowL (flL fl))) := by show World.rowIs _ _ _ _ _; rw [hW]; exact wrow_below (rowL_alloc w (flL fl) _) (bel_alloc _ _)
  have HR : Hid (W.rowIs (w.heap.size + 1) 77 2 (r2 (.int .i64 wt) (.slice a n k))) := by show World.rowIs _ _ _ _ _; rw [hW]; exact row2' (by simp) _ _ _
  have HW := Lib.hid hW
  have HM1 := Lib.hid hm1
  obtain ⟨A, hA⟩ : ∃ A, A = Wk.step fl ⟨wt, n, f⟩ := ⟨_, rfl⟩
  have hAn : A.clean.n ≤ n ∧ A.waste.n ≤ n := by rw [hA]; exact Wk.step_n fl ⟨wt, n, f⟩
  have SPEC : ∀ a' k' W, IntsAt a' n f W → n ≤ 1048576 → Calls Tryd.prog 49 #[flV fl, btV wt a' n k'] W fun e w' => FoEnd W.heap.size A e w' ∧ Below W.heap.size W w' := fun a' k' W h hn => by rw [hA]; exact hs fl ⟨wt, n, f⟩ a' k' W h (by show n ≤ _; omega)
  have IMPL : ∀ a' k' W, IntsAt a' n f W → n ≤ 1048576 → Et W → Calls Tryd.prog 51 #[flV fl, btV wt a' n k'] W fun e w' => FoEnd W.heap.size A e w' ∧ Below W.heap.size W w' := fun a' k' W h hn he => by rw [hA]; exact implFilter_any fl ⟨wt, n, f⟩ a' k' W h (by show n ≤ _; omega) he
  have HSP := Lib.hid SPEC
  have HIM := Lib.hid IMPL
  have HAN := Lib.hid hAn
  clear hW h1 hm1 hg hA SPEC IMPL hAn hs
  go_enter Tryd.func10, Tryd.ntmps10
  go_wp2_with fail
  rw [← HW.out]
  refine (szBatch_any wt a n k 1048576 _ (by omega) HM1.out).mono ?_
  rintro e w1 ⟨hz, hb⟩
  replace HB : Hid (Below w.heap.size w w1) := HB.out.trans (hb.mono HB.out.size)
  replace HR := Lib.hid (wrow_below HR.out hb)
  replace HRF := Lib.hid (wrow_below HRF.out hb)
  clear hb HW
  rcases hz with ⟨z, rfl, hz⟩ | ⟨hn1, rfl⟩
  · go_wp2_with fail
    go_ret
    exact ⟨rfl, HB.out⟩
  have hz : ¬ ((1048576 - n : Nat) : Int) < 0 := by omega
  have N1 := Lib.hid hn1
  have hAX : Hid (A.clean.n ≤ 1048576) := by have := HAN.out; show A.clean.n ≤ _; omega
  have hAY : Hid (A.waste.n ≤ 1048576) := by have := HAN.out; show A.waste.n ≤ _; omega
  clear hn1
  go_wp2_with fail
  go_cut [6] (fun p W => ∃ gb ax kx ay ky, p = .pointer (some ⟨gb, 0, none⟩) ∧ Hid (FoM w1.heap.size W.heap.size A ax kx ay ky gb W ∧ Below w1.heap.size w1 W))
  case first =>
    refine wp_region_held_drew (S := fun W => Below w1.heap.size w1 W) (by kernel_rfl) (Below.refl _ _).drew (fun hHeld => ?_)
    obtain ⟨Z, hZ⟩ : ∃ Z, Z = w1.drew := ⟨_, rfl⟩
    rw [← hZ] at hHeld ⊢
    clear hZ
    refine take_do (i := 0) (v := (flV fl)) rfl (by kernel_rfl) (by kernel_rfl) (by kernel_rfl) (fun _ _ _ h => h) (by rfl) ?_ (by assumption) ?_
    · intro w hSw
      obtain ⟨q0, q1, q2, q3⟩ := row4_cells (wrow_below HRF.out hSw)
      go_simp
    simp only [Act.put, List.setIfInBounds_toArray, List.set_cons_zero, List.set_cons_succ]
    refine take_do (i := 2) (v := (btV wt a n k)) rfl (by kernel_rfl) (by kernel_rfl) (by kernel_rfl) (fun _ _ _ h => h) (by rfl) ?_ (by assumption) ?_
    · intro w hSw
      obtain ⟨⟨q0, q1⟩, _⟩ := row2_cells (wrow_below HR.out hSw)
      go_simp
    simp only [Act.put, List.setIfInBounds_toArray, List.set_cons_zero, List.set_cons_succ]
    refine wpAnyH_ready (rs := [1, 5]) (by kernel_rfl) (by simp) (AllReadyH.cons (at_drop (i := 1) rfl) (fun K2 hK => ?_) (AllReadyH.cons (at_drop (i := 5) rfl) (fun K2 hK => ?_) (AllReadyH.nil)))
    · go_simp
      refine (toFilter_any fl _).mono ?_
      rintro e Z1 ⟨rfl, hb⟩
      go_wp2_with fail
      refine hK.out _ _ (hHeld.trans (hb.mono hHeld.size)) (fun hHeld2 => ?_)
      clear hK hHeld
      have hHeld := hHeld2
      clear hHeld2
      clear hb
      refine wpAnyH_ready (rs := [3, 5]) (by kernel_rfl) (by simp) (AllReadyH.cons (at_drop (i := 3) rfl) (fun K2 hK => ?_) (AllReadyH.cons (at_drop (i := 5) rfl) (fun K2 hK => ?_) (AllReadyH.nil)))
      · go_simp
        refine (toBatch_any wt a n k f _ (H1.out.below (HB.out.trans (hHeld.mono HB.out.size))) N1.out).mono ?_
        rintro e Z2 ⟨⟨gs, rfl, _, hk⟩, hb⟩
        have HKS := Lib.hid hk
        go_wp2_with fail
        refine hK.out _ _ (hHeld.trans (hb.mono hHeld.size)) (fun hHeld2 => ?_)
        clear hK hHeld
        have hHeld := hHeld2
        clear hHeld2
        clear hb hk
        refine wpAnyH_ready (rs := [4, 5]) (by kernel_rfl) (by simp) (AllReadyH.cons (at_drop (i := 4) rfl) (fun K2 hK => ?_) (AllReadyH.cons (at_drop (i := 5) rfl) (fun K2 hK => ?_) (AllReadyH.nil)))
        · go_simp
          refine (HSP.out _ _ _ HKS.out.at_ N1.out).mono ?_
          rintro e Z3 ⟨⟨ax, kx, ay, ky, rfl, hT⟩, hb⟩
          have HLC := Lib.hid hHeld.size
          have HTW : Hid (TwM w1.heap.size Z3.heap.size ax A.clean.n kx A.clean.f ay A.waste.n ky A.waste.f Z3) := hT.mono HLC.out (Nat.le_refl _)
          go_wp2_with fail
          refine hK.out _ _ (hHeld.trans (hb.mono hHeld.size)) (fun hHeld2 => ?_)
          clear hK hHeld
          have hHeld := hHeld2
          clear hHeld2
          clear hb hT
          refine take_call (i := 5) rfl (by kernel_rfl) (fun K2 hK => ?_)
          obtain ⟨Z4, hZ4⟩ : ∃ Z4, Z4 = Z3.alloc (.cells #[.int .i64 0, .int .i64 0, .int .i64 0, .int .i64 0, .int .i64 0, .slice none 0 0, .int .i64 0, .slice none 0 0, .int .i64 0, .int .i64 0] 87) := ⟨_, rfl⟩
          have hb : Below Z3.heap.size Z3 Z4 := by rw [hZ4]; exact bel_alloc _ _
          have RZ : Hid (Z4.rowIs Z3.heap.size 87 10 (rowL foZ)) := by show World.rowIs _ _ _ _ _; rw [hZ4]; exact rowL_alloc _ foZ _
          obtain ⟨gb, hgb⟩ : ∃ gb, gb = Z3.heap.size := ⟨_, rfl⟩
          rw [← hgb] at RZ
          have HGB : Hid (w1.heap.size ≤ gb) := by show _ ≤ _; rw [hgb]; exact hHeld.size
          have HFAR : Hid (∀ q, (atP ax q ∨ atP ay q) → q ≠ gb) := fun q hq => by
            rcases hq with hq | hq
            · have := HTW.out.px.atp hq; have h2 := hgb; omega
            · have := HTW.out.py.atp hq; have h2 := hgb; omega
          replace HTW := Lib.hid (HTW.out.below hb)
          go_simp
          rw [← hZ4, ← hgb]
          refine hK.out _ _ (hHeld.trans (hb.mono hHeld.size)) (fun hHeld2 => ?_)
          clear hK hHeld
          have hHeld := hHeld2
          clear hHeld2
          clear hb hZ4 hgb
          have o0 := RZ.out.cell (i := 0) (by omega)
          have z0 := RZ.out.frozen 0
          have o1 := RZ.out.cell (i := 1) (by omega)
          have z1 := RZ.out.frozen 1
          have o2 := RZ.out.cell (i := 2) (by omega)
          have z2 := RZ.out.frozen 2
          have o3 := RZ.out.cell (i := 3) (by omega)
          have z3 := RZ.out.frozen 3
          have o4 := RZ.out.cell (i := 4) (by omega)
          have z4 := RZ.out.frozen 4
          have o5 := RZ.out.cell (i := 5) (by omega)
          have z5 := RZ.out.frozen 5
          have o6 := RZ.out.cell (i := 6) (by omega)
          have z6 := RZ.out.frozen 6
          have o7 := RZ.out.cell (i := 7) (by omega)
          have z7 := RZ.out.frozen 7
          have o8 := RZ.out.cell (i := 8) (by omega)
          have z8 := RZ.out.frozen 8
          have o9 := RZ.out.cell (i := 9) (by omega)
          have z9 := RZ.out.frozen 9
          obtain ⟨WZ, hWZ⟩ : ∃ WZ, WZ = setAll gb 0 (foL A ax kx ay ky) Z4 := ⟨_, rfl⟩
          have hbZ : Below w1.heap.size w1 WZ := by rw [hWZ]; exact setAll_below HGB.out _ _ _ hHeld
          have hsz : WZ.heap.size = Z4.heap.size := by rw [hWZ]; exact setAll_size _ _ _ _
          have HFM : Hid (FoM w1.heap.size WZ.heap.size A ax kx ay ky gb WZ) := by
            have hlt := RZ.out.lt
            refine ⟨by rw [hWZ]; exact setAll_row _ RZ.out rfl, ?_, ⟨HGB.out, by omega⟩, HFAR.out⟩
            have h0 := HTW.out
            refine ⟨?_, ?_, h0.ne⟩
            · rcases h0.px with h | ⟨q, e1, hq, hi⟩
              · exact Or.inl h
              · exact Or.inr ⟨q, e1, ⟨hq.1, by have := hi.lt; omega⟩, hi.block (by rw [hWZ]; exact setAll_far (HFAR.out q (Or.inl e1)) _ _ _)⟩
            · rcases h0.py with h | ⟨q, e1, hq, hi⟩
              · exact Or.inl h
              · exact Or.inr ⟨q, e1, ⟨hq.1, by have := hi.lt; omega⟩, hi.block (by rw [hWZ]; exact setAll_far (HFAR.out q (Or.inr e1)) _ _ _)⟩
          have hW2 : WZ = ((((((((((Z4.setCell ⟨gb, 0, none⟩ (.int .i64 A.f.held)).setCell ⟨gb, 1, none⟩ (.int .i64 A.f.most)).setCell ⟨gb, 2, none⟩ (.int .i64 A.f.catch_)).setCell ⟨gb, 3, none⟩ (.int .i64 A.f.wash)).setCell ⟨gb, 4, none⟩ (.int .i64 A.clean.wt)).setCell ⟨gb, 5, none⟩ (.slice ax A.clean.n kx)).setCell ⟨gb, 6, none⟩ (.int .i64 A.waste.wt)).setCell ⟨gb, 7, none⟩ (.slice ay A.waste.n ky)).setCell ⟨gb, 8, none⟩ (.int .i64 A.head)).setCell ⟨gb, 9, none⟩ (.int .i64 A.c)) := hWZ
          have HW2 := Lib.hid hW2
          have HBZ := Lib.hid hbZ
          clear hW2 hWZ hsz hbZ
          refine take_call (i := 6) rfl (by kernel_rfl) (fun K2 hK => ?_)
          go_simp
          rw [← HW2.out]
          refine hK.out _ _ HBZ.out (fun hHeld2 => ?_)
          clear hK hHeld hHeld2 HW2
          clear o0 z0 o1 z1 o2 z2 o3 z3 o4 z4 o5 z5 o6 z6 o7 z7 o8 z8 o9 z9
          refine wpAnyH_done (by kernel_rfl) ?_ _
          go_wp2_with fail
          go_meet
          case rel => exact ⟨gb, ax, kx, ay, ky, rfl, HFM.out, HBZ.out⟩
        · obtain ⟨Z5, hZ5⟩ : ∃ Z5, Z5 = Z2.alloc (.cells #[.int .i64 0, .int .i64 0, .int .i64 0, .int .i64 0, .int .i64 0, .slice none 0 0, .int .i64 0, .slice none 0 0, .int .i64 0, .int .i64 0] 87) := ⟨_, rfl⟩
          have hb : Below Z2.heap.size Z2 Z5 := by rw [hZ5]; exact bel_alloc _ _
          have RZ : Hid (Z5.rowIs Z2.heap.size 87 10 (rowL foZ)) := by show World.rowIs _ _ _ _ _; rw [hZ5]; exact rowL_alloc _ foZ _
          obtain ⟨gb, hgb⟩ : ∃ gb, gb = Z2.heap.size := ⟨_, rfl⟩
          rw [← hgb] at RZ
          have HGB : Hid (w1.heap.size ≤ gb) := by show _ ≤ _; rw [hgb]; exact hHeld.size
          replace HKS := Lib.hid (HKS.out.below hb)
          go_simp
          rw [← hZ5, ← hgb]
          refine hK.out _ _ (hHeld.trans (hb.mono hHeld.size)) (fun hHeld2 => ?_)
          clear hK hHeld
          have hHeld := hHeld2
          clear hHeld2
          clear hb hZ5 hgb
          refine take_call (i := 4) rfl (by kernel_rfl) (fun K2 hK => ?_)
          go_simp
          refine (HSP.out _ _ _ HKS.out.at_ N1.out).mono ?_
          rintro e Z6 ⟨⟨ax, kx, ay, ky, rfl, hT⟩, hb⟩
          have HLC := Lib.hid hHeld.size
          have HFAR : Hid (∀ q, (atP ax q ∨ atP ay q) → q ≠ gb) := fun q hq => by
            have h0 := RZ.out.lt
            rcases hq with hq | hq
            · have := hT.px.atp hq; omega
            · have := hT.py.atp hq; omega
          replace RZ := Lib.hid (wrow_below RZ.out hb)
          have HTW : Hid (TwM w1.heap.size Z6.heap.size ax A.clean.n kx A.clean.f ay A.waste.n ky A.waste.f Z6) := hT.mono HLC.out (Nat.le_refl _)
          go_wp2_with fail
          refine hK.out _ _ (hHeld.trans (hb.mono hHeld.size)) (fun hHeld2 => ?_)
          clear hK hHeld
          have hHeld := hHeld2
          clear hHeld2
          clear hb hT
          have o0 := RZ.out.cell (i := 0) (by omega)
          have z0 := RZ.out.frozen 0
          have o1 := RZ.out.cell (i := 1) (by omega)
          have z1 := RZ.out.frozen 1
          have o2 := RZ.out.cell (i := 2) (by omega)
          have z2 := RZ.out.frozen 2
          have o3 := RZ.out.cell (i := 3) (by omega)
          have z3 := RZ.out.frozen 3
          have o4 := RZ.out.cell (i := 4) (by omega)
          have z4 := RZ.out.frozen 4
          have o5 := RZ.out.cell (i := 5) (by omega)
          have z5 := RZ.out.frozen 5
          have o6 := RZ.out.cell (i := 6) (by omega)
          have z6 := RZ.out.frozen 6
          have o7 := RZ.out.cell (i := 7) (by omega)
          have z7 := RZ.out.frozen 7
          have o8 := RZ.out.cell (i := 8) (by omega)
          have z8 := RZ.out.frozen 8
          have o9 := RZ.out.cell (i := 9) (by omega)
          have z9 := RZ.out.frozen 9
          obtain ⟨WZ, hWZ⟩ : ∃ WZ, WZ = setAll gb 0 (foL A ax kx ay ky) Z6 := ⟨_, rfl⟩
          have hbZ : Below w1.heap.size w1 WZ := by rw [hWZ]; exact setAll_below HGB.out _ _ _ hHeld
          have hsz : WZ.heap.size = Z6.heap.size := by rw [hWZ]; exact setAll_size _ _ _ _
          have HFM : Hid (FoM w1.heap.size WZ.heap.size A ax kx ay ky gb WZ) := by
            have hlt := RZ.out.lt
            refine ⟨by rw [hWZ]; exact setAll_row _ RZ.out rfl, ?_, ⟨HGB.out, by omega⟩, HFAR.out⟩
            have h0 := HTW.out
            refine ⟨?_, ?_, h0.ne⟩
            · rcases h0.px with h | ⟨q, e1, hq, hi⟩
              · exact Or.inl h
              · exact Or.inr ⟨q, e1, ⟨hq.1, by have := hi.lt; omega⟩, hi.block (by rw [hWZ]; exact setAll_far (HFAR.out q (Or.inl e1)) _ _ _)⟩
            · rcases h0.py with h | ⟨q, e1, hq, hi⟩
              · exact Or.inl h
              · exact Or.inr ⟨q, e1, ⟨hq.1, by have := hi.lt; omega⟩, hi.block (by rw [hWZ]; exact setAll_far (HFAR.out q (Or.inr e1)) _ _ _)⟩
          have hW2 : WZ = ((((((((((Z6.setCell ⟨gb, 0, none⟩ (.int .i64 A.f.held)).setCell ⟨gb, 1, none⟩ (.int .i64 A.f.most)).setCell ⟨gb, 2, none⟩ (.int .i64 A.f.catch_)).setCell ⟨gb, 3, none⟩ (.int .i64 A.f.wash)).setCell ⟨gb, 4, none⟩ (.int .i64 A.clean.wt)).setCell ⟨gb, 5, none⟩ (.slice ax A.clean.n kx)).setCell ⟨gb, 6, none⟩ (.int .i64 A.waste.wt)).setCell ⟨gb, 7, none⟩ (.slice ay A.waste.n ky)).setCell ⟨gb, 8, none⟩ (.int .i64 A.head)).setCell ⟨gb, 9, none⟩ (.int .i64 A.c)) := hWZ
          have HW2 := Lib.hid hW2
          have HBZ := Lib.hid hbZ
          clear hW2 hWZ hsz hbZ
          refine take_call (i := 6) rfl (by kernel_rfl) (fun K2 hK => ?_)
          go_simp
          rw [← HW2.out]
          refine hK.out _ _ HBZ.out (fun hHeld2 => ?_)
          clear hK hHeld hHeld2 HW2
          clear o0 z0 o1 z1 o2 z2 o3 z3 o4 z4 o5 z5 o6 z6 o7 z7 o8 z8 o9 z9
          refine wpAnyH_done (by kernel_rfl) ?_ _
          go_wp2_with fail
          go_meet
          case rel => exact ⟨gb, ax, kx, ay, ky, rfl, HFM.out, HBZ.out⟩
      · obtain ⟨Z7, hZ7⟩ : ∃ Z7, Z7 = Z1.alloc (.cells #[.int .i64 0, .int .i64 0, .int .i64 0, .int .i64 0, .int .i64 0, .slice none 0 0, .int .i64 0, .slice none 0 0, .int .i64 0, .int .i64 0] 87) := ⟨_, rfl⟩
        have hb : Below Z1.heap.size Z1 Z7 := by rw [hZ7]; exact bel_alloc _ _
        have RZ : Hid (Z7.rowIs Z1.heap.size 87 10 (rowL foZ)) := by show World.rowIs _ _ _ _ _; rw [hZ7]; exact rowL_alloc _ foZ _
        obtain ⟨gb, hgb⟩ : ∃ gb, gb = Z1.heap.size := ⟨_, rfl⟩
        rw [← hgb] at RZ
        have HGB : Hid (w1.heap.size ≤ gb) := by show _ ≤ _; rw [hgb]; exact hHeld.size
        go_simp
        rw [← hZ7, ← hgb]
        refine hK.out _ _ (hHeld.trans (hb.mono hHeld.size)) (fun hHeld2 => ?_)
        clear hK hHeld
        have hHeld := hHeld2
        clear hHeld2
        clear hb hZ7 hgb
        refine take_call (i := 3) rfl (by kernel_rfl) (fun K2 hK => ?_)
        go_simp
        refine (toBatch_any wt a n k f _ (H1.out.below (HB.out.trans (hHeld.mono HB.out.size))) N1.out).mono ?_
        rintro e Z8 ⟨⟨gs, rfl, _, hk⟩, hb⟩
        replace RZ := Lib.hid (wrow_below RZ.out hb)
        have HKS := Lib.hid hk
        go_wp2_with fail
        refine hK.out _ _ (hHeld.trans (hb.mono hHeld.size)) (fun hHeld2 => ?_)
        clear hK hHeld
        have hHeld := hHeld2
        clear hHeld2
        clear hb hk
        refine take_call (i := 4) rfl (by kernel_rfl) (fun K2 hK => ?_)
        go_simp
        refine (HSP.out _ _ _ HKS.out.at_ N1.out).mono ?_
        rintro e Z9 ⟨⟨ax, kx, ay, ky, rfl, hT⟩, hb⟩
        have HLC := Lib.hid hHeld.size
        have HFAR : Hid (∀ q, (atP ax q ∨ atP ay q) → q ≠ gb) := fun q hq => by
          have h0 := RZ.out.lt
          rcases hq with hq | hq
          · have := hT.px.atp hq; omega
          · have := hT.py.atp hq; omega
        replace RZ := Lib.hid (wrow_below RZ.out hb)
        have HTW : Hid (TwM w1.heap.size Z9.heap.size ax A.clean.n kx A.clean.f ay A.waste.n ky A.waste.f Z9) := hT.mono HLC.out (Nat.le_refl _)
        go_wp2_with fail
        refine hK.out _ _ (hHeld.trans (hb.mono hHeld.size)) (fun hHeld2 => ?_)
        clear hK hHeld
        have hHeld := hHeld2
        clear hHeld2
        clear hb hT
        have o0 := RZ.out.cell (i := 0) (by omega)
        have z0 := RZ.out.frozen 0
        have o1 := RZ.out.cell (i := 1) (by omega)
        have z1 := RZ.out.frozen 1
        have o2 := RZ.out.cell (i := 2) (by omega)
        have z2 := RZ.out.frozen 2
        have o3 := RZ.out.cell (i := 3) (by omega)
        have z3 := RZ.out.frozen 3
        have o4 := RZ.out.cell (i := 4) (by omega)
        have z4 := RZ.out.frozen 4
        have o5 := RZ.out.cell (i := 5) (by omega)
        have z5 := RZ.out.frozen 5
        have o6 := RZ.out.cell (i := 6) (by omega)
        have z6 := RZ.out.frozen 6
        have o7 := RZ.out.cell (i := 7) (by omega)
        have z7 := RZ.out.frozen 7
        have o8 := RZ.out.cell (i := 8) (by omega)
        have z8 := RZ.out.frozen 8
        have o9 := RZ.out.cell (i := 9) (by omega)
        have z9 := RZ.out.frozen 9
        obtain ⟨WZ, hWZ⟩ : ∃ WZ, WZ = setAll gb 0 (foL A ax kx ay ky) Z9 := ⟨_, rfl⟩
        have hbZ : Below w1.heap.size w1 WZ := by rw [hWZ]; exact setAll_below HGB.out _ _ _ hHeld
        have hsz : WZ.heap.size = Z9.heap.size := by rw [hWZ]; exact setAll_size _ _ _ _
        have HFM : Hid (FoM w1.heap.size WZ.heap.size A ax kx ay ky gb WZ) := by
          have hlt := RZ.out.lt
          refine ⟨by rw [hWZ]; exact setAll_row _ RZ.out rfl, ?_, ⟨HGB.out, by omega⟩, HFAR.out⟩
          have h0 := HTW.out
          refine ⟨?_, ?_, h0.ne⟩
          · rcases h0.px with h | ⟨q, e1, hq, hi⟩
            · exact Or.inl h
            · exact Or.inr ⟨q, e1, ⟨hq.1, by have := hi.lt; omega⟩, hi.block (by rw [hWZ]; exact setAll_far (HFAR.out q (Or.inl e1)) _ _ _)⟩
          · rcases h0.py with h | ⟨q, e1, hq, hi⟩
            · exact Or.inl h
            · exact Or.inr ⟨q, e1, ⟨hq.1, by have := hi.lt; omega⟩, hi.block (by rw [hWZ]; exact setAll_far (HFAR.out q (Or.inr e1)) _ _ _)⟩
        have hW2 : WZ = ((((((((((Z9.setCell ⟨gb, 0, none⟩ (.int .i64 A.f.held)).setCell ⟨gb, 1, none⟩ (.int .i64 A.f.most)).setCell ⟨gb, 2, none⟩ (.int .i64 A.f.catch_)).setCell ⟨gb, 3, none⟩ (.int .i64 A.f.wash)).setCell ⟨gb, 4, none⟩ (.int .i64 A.clean.wt)).setCell ⟨gb, 5, none⟩ (.slice ax A.clean.n kx)).setCell ⟨gb, 6, none⟩ (.int .i64 A.waste.wt)).setCell ⟨gb, 7, none⟩ (.slice ay A.waste.n ky)).setCell ⟨gb, 8, none⟩ (.int .i64 A.head)).setCell ⟨gb, 9, none⟩ (.int .i64 A.c)) := hWZ
        have HW2 := Lib.hid hW2
        have HBZ := Lib.hid hbZ
        clear hW2 hWZ hsz hbZ
        refine take_call (i := 6) rfl (by kernel_rfl) (fun K2 hK => ?_)
        go_simp
        rw [← HW2.out]
        refine hK.out _ _ HBZ.out (fun hHeld2 => ?_)
        clear hK hHeld hHeld2 HW2
        clear o0 z0 o1 z1 o2 z2 o3 z3 o4 z4 o5 z5 o6 z6 o7 z7 o8 z8 o9 z9
        refine wpAnyH_done (by kernel_rfl) ?_ _
        go_wp2_with fail
        go_meet
        case rel => exact ⟨gb, ax, kx, ay, ky, rfl, HFM.out, HBZ.out⟩
    · obtain ⟨Z10, hZ10⟩ : ∃ Z10, Z10 = Z.alloc (.cells #[.int .i64 0, .int .i64 0, .int .i64 0, .int .i64 0, .int .i64 0, .slice none 0 0, .int .i64 0, .slice none 0 0, .int .i64 0, .int .i64 0] 87) := ⟨_, rfl⟩
      have hb : Below Z.heap.size Z Z10 := by rw [hZ10]; exact bel_alloc _ _
      have RZ : Hid (Z10.rowIs Z.heap.size 87 10 (rowL foZ)) := by show World.rowIs _ _ _ _ _; rw [hZ10]; exact rowL_alloc _ foZ _
      obtain ⟨gb, hgb⟩ : ∃ gb, gb = Z.heap.size := ⟨_, rfl⟩
      rw [← hgb] at RZ
      have HGB : Hid (w1.heap.size ≤ gb) := by show _ ≤ _; rw [hgb]; exact hHeld.size
      go_simp
      rw [← hZ10, ← hgb]
      refine hK.out _ _ (hHeld.trans (hb.mono hHeld.size)) (fun hHeld2 => ?_)
      clear hK hHeld
      have hHeld := hHeld2
      clear hHeld2
      clear hb hZ10 hgb
      refine take_call (i := 1) rfl (by kernel_rfl) (fun K2 hK => ?_)
      go_simp
      refine (toFilter_any fl _).mono ?_
      rintro e Z11 ⟨rfl, hb⟩
      replace RZ := Lib.hid (wrow_below RZ.out hb)
      go_wp2_with fail
      refine hK.out _ _ (hHeld.trans (hb.mono hHeld.size)) (fun hHeld2 => ?_)
      clear hK hHeld
      have hHeld := hHeld2
      clear hHeld2
      clear hb
      refine take_call (i := 3) rfl (by kernel_rfl) (fun K2 hK => ?_)
      go_simp
      refine (toBatch_any wt a n k f _ (H1.out.below (HB.out.trans (hHeld.mono HB.out.size))) N1.out).mono ?_
      rintro e Z12 ⟨⟨gs, rfl, _, hk⟩, hb⟩
      replace RZ := Lib.hid (wrow_below RZ.out hb)
      have HKS := Lib.hid hk
      go_wp2_with fail
      refine hK.out _ _ (hHeld.trans (hb.mono hHeld.size)) (fun hHeld2 => ?_)
      clear hK hHeld
      have hHeld := hHeld2
      clear hHeld2
      clear hb hk
      refine take_call (i := 4) rfl (by kernel_rfl) (fun K2 hK => ?_)
      go_simp
      refine (HSP.out _ _ _ HKS.out.at_ N1.out).mono ?_
      rintro e Z13 ⟨⟨ax, kx, ay, ky, rfl, hT⟩, hb⟩
      have HLC := Lib.hid hHeld.size
      have HFAR : Hid (∀ q, (atP ax q ∨ atP ay q) → q ≠ gb) := fun q hq => by
        have h0 := RZ.out.lt
        rcases hq with hq | hq
        · have := hT.px.atp hq; omega
        · have := hT.py.atp hq; omega
      replace RZ := Lib.hid (wrow_below RZ.out hb)
      have HTW : Hid (TwM w1.heap.size Z13.heap.size ax A.clean.n kx A.clean.f ay A.waste.n ky A.waste.f Z13) := hT.mono HLC.out (Nat.le_refl _)
      go_wp2_with fail
      refine hK.out _ _ (hHeld.trans (hb.mono hHeld.size)) (fun hHeld2 => ?_)
      clear hK hHeld
      have hHeld := hHeld2
      clear hHeld2
      clear hb hT
      have o0 := RZ.out.cell (i := 0) (by omega)
      have z0 := RZ.out.frozen 0
      have o1 := RZ.out.cell (i := 1) (by omega)
      have z1 := RZ.out.frozen 1
      have o2 := RZ.out.cell (i := 2) (by omega)
      have z2 := RZ.out.frozen 2
      have o3 := RZ.out.cell (i := 3) (by omega)
      have z3 := RZ.out.frozen 3
      have o4 := RZ.out.cell (i := 4) (by omega)
      have z4 := RZ.out.frozen 4
      have o5 := RZ.out.cell (i := 5) (by omega)
      have z5 := RZ.out.frozen 5
      have o6 := RZ.out.cell (i := 6) (by omega)
      have z6 := RZ.out.frozen 6
      have o7 := RZ.out.cell (i := 7) (by omega)
      have z7 := RZ.out.frozen 7
      have o8 := RZ.out.cell (i := 8) (by omega)
      have z8 := RZ.out.frozen 8
      have o9 := RZ.out.cell (i := 9) (by omega)
      have z9 := RZ.out.frozen 9
      obtain ⟨WZ, hWZ⟩ : ∃ WZ, WZ = setAll gb 0 (foL A ax kx ay ky) Z13 := ⟨_, rfl⟩
      have hbZ : Below w1.heap.size w1 WZ := by rw [hWZ]; exact setAll_below HGB.out _ _ _ hHeld
      have hsz : WZ.heap.size = Z13.heap.size := by rw [hWZ]; exact setAll_size _ _ _ _
      have HFM : Hid (FoM w1.heap.size WZ.heap.size A ax kx ay ky gb WZ) := by
        have hlt := RZ.out.lt
        refine ⟨by rw [hWZ]; exact setAll_row _ RZ.out rfl, ?_, ⟨HGB.out, by omega⟩, HFAR.out⟩
        have h0 := HTW.out
        refine ⟨?_, ?_, h0.ne⟩
        · rcases h0.px with h | ⟨q, e1, hq, hi⟩
          · exact Or.inl h
          · exact Or.inr ⟨q, e1, ⟨hq.1, by have := hi.lt; omega⟩, hi.block (by rw [hWZ]; exact setAll_far (HFAR.out q (Or.inl e1)) _ _ _)⟩
        · rcases h0.py with h | ⟨q, e1, hq, hi⟩
          · exact Or.inl h
          · exact Or.inr ⟨q, e1, ⟨hq.1, by have := hi.lt; omega⟩, hi.block (by rw [hWZ]; exact setAll_far (HFAR.out q (Or.inr e1)) _ _ _)⟩
      have hW2 : WZ = ((((((((((Z13.setCell ⟨gb, 0, none⟩ (.int .i64 A.f.held)).setCell ⟨gb, 1, none⟩ (.int .i64 A.f.most)).setCell ⟨gb, 2, none⟩ (.int .i64 A.f.catch_)).setCell ⟨gb, 3, none⟩ (.int .i64 A.f.wash)).setCell ⟨gb, 4, none⟩ (.int .i64 A.clean.wt)).setCell ⟨gb, 5, none⟩ (.slice ax A.clean.n kx)).setCell ⟨gb, 6, none⟩ (.int .i64 A.waste.wt)).setCell ⟨gb, 7, none⟩ (.slice ay A.waste.n ky)).setCell ⟨gb, 8, none⟩ (.int .i64 A.head)).setCell ⟨gb, 9, none⟩ (.int .i64 A.c)) := hWZ
      have HW2 := Lib.hid hW2
      have HBZ := Lib.hid hbZ
      clear hW2 hWZ hsz hbZ
      refine take_call (i := 6) rfl (by kernel_rfl) (fun K2 hK => ?_)
      go_simp
      rw [← HW2.out]
      refine hK.out _ _ HBZ.out (fun hHeld2 => ?_)
      clear hK hHeld hHeld2 HW2
      clear o0 z0 o1 z1 o2 z2 o3 z3 o4 z4 o5 z5 o6 z6 o7 z7 o8 z8 o9 z9
      refine wpAnyH_done (by kernel_rfl) ?_ _
      go_wp2_with fail
      go_meet
      case rel => exact ⟨gb, ax, kx, ay, ky, rfl, HFM.out, HBZ.out⟩
  case rest =>
    obtain ⟨g6, ax6, kx6, ay6, ky6, rfl, hC⟩ := hcut
    obtain ⟨w3, hw3⟩ : ∃ w3, w3 = wc := ⟨_, rfl⟩
    rw [← hw3] at hC ⊢
    clear hw3
    have hb := hC.out.2
    have M6 := Lib.hid hC.out.1
    replace HB : Hid (Below w.heap.size w w3) := HB.out.trans (hb.mono HB.out.size)
    replace HR := Lib.hid (wrow_below HR.out hb)
    replace HRF := Lib.hid (wrow_below HRF.out hb)
    clear hC
    obtain ⟨⟨a0, a1⟩, _⟩ := row2_cells HR.out
    go_wp2_with fail
    clear a0 a1
    refine (toBatch_any wt a n k f _ (H1.out.below HB.out) N1.out).mono ?_
    rintro e w4 ⟨⟨gi, rfl, hlo7, hk⟩, hb⟩
    obtain ⟨W7, hW7⟩ : ∃ W7, W7 = w4.alloc (.cells #[.int .i64 wt, .slice (some ⟨gi, 0, none⟩) n n] 49) := ⟨_, rfl⟩
    have hb' : Below w4.heap.size w4 W7 := by rw [hW7]; exact bel_alloc _ _
    have X7 : Hid (W7.rowIs w4.heap.size 49 2 (r2 (.int .i64 wt) (.slice (some ⟨gi, 0, none⟩) n n))) := by show World.rowIs _ _ _ _ _; rw [hW7]; exact row2 _ _ _ _
    have HK7 := Lib.hid (hk.below hb')
    have HLO : Hid (w.heap.size + 1 < gi ∧ w3.heap.size ≤ gi ∧ gi < w4.heap.size) := by have h1 := HR.out.lt; have h3 := hk.lt; refine ⟨by omega, by omega, h3⟩
    replace HB : Hid (Below w.heap.size w w4) := HB.out.trans (hb.mono HB.out.size)
    replace HR := Lib.hid (wrow_below HR.out hb)
    replace HRF := Lib.hid (wrow_below HRF.out hb)
    replace M6 := Lib.hid (M6.out.below hb)
    replace HB : Hid (Below w.heap.size w W7) := HB.out.trans (hb'.mono HB.out.size)
    replace HR := Lib.hid (wrow_below HR.out hb')
    replace HRF := Lib.hid (wrow_below HRF.out hb')
    replace M6 := Lib.hid (M6.out.below hb')
    have HW7 := Lib.hid hW7
    clear hb hb' hW7 hk hlo7
    go_wp2_with fail
    rw [← HW7.out]
    clear HW7
    have HL4 : Hid (w4.heap.size + 1 ≤ W7.heap.size) := by have := X7.out.lt; show _ ≤ _; omega
    go_cut [8] (fun p W => ∃ gb ax kx ay ky, p = .pointer (some ⟨gb, 0, none⟩) ∧ Hid (FoM W7.heap.size W.heap.size A ax kx ay ky gb W ∧ Below W7.heap.size W7 W))
    case first =>
      refine wp_region_held_drew (S := fun W => Below W7.heap.size W7 W) (by kernel_rfl) (Below.refl _ _).drew (fun hHeld => ?_)
      obtain ⟨Z, hZ⟩ : ∃ Z, Z = W7.drew := ⟨_, rfl⟩
      rw [← hZ] at hHeld ⊢
      clear hZ
      refine take_do (i := 0) (v := (flV fl)) rfl (by kernel_rfl) (by kernel_rfl) (by kernel_rfl) (fun _ _ _ h => h) (by rfl) ?_ (by assumption) ?_
      · intro w hSw
        obtain ⟨q0, q1, q2, q3⟩ := row4_cells (wrow_below HRF.out hSw)
        go_simp
      simp only [Act.put, List.setIfInBounds_toArray, List.set_cons_zero, List.set_cons_succ]
      refine take_do (i := 2) (v := (btV wt (some ⟨gi, 0, none⟩) n n)) rfl (by kernel_rfl) (by kernel_rfl) (by kernel_rfl) (fun _ _ _ h => h) (by rfl) ?_ (by assumption) ?_
      · intro w hSw
        obtain ⟨⟨q0, q1⟩, _⟩ := row2_cells (wrow_below X7.out hSw)
        go_simp
      simp only [Act.put, List.setIfInBounds_toArray, List.set_cons_zero, List.set_cons_succ]
      refine wpAnyH_ready (rs := [1, 4]) (by kernel_rfl) (by simp) (AllReadyH.cons (at_drop (i := 1) rfl) (fun K2 hK => ?_) (AllReadyH.cons (at_drop (i := 4) rfl) (fun K2 hK => ?_) (AllReadyH.nil)))
      · go_simp
        refine (toFilter_any fl _).mono ?_
        rintro e Z14 ⟨rfl, hb⟩
        go_wp2_with fail
        refine hK.out _ _ (hHeld.trans (hb.mono hHeld.size)) (fun hHeld2 => ?_)
        clear hK hHeld
        have hHeld := hHeld2
        clear hHeld2
        clear hb
        refine wpAnyH_ready (rs := [3, 4]) (by kernel_rfl) (by simp) (AllReadyH.cons (at_drop (i := 3) rfl) (fun K2 hK => ?_) (AllReadyH.cons (at_drop (i := 4) rfl) (fun K2 hK => ?_) (AllReadyH.nil)))
        · go_simp
          refine (HIM.out _ _ _ (HK7.out.below hHeld).at_ N1.out ((HET.out.below HB.out).below hHeld)).mono ?_
          rintro e Z15 ⟨⟨ax, kx, ay, ky, rfl, hT⟩, hb⟩
          have HLC := Lib.hid hHeld.size
          have HTW : Hid (TwM W7.heap.size Z15.heap.size ax A.clean.n kx A.clean.f ay A.waste.n ky A.waste.f Z15) := hT.mono HLC.out (Nat.le_refl _)
          go_wp2_with fail
          refine hK.out _ _ (hHeld.trans (hb.mono hHeld.size)) (fun hHeld2 => ?_)
          clear hK hHeld
          have hHeld := hHeld2
          clear hHeld2
          clear hb hT
          refine take_call (i := 4) rfl (by kernel_rfl) (fun K2 hK => ?_)
          obtain ⟨Z16, hZ16⟩ : ∃ Z16, Z16 = Z15.alloc (.cells #[.int .i64 0, .int .i64 0, .int .i64 0, .int .i64 0, .int .i64 0, .slice none 0 0, .int .i64 0, .slice none 0 0, .int .i64 0, .int .i64 0] 87) := ⟨_, rfl⟩
          have hb : Below Z15.heap.size Z15 Z16 := by rw [hZ16]; exact bel_alloc _ _
          have RZ : Hid (Z16.rowIs Z15.heap.size 87 10 (rowL foZ)) := by show World.rowIs _ _ _ _ _; rw [hZ16]; exact rowL_alloc _ foZ _
          obtain ⟨gb, hgb⟩ : ∃ gb, gb = Z15.heap.size := ⟨_, rfl⟩
          rw [← hgb] at RZ
          have HGB : Hid (W7.heap.size ≤ gb) := by show _ ≤ _; rw [hgb]; exact hHeld.size
          have HFAR : Hid (∀ q, (atP ax q ∨ atP ay q) → q ≠ gb) := fun q hq => by
            rcases hq with hq | hq
            · have := HTW.out.px.atp hq; have h2 := hgb; omega
            · have := HTW.out.py.atp hq; have h2 := hgb; omega
          replace HTW := Lib.hid (HTW.out.below hb)
          go_simp
          rw [← hZ16, ← hgb]
          refine hK.out _ _ (hHeld.trans (hb.mono hHeld.size)) (fun hHeld2 => ?_)
          clear hK hHeld
          have hHeld := hHeld2
          clear hHeld2
          clear hb hZ16 hgb
          have o0 := RZ.out.cell (i := 0) (by omega)
          have z0 := RZ.out.frozen 0
          have o1 := RZ.out.cell (i := 1) (by omega)
          have z1 := RZ.out.frozen 1
          have o2 := RZ.out.cell (i := 2) (by omega)
          have z2 := RZ.out.frozen 2
          have o3 := RZ.out.cell (i := 3) (by omega)
          have z3 := RZ.out.frozen 3
          have o4 := RZ.out.cell (i := 4) (by omega)
          have z4 := RZ.out.frozen 4
          have o5 := RZ.out.cell (i := 5) (by omega)
          have z5 := RZ.out.frozen 5
          have o6 := RZ.out.cell (i := 6) (by omega)
          have z6 := RZ.out.frozen 6
          have o7 := RZ.out.cell (i := 7) (by omega)
          have z7 := RZ.out.frozen 7
          have o8 := RZ.out.cell (i := 8) (by omega)
          have z8 := RZ.out.frozen 8
          have o9 := RZ.out.cell (i := 9) (by omega)
          have z9 := RZ.out.frozen 9
          obtain ⟨WZ, hWZ⟩ : ∃ WZ, WZ = setAll gb 0 (foL A ax kx ay ky) Z16 := ⟨_, rfl⟩
          have hbZ : Below W7.heap.size W7 WZ := by rw [hWZ]; exact setAll_below HGB.out _ _ _ hHeld
          have hsz : WZ.heap.size = Z16.heap.size := by rw [hWZ]; exact setAll_size _ _ _ _
          have HFM : Hid (FoM W7.heap.size WZ.heap.size A ax kx ay ky gb WZ) := by
            have hlt := RZ.out.lt
            refine ⟨by rw [hWZ]; exact setAll_row _ RZ.out rfl, ?_, ⟨HGB.out, by omega⟩, HFAR.out⟩
            have h0 := HTW.out
            refine ⟨?_, ?_, h0.ne⟩
            · rcases h0.px with h | ⟨q, e1, hq, hi⟩
              · exact Or.inl h
              · exact Or.inr ⟨q, e1, ⟨hq.1, by have := hi.lt; omega⟩, hi.block (by rw [hWZ]; exact setAll_far (HFAR.out q (Or.inl e1)) _ _ _)⟩
            · rcases h0.py with h | ⟨q, e1, hq, hi⟩
              · exact Or.inl h
              · exact Or.inr ⟨q, e1, ⟨hq.1, by have := hi.lt; omega⟩, hi.block (by rw [hWZ]; exact setAll_far (HFAR.out q (Or.inr e1)) _ _ _)⟩
          have hW2 : WZ = ((((((((((Z16.setCell ⟨gb, 0, none⟩ (.int .i64 A.f.held)).setCell ⟨gb, 1, none⟩ (.int .i64 A.f.most)).setCell ⟨gb, 2, none⟩ (.int .i64 A.f.catch_)).setCell ⟨gb, 3, none⟩ (.int .i64 A.f.wash)).setCell ⟨gb, 4, none⟩ (.int .i64 A.clean.wt)).setCell ⟨gb, 5, none⟩ (.slice ax A.clean.n kx)).setCell ⟨gb, 6, none⟩ (.int .i64 A.waste.wt)).setCell ⟨gb, 7, none⟩ (.slice ay A.waste.n ky)).setCell ⟨gb, 8, none⟩ (.int .i64 A.head)).setCell ⟨gb, 9, none⟩ (.int .i64 A.c)) := hWZ
          have HW2 := Lib.hid hW2
          have HBZ := Lib.hid hbZ
          clear hW2 hWZ hsz hbZ
          refine take_call (i := 5) rfl (by kernel_rfl) (fun K2 hK => ?_)
          go_simp
          rw [← HW2.out]
          refine hK.out _ _ HBZ.out (fun hHeld2 => ?_)
          clear hK hHeld hHeld2 HW2
          clear o0 z0 o1 z1 o2 z2 o3 z3 o4 z4 o5 z5 o6 z6 o7 z7 o8 z8 o9 z9
          refine wpAnyH_done (by kernel_rfl) ?_ _
          go_wp2_with fail
          go_meet
          case rel => exact ⟨gb, ax, kx, ay, ky, rfl, HFM.out, HBZ.out⟩
        · obtain ⟨Z17, hZ17⟩ : ∃ Z17, Z17 = Z14.alloc (.cells #[.int .i64 0, .int .i64 0, .int .i64 0, .int .i64 0, .int .i64 0, .slice none 0 0, .int .i64 0, .slice none 0 0, .int .i64 0, .int .i64 0] 87) := ⟨_, rfl⟩
          have hb : Below Z14.heap.size Z14 Z17 := by rw [hZ17]; exact bel_alloc _ _
          have RZ : Hid (Z17.rowIs Z14.heap.size 87 10 (rowL foZ)) := by show World.rowIs _ _ _ _ _; rw [hZ17]; exact rowL_alloc _ foZ _
          obtain ⟨gb, hgb⟩ : ∃ gb, gb = Z14.heap.size := ⟨_, rfl⟩
          rw [← hgb] at RZ
          have HGB : Hid (W7.heap.size ≤ gb) := by show _ ≤ _; rw [hgb]; exact hHeld.size
          go_simp
          rw [← hZ17, ← hgb]
          refine hK.out _ _ (hHeld.trans (hb.mono hHeld.size)) (fun hHeld2 => ?_)
          clear hK hHeld
          have hHeld := hHeld2
          clear hHeld2
          clear hb hZ17 hgb
          refine take_call (i := 3) rfl (by kernel_rfl) (fun K2 hK => ?_)
          go_simp
          refine (HIM.out _ _ _ (HK7.out.below hHeld).at_ N1.out ((HET.out.below HB.out).below hHeld)).mono ?_
          rintro e Z18 ⟨⟨ax, kx, ay, ky, rfl, hT⟩, hb⟩
          have HLC := Lib.hid hHeld.size
          have HFAR : Hid (∀ q, (atP ax q ∨ atP ay q) → q ≠ gb) := fun q hq => by
            have h0 := RZ.out.lt
            rcases hq with hq | hq
            · have := hT.px.atp hq; omega
            · have := hT.py.atp hq; omega
          replace RZ := Lib.hid (wrow_below RZ.out hb)
          have HTW : Hid (TwM W7.heap.size Z18.heap.size ax A.clean.n kx A.clean.f ay A.waste.n ky A.waste.f Z18) := hT.mono HLC.out (Nat.le_refl _)
          go_wp2_with fail
          refine hK.out _ _ (hHeld.trans (hb.mono hHeld.size)) (fun hHeld2 => ?_)
          clear hK hHeld
          have hHeld := hHeld2
          clear hHeld2
          clear hb hT
          have o0 := RZ.out.cell (i := 0) (by omega)
          have z0 := RZ.out.frozen 0
          have o1 := RZ.out.cell (i := 1) (by omega)
          have z1 := RZ.out.frozen 1
          have o2 := RZ.out.cell (i := 2) (by omega)
          have z2 := RZ.out.frozen 2
          have o3 := RZ.out.cell (i := 3) (by omega)
          have z3 := RZ.out.frozen 3
          have o4 := RZ.out.cell (i := 4) (by omega)
          have z4 := RZ.out.frozen 4
          have o5 := RZ.out.cell (i := 5) (by omega)
          have z5 := RZ.out.frozen 5
          have o6 := RZ.out.cell (i := 6) (by omega)
          have z6 := RZ.out.frozen 6
          have o7 := RZ.out.cell (i := 7) (by omega)
          have z7 := RZ.out.frozen 7
          have o8 := RZ.out.cell (i := 8) (by omega)
          have z8 := RZ.out.frozen 8
          have o9 := RZ.out.cell (i := 9) (by omega)
          have z9 := RZ.out.frozen 9
          obtain ⟨WZ, hWZ⟩ : ∃ WZ, WZ = setAll gb 0 (foL A ax kx ay ky) Z18 := ⟨_, rfl⟩
          have hbZ : Below W7.heap.size W7 WZ := by rw [hWZ]; exact setAll_below HGB.out _ _ _ hHeld
          have hsz : WZ.heap.size = Z18.heap.size := by rw [hWZ]; exact setAll_size _ _ _ _
          have HFM : Hid (FoM W7.heap.size WZ.heap.size A ax kx ay ky gb WZ) := by
            have hlt := RZ.out.lt
            refine ⟨by rw [hWZ]; exact setAll_row _ RZ.out rfl, ?_, ⟨HGB.out, by omega⟩, HFAR.out⟩
            have h0 := HTW.out
            refine ⟨?_, ?_, h0.ne⟩
            · rcases h0.px with h | ⟨q, e1, hq, hi⟩
              · exact Or.inl h
              · exact Or.inr ⟨q, e1, ⟨hq.1, by have := hi.lt; omega⟩, hi.block (by rw [hWZ]; exact setAll_far (HFAR.out q (Or.inl e1)) _ _ _)⟩
            · rcases h0.py with h | ⟨q, e1, hq, hi⟩
              · exact Or.inl h
              · exact Or.inr ⟨q, e1, ⟨hq.1, by have := hi.lt; omega⟩, hi.block (by rw [hWZ]; exact setAll_far (HFAR.out q (Or.inr e1)) _ _ _)⟩
          have hW2 : WZ = ((((((((((Z18.setCell ⟨gb, 0, none⟩ (.int .i64 A.f.held)).setCell ⟨gb, 1, none⟩ (.int .i64 A.f.most)).setCell ⟨gb, 2, none⟩ (.int .i64 A.f.catch_)).setCell ⟨gb, 3, none⟩ (.int .i64 A.f.wash)).setCell ⟨gb, 4, none⟩ (.int .i64 A.clean.wt)).setCell ⟨gb, 5, none⟩ (.slice ax A.clean.n kx)).setCell ⟨gb, 6, none⟩ (.int .i64 A.waste.wt)).setCell ⟨gb, 7, none⟩ (.slice ay A.waste.n ky)).setCell ⟨gb, 8, none⟩ (.int .i64 A.head)).setCell ⟨gb, 9, none⟩ (.int .i64 A.c)) := hWZ
          have HW2 := Lib.hid hW2
          have HBZ := Lib.hid hbZ
          clear hW2 hWZ hsz hbZ
          refine take_call (i := 5) rfl (by kernel_rfl) (fun K2 hK => ?_)
          go_simp
          rw [← HW2.out]
          refine hK.out _ _ HBZ.out (fun hHeld2 => ?_)
          clear hK hHeld hHeld2 HW2
          clear o0 z0 o1 z1 o2 z2 o3 z3 o4 z4 o5 z5 o6 z6 o7 z7 o8 z8 o9 z9
          refine wpAnyH_done (by kernel_rfl) ?_ _
          go_wp2_with fail
          go_meet
          case rel => exact ⟨gb, ax, kx, ay, ky, rfl, HFM.out, HBZ.out⟩
      · obtain ⟨Z19, hZ19⟩ : ∃ Z19, Z19 = Z.alloc (.cells #[.int .i64 0, .int .i64 0, .int .i64 0, .int .i64 0, .int .i64 0, .slice none 0 0, .int .i64 0, .slice none 0 0, .int .i64 0, .int .i64 0] 87) := ⟨_, rfl⟩
        have hb : Below Z.heap.size Z Z19 := by rw [hZ19]; exact bel_alloc _ _
        have RZ : Hid (Z19.rowIs Z.heap.size 87 10 (rowL foZ)) := by show World.rowIs _ _ _ _ _; rw [hZ19]; exact rowL_alloc _ foZ _
        obtain ⟨gb, hgb⟩ : ∃ gb, gb = Z.heap.size := ⟨_, rfl⟩
        rw [← hgb] at RZ
        have HGB : Hid (W7.heap.size ≤ gb) := by show _ ≤ _; rw [hgb]; exact hHeld.size
        go_simp
        rw [← hZ19, ← hgb]
        refine hK.out _ _ (hHeld.trans (hb.mono hHeld.size)) (fun hHeld2 => ?_)
        clear hK hHeld
        have hHeld := hHeld2
        clear hHeld2
        clear hb hZ19 hgb
        refine take_call (i := 1) rfl (by kernel_rfl) (fun K2 hK => ?_)
        go_simp
        refine (toFilter_any fl _).mono ?_
        rintro e Z20 ⟨rfl, hb⟩
        replace RZ := Lib.hid (wrow_below RZ.out hb)
        go_wp2_with fail
        refine hK.out _ _ (hHeld.trans (hb.mono hHeld.size)) (fun hHeld2 => ?_)
        clear hK hHeld
        have hHeld := hHeld2
        clear hHeld2
        clear hb
        refine take_call (i := 3) rfl (by kernel_rfl) (fun K2 hK => ?_)
        go_simp
        refine (HIM.out _ _ _ (HK7.out.below hHeld).at_ N1.out ((HET.out.below HB.out).below hHeld)).mono ?_
        rintro e Z21 ⟨⟨ax, kx, ay, ky, rfl, hT⟩, hb⟩
        have HLC := Lib.hid hHeld.size
        have HFAR : Hid (∀ q, (atP ax q ∨ atP ay q) → q ≠ gb) := fun q hq => by
          have h0 := RZ.out.lt
          rcases hq with hq | hq
          · have := hT.px.atp hq; omega
          · have := hT.py.atp hq; omega
        replace RZ := Lib.hid (wrow_below RZ.out hb)
        have HTW : Hid (TwM W7.heap.size Z21.heap.size ax A.clean.n kx A.clean.f ay A.waste.n ky A.waste.f Z21) := hT.mono HLC.out (Nat.le_refl _)
        go_wp2_with fail
        refine hK.out _ _ (hHeld.trans (hb.mono hHeld.size)) (fun hHeld2 => ?_)
        clear hK hHeld
        have hHeld := hHeld2
        clear hHeld2
        clear hb hT
        have o0 := RZ.out.cell (i := 0) (by omega)
        have z0 := RZ.out.frozen 0
        have o1 := RZ.out.cell (i := 1) (by omega)
        have z1 := RZ.out.frozen 1
        have o2 := RZ.out.cell (i := 2) (by omega)
        have z2 := RZ.out.frozen 2
        have o3 := RZ.out.cell (i := 3) (by omega)
        have z3 := RZ.out.frozen 3
        have o4 := RZ.out.cell (i := 4) (by omega)
        have z4 := RZ.out.frozen 4
        have o5 := RZ.out.cell (i := 5) (by omega)
        have z5 := RZ.out.frozen 5
        have o6 := RZ.out.cell (i := 6) (by omega)
        have z6 := RZ.out.frozen 6
        have o7 := RZ.out.cell (i := 7) (by omega)
        have z7 := RZ.out.frozen 7
        have o8 := RZ.out.cell (i := 8) (by omega)
        have z8 := RZ.out.frozen 8
        have o9 := RZ.out.cell (i := 9) (by omega)
        have z9 := RZ.out.frozen 9
        obtain ⟨WZ, hWZ⟩ : ∃ WZ, WZ = setAll gb 0 (foL A ax kx ay ky) Z21 := ⟨_, rfl⟩
        have hbZ : Below W7.heap.size W7 WZ := by rw [hWZ]; exact setAll_below HGB.out _ _ _ hHeld
        have hsz : WZ.heap.size = Z21.heap.size := by rw [hWZ]; exact setAll_size _ _ _ _
        have HFM : Hid (FoM W7.heap.size WZ.heap.size A ax kx ay ky gb WZ) := by
          have hlt := RZ.out.lt
          refine ⟨by rw [hWZ]; exact setAll_row _ RZ.out rfl, ?_, ⟨HGB.out, by omega⟩, HFAR.out⟩
          have h0 := HTW.out
          refine ⟨?_, ?_, h0.ne⟩
          · rcases h0.px with h | ⟨q, e1, hq, hi⟩
            · exact Or.inl h
            · exact Or.inr ⟨q, e1, ⟨hq.1, by have := hi.lt; omega⟩, hi.block (by rw [hWZ]; exact setAll_far (HFAR.out q (Or.inl e1)) _ _ _)⟩
          · rcases h0.py with h | ⟨q, e1, hq, hi⟩
            · exact Or.inl h
            · exact Or.inr ⟨q, e1, ⟨hq.1, by have := hi.lt; omega⟩, hi.block (by rw [hWZ]; exact setAll_far (HFAR.out q (Or.inr e1)) _ _ _)⟩
        have hW2 : WZ = ((((((((((Z21.setCell ⟨gb, 0, none⟩ (.int .i64 A.f.held)).setCell ⟨gb, 1, none⟩ (.int .i64 A.f.most)).setCell ⟨gb, 2, none⟩ (.int .i64 A.f.catch_)).setCell ⟨gb, 3, none⟩ (.int .i64 A.f.wash)).setCell ⟨gb, 4, none⟩ (.int .i64 A.clean.wt)).setCell ⟨gb, 5, none⟩ (.slice ax A.clean.n kx)).setCell ⟨gb, 6, none⟩ (.int .i64 A.waste.wt)).setCell ⟨gb, 7, none⟩ (.slice ay A.waste.n ky)).setCell ⟨gb, 8, none⟩ (.int .i64 A.head)).setCell ⟨gb, 9, none⟩ (.int .i64 A.c)) := hWZ
        have HW2 := Lib.hid hW2
        have HBZ := Lib.hid hbZ
        clear hW2 hWZ hsz hbZ
        refine take_call (i := 5) rfl (by kernel_rfl) (fun K2 hK => ?_)
        go_simp
        rw [← HW2.out]
        refine hK.out _ _ HBZ.out (fun hHeld2 => ?_)
        clear hK hHeld hHeld2 HW2
        clear o0 z0 o1 z1 o2 z2 o3 z3 o4 z4 o5 z5 o6 z6 o7 z7 o8 z8 o9 z9
        refine wpAnyH_done (by kernel_rfl) ?_ _
        go_wp2_with fail
        go_meet
        case rel => exact ⟨gb, ax, kx, ay, ky, rfl, HFM.out, HBZ.out⟩
    case rest =>
      obtain ⟨g8, ax8, kx8, ay8, ky8, rfl, hC⟩ := hcut
      obtain ⟨w5, hw5⟩ : ∃ w5, w5 = wc := ⟨_, rfl⟩
      rw [← hw5] at hC ⊢
      clear hw5
      have hb := hC.out.2
      have M8 := Lib.hid hC.out.1
      replace HB : Hid (Below w.heap.size w w5) := HB.out.trans (hb.mono HB.out.size)
      replace HR := Lib.hid (wrow_below HR.out hb)
      replace HRF := Lib.hid (wrow_below HRF.out hb)
      replace M6 := Lib.hid (M6.out.below hb)
      replace X7 := Lib.hid (wrow_below X7.out hb)
      replace HK7 := Lib.hid (HK7.out.below hb)
      clear hC
      obtain ⟨⟨b0, b1, b2, b3, b4⟩, b5, b6, b7, b8, b9⟩ := row10_cells M6.out.row
      obtain ⟨⟨d0, d1, d2, d3, d4⟩, d5, d6, d7, d8, d9⟩ := row10_cells M8.out.row
      go_wp2_with fail
      clear b0 b1 b2 b3 b4 b5 b6 b7 b8 b9 d0 d1 d2 d3 d4 d5 d6 d7 d8 d9
      refine (eqFo_same A ax8 ay8 ax6 ay6 kx8 ky8 kx6 ky6 _ M8.out.two.px.at_ M8.out.two.py.at_ M6.out.two.px.at_ M6.out.two.py.at_ hAX.out hAY.out).mono ?_
      rintro e w9 ⟨rfl, hb⟩
      replace HB : Hid (Below w.heap.size w w9) := HB.out.trans (hb.mono HB.out.size)
      replace HR := Lib.hid (wrow_below HR.out hb)
      replace HRF := Lib.hid (wrow_below HRF.out hb)
      replace M6 := Lib.hid (M6.out.below hb)
      replace X7 := Lib.hid (wrow_below X7.out hb)
      replace HK7 := Lib.hid (HK7.out.below hb)
      replace M8 := Lib.hid (M8.out.below hb)
      clear hb
      go_wp2_with fail
      have hPb : ∀ W W', (fun W => InBlk gi n f W ∧ FoM w1.heap.size w3.heap.size A ax6 kx6 ay6 ky6 g6 W ∧ FoM W7.heap.size w5.heap.size A ax8 kx8 ay8 ky8 g8 W ∧ W.rowIs w.heap.size 85 4 (rowL (flL fl))) W → Below W.heap.size W W' → (fun W => InBlk gi n f W ∧ FoM w1.heap.size w3.heap.size A ax6 kx6 ay6 ky6 g6 W ∧ FoM W7.heap.size w5.heap.size A ax8 kx8 ay8 ky8 g8 W ∧ W.rowIs w.heap.size 85 4 (rowL (flL fl))) W' := fun W W' hp hb => ⟨hp.1.below hb, hp.2.1.below hb, hp.2.2.1.below hb, wrow_below hp.2.2.2 hb⟩
      have HPB := Lib.hid hPb
      clear hPb
      refine wp_region_held_drew (S := (LwB w (w.heap.size + 1) w4.heap.size (r2 (.int .i64 wt) (.slice a n k)) (r2 (.int .i64 wt) (.slice (some ⟨gi, 0, none⟩) n n)) (fun W => InBlk gi n f W ∧ FoM w1.heap.size w3.heap.size A ax6 kx6 ay6 ky6 g6 W ∧ FoM W7.heap.size w5.heap.size A ax8 kx8 ay8 ky8 g8 W ∧ W.rowIs w.heap.size 85 4 (rowL (flL fl))))) (by kernel_rfl) (LwB.below HPB.out ⟨HR.out, X7.out, ⟨HK7.out, M6.out, M8.out, HRF.out⟩, HB.out⟩ (Below.refl _ _).drew) (fun hHeld => ?_)
      clear HR X7 HK7 M6 M8 HB HRF
      refine take_do (i := 0) (v := (btV wt (some ⟨gi, 0, none⟩) n n)) rfl (by kernel_rfl) (by kernel_rfl) (by kernel_rfl) (fun _ _ _ h => h) (by rfl) ?_ (by assumption) ?_
      · intro w hSw
        obtain ⟨⟨a0, a1⟩, _⟩ := row2_cells hSw.1; obtain ⟨⟨x0, x1⟩, _⟩ := row2_cells hSw.2.1
        go_simp
      simp only [Act.put, List.setIfInBounds_toArray, List.set_cons_zero, List.set_cons_succ]
      refine take_do (i := 1) (v := (btV wt a n k)) rfl (by kernel_rfl) (by kernel_rfl) (by kernel_rfl) (fun _ _ _ h => h) (by rfl) ?_ (by assumption) ?_
      · intro w hSw
        obtain ⟨⟨a0, a1⟩, _⟩ := row2_cells hSw.1; obtain ⟨⟨x0, x1⟩, _⟩ := row2_cells hSw.2.1
        go_simp
      simp only [Act.put, List.setIfInBounds_toArray, List.set_cons_zero, List.set_cons_succ]
      refine take_call (i := 2) rfl (by kernel_rfl) (fun K2 hK => ?_)
      go_simp
      refine (toBatch_any wt a n k f _ (H1.out.below hHeld.2.2.2) N1.out).mono ?_
      rintro e wa ⟨⟨gq, rfl, _, hk6⟩, hb6⟩
      have HK6 := Lib.hid hk6
      go_wp2_with fail
      refine hK.out _ _ (LwB.below HPB.out hHeld hb6) (fun hHeld2 => ?_)
      clear hK hHeld hb6 hk6
      refine take_call (i := 3) rfl (by kernel_rfl) (fun K2 hK => ?_)
      go_simp
      refine (eqBatch_same wt _ _ n n n f _ hHeld2.2.2.1.1.at_ HK6.out.at_ N1.out).mono ?_
      rintro e wb ⟨rfl, hb7⟩
      go_wp2_with fail
      refine hK.out _ _ (LwB.below HPB.out hHeld2 hb7) (fun hHeld => ?_)
      clear hK hHeld2 hb7 HK6
      refine take_do (i := 4) (v := (.bool false)) rfl (by kernel_rfl) (by kernel_rfl) (by kernel_rfl) (fun _ _ _ h => h) (by rfl) ?_ (by assumption) ?_
      · intro w hSw
        skip
        go_simp
      simp only [Act.put, List.setIfInBounds_toArray, List.set_cons_zero, List.set_cons_succ]
      refine wpAnyH_done (by kernel_rfl) ?_ _
      have HR := Lib.hid hHeld.1
      have X7 := Lib.hid hHeld.2.1
      have HK7 := Lib.hid hHeld.2.2.1.1
      have M6 := Lib.hid hHeld.2.2.1.2.1
      have M8 := Lib.hid hHeld.2.2.1.2.2.1
      have HRF := Lib.hid hHeld.2.2.1.2.2.2
      have HB := Lib.hid hHeld.2.2.2
      clear hHeld HPB
      obtain ⟨⟨x0, x1⟩, _⟩ := row2_cells X7.out
      go_wp2_with fail
      refine (markBatch_any gi (gi + 1) wt (some ⟨gi, 0, none⟩) n n 1 f _ (Or.inr ⟨gi, rfl, ⟨Nat.le_refl _, by omega⟩, HK7.out⟩) N1.out (by omega)).mono ?_
      rintro e wm ⟨rfl, _, ho⟩
      have hat : ∀ g, atP (some ⟨gi, 0, none⟩) g → g = gi := fun g hg => by unfold atP at hg; simp at hg; omega
      have hlo := HLO.out
      have hl4 := HL4.out
      replace M6 := Lib.hid (M6.out.same (fun g h1 h2 hl => ho.block g hl (fun h => by have := hat g h; omega)))
      replace M8 := Lib.hid (M8.out.same (fun g h1 h2 hl => ho.block g hl (fun h => by have := hat g h; omega)))
      replace HR := Lib.hid (HR.out.of_block (ho.block _ HR.out.lt (fun h => by have := hat _ h; omega)))
      replace HRF := Lib.hid (HRF.out.of_block (ho.block _ HRF.out.lt (fun h => by have := hat _ h; omega)))
      replace HB : Hid (Below w.heap.size w wm) := HB.out.trans (ho.below (fun g h => by have := hat g h; omega) HB.out.size)
      clear ho hat hlo hl4 x0 x1 X7 HK7
      have hkz : ¬ ((1 + n : Nat) : Int) < 0 := by omega
      obtain ⟨⟨b0, b1, b2, b3, b4⟩, b5, b6, b7, b8, b9⟩ := row10_cells M6.out.row
      obtain ⟨⟨d0, d1, d2, d3, d4⟩, d5, d6, d7, d8, d9⟩ := row10_cells M8.out.row
      go_wp2_with fail
      refine (eqFo_same A ax8 ay8 ax6 ay6 kx8 ky8 kx6 ky6 _ M8.out.two.px.at_ M8.out.two.py.at_ M6.out.two.px.at_ M6.out.two.py.at_ hAX.out hAY.out).mono ?_
      rintro e wo ⟨rfl, hb⟩
      replace HB : Hid (Below w.heap.size w wo) := HB.out.trans (hb.mono HB.out.size)
      replace HR := Lib.hid (wrow_below HR.out hb)
      replace HRF := Lib.hid (wrow_below HRF.out hb)
      replace M6 := Lib.hid (M6.out.below hb)
      replace M8 := Lib.hid (M8.out.below hb)
      clear hb hkz b0 b1 b2 b3 b4 b5 b6 b7 b8 b9 d0 d1 d2 d3 d4 d5 d6 d7 d8 d9
      obtain ⟨⟨d0, d1, d2, d3, d4⟩, d5, d6, d7, d8, d9⟩ := row10_cells M8.out.row
      go_wp2_with fail
      refine (markFo_any _ _ A ax8 ay8 kx8 ky8 _ M8.out.two hAX.out hAY.out).mono ?_
      rintro e wp ⟨rfl, ⟨hm1, hm2⟩, ho⟩
      have hlo := HLO.out
      have hl4 := HL4.out
      have hat : ∀ g, (atP ax8 g ∨ atP ay8 g) → W7.heap.size ≤ g := fun g hg => by
        rcases hg with hg | hg
        · exact (M8.out.two.px.atp hg).1
        · exact (M8.out.two.py.atp hg).1
      replace M6 := Lib.hid (M6.out.same (fun g h1 h2 hl => ho.block g hl (fun h => by have := hat g h; omega)))
      have R8 := Lib.hid (M8.out.row.of_block (ho.block _ M8.out.row.lt (fun h => M8.out.far _ h rfl)))
      replace HR := Lib.hid (HR.out.of_block (ho.block _ HR.out.lt (fun h => by have := hat _ h; omega)))
      replace HRF := Lib.hid (HRF.out.of_block (ho.block _ HRF.out.lt (fun h => by have := hat _ h; omega)))
      replace HB : Hid (Below w.heap.size w wp) := HB.out.trans (ho.below (fun g h => by have := hat g h; omega) HB.out.size)
      have K1 := Lib.hid hm1
      have K2 := Lib.hid hm2
      clear ho hat hlo hl4 hm1 hm2 M8 d0 d1 d2 d3 d4 d5 d6 d7 d8 d9
      obtain ⟨⟨d0, d1, d2, d3, d4⟩, d5, d6, d7, d8, d9⟩ := row10_cells R8.out
      have hqz : ¬ ((1 + A.clean.n + A.waste.n : Nat) : Int) < 0 := by omega
      go_wp2_with fail
      refine (heldFo_any A ax8 ay8 kx8 ky8 _ K1.out K2.out hAX.out hAY.out).mono ?_
      rintro e wq ⟨rfl, hb⟩
      replace HB : Hid (Below w.heap.size w wq) := HB.out.trans (hb.mono HB.out.size)
      replace HR := Lib.hid (wrow_below HR.out hb)
      replace HRF := Lib.hid (wrow_below HRF.out hb)
      replace M6 := Lib.hid (M6.out.below hb)
      replace R8 := Lib.hid (wrow_below R8.out hb)
      replace K1 := Lib.hid (K1.out.same (fun g _ hl => hb.block g hl))
      replace K2 := Lib.hid (K2.out.same (fun g _ hl => hb.block g hl))
      clear hb d0 d1 d2 d3 d4 d5 d6 d7 d8 d9
      go_wp2_with fail
      go_cut [12] (fun p W => ∃ gb ax kx ay ky, p = .pointer (some ⟨gb, 0, none⟩) ∧ Hid (FoM wq.heap.size W.heap.size A ax kx ay ky gb W ∧ Below wq.heap.size wq W))
      case first =>
        refine wp_region_held_drew (S := fun W => Below wq.heap.size wq W) (by kernel_rfl) (Below.refl _ _).drew (fun hHeld => ?_)
        obtain ⟨Z, hZ⟩ : ∃ Z, Z = wq.drew := ⟨_, rfl⟩
        rw [← hZ] at hHeld ⊢
        clear hZ
        refine take_do (i := 0) (v := (flV fl)) rfl (by kernel_rfl) (by kernel_rfl) (by kernel_rfl) (fun _ _ _ h => h) (by rfl) ?_ (by assumption) ?_
        · intro w hSw
          obtain ⟨q0, q1, q2, q3⟩ := row4_cells (wrow_below HRF.out hSw)
          go_simp
        simp only [Act.put, List.setIfInBounds_toArray, List.set_cons_zero, List.set_cons_succ]
        refine take_do (i := 2) (v := (btV wt a n k)) rfl (by kernel_rfl) (by kernel_rfl) (by kernel_rfl) (fun _ _ _ h => h) (by rfl) ?_ (by assumption) ?_
        · intro w hSw
          obtain ⟨⟨q0, q1⟩, _⟩ := row2_cells (wrow_below HR.out hSw)
          go_simp
        simp only [Act.put, List.setIfInBounds_toArray, List.set_cons_zero, List.set_cons_succ]
        refine wpAnyH_ready (rs := [1, 5]) (by kernel_rfl) (by simp) (AllReadyH.cons (at_drop (i := 1) rfl) (fun K2 hK => ?_) (AllReadyH.cons (at_drop (i := 5) rfl) (fun K2 hK => ?_) (AllReadyH.nil)))
        · go_simp
          refine (toFilter_any fl _).mono ?_
          rintro e Z22 ⟨rfl, hb⟩
          go_wp2_with fail
          refine hK.out _ _ (hHeld.trans (hb.mono hHeld.size)) (fun hHeld2 => ?_)
          clear hK hHeld
          have hHeld := hHeld2
          clear hHeld2
          clear hb
          refine wpAnyH_ready (rs := [3, 5]) (by kernel_rfl) (by simp) (AllReadyH.cons (at_drop (i := 3) rfl) (fun K2 hK => ?_) (AllReadyH.cons (at_drop (i := 5) rfl) (fun K2 hK => ?_) (AllReadyH.nil)))
          · go_simp
            refine (toBatch_any wt a n k f _ (H1.out.below (HB.out.trans (hHeld.mono HB.out.size))) N1.out).mono ?_
            rintro e Z23 ⟨⟨gs, rfl, _, hk⟩, hb⟩
            have HKS := Lib.hid hk
            go_wp2_with fail
            refine hK.out _ _ (hHeld.trans (hb.mono hHeld.size)) (fun hHeld2 => ?_)
            clear hK hHeld
            have hHeld := hHeld2
            clear hHeld2
            clear hb hk
            refine wpAnyH_ready (rs := [4, 5]) (by kernel_rfl) (by simp) (AllReadyH.cons (at_drop (i := 4) rfl) (fun K2 hK => ?_) (AllReadyH.cons (at_drop (i := 5) rfl) (fun K2 hK => ?_) (AllReadyH.nil)))
            · go_simp
              refine (HIM.out _ _ _ HKS.out.at_ N1.out ((HET.out.below HB.out).below hHeld)).mono ?_
              rintro e Z24 ⟨⟨ax, kx, ay, ky, rfl, hT⟩, hb⟩
              have HLC := Lib.hid hHeld.size
              have HTW : Hid (TwM wq.heap.size Z24.heap.size ax A.clean.n kx A.clean.f ay A.waste.n ky A.waste.f Z24) := hT.mono HLC.out (Nat.le_refl _)
              go_wp2_with fail
              refine hK.out _ _ (hHeld.trans (hb.mono hHeld.size)) (fun hHeld2 => ?_)
              clear hK hHeld
              have hHeld := hHeld2
              clear hHeld2
              clear hb hT
              refine take_call (i := 5) rfl (by kernel_rfl) (fun K2 hK => ?_)
              obtain ⟨Z25, hZ25⟩ : ∃ Z25, Z25 = Z24.alloc (.cells #[.int .i64 0, .int .i64 0, .int .i64 0, .int .i64 0, .int .i64 0, .slice none 0 0, .int .i64 0, .slice none 0 0, .int .i64 0, .int .i64 0] 87) := ⟨_, rfl⟩
              have hb : Below Z24.heap.size Z24 Z25 := by rw [hZ25]; exact bel_alloc _ _
              have RZ : Hid (Z25.rowIs Z24.heap.size 87 10 (rowL foZ)) := by show World.rowIs _ _ _ _ _; rw [hZ25]; exact rowL_alloc _ foZ _
              obtain ⟨gb, hgb⟩ : ∃ gb, gb = Z24.heap.size := ⟨_, rfl⟩
              rw [← hgb] at RZ
              have HGB : Hid (wq.heap.size ≤ gb) := by show _ ≤ _; rw [hgb]; exact hHeld.size
              have HFAR : Hid (∀ q, (atP ax q ∨ atP ay q) → q ≠ gb) := fun q hq => by
                rcases hq with hq | hq
                · have := HTW.out.px.atp hq; have h2 := hgb; omega
                · have := HTW.out.py.atp hq; have h2 := hgb; omega
              replace HTW := Lib.hid (HTW.out.below hb)
              go_simp
              rw [← hZ25, ← hgb]
              refine hK.out _ _ (hHeld.trans (hb.mono hHeld.size)) (fun hHeld2 => ?_)
              clear hK hHeld
              have hHeld := hHeld2
              clear hHeld2
              clear hb hZ25 hgb
              have o0 := RZ.out.cell (i := 0) (by omega)
              have z0 := RZ.out.frozen 0
              have o1 := RZ.out.cell (i := 1) (by omega)
              have z1 := RZ.out.frozen 1
              have o2 := RZ.out.cell (i := 2) (by omega)
              have z2 := RZ.out.frozen 2
              have o3 := RZ.out.cell (i := 3) (by omega)
              have z3 := RZ.out.frozen 3
              have o4 := RZ.out.cell (i := 4) (by omega)
              have z4 := RZ.out.frozen 4
              have o5 := RZ.out.cell (i := 5) (by omega)
              have z5 := RZ.out.frozen 5
              have o6 := RZ.out.cell (i := 6) (by omega)
              have z6 := RZ.out.frozen 6
              have o7 := RZ.out.cell (i := 7) (by omega)
              have z7 := RZ.out.frozen 7
              have o8 := RZ.out.cell (i := 8) (by omega)
              have z8 := RZ.out.frozen 8
              have o9 := RZ.out.cell (i := 9) (by omega)
              have z9 := RZ.out.frozen 9
              obtain ⟨WZ, hWZ⟩ : ∃ WZ, WZ = setAll gb 0 (foL A ax kx ay ky) Z25 := ⟨_, rfl⟩
              have hbZ : Below wq.heap.size wq WZ := by rw [hWZ]; exact setAll_below HGB.out _ _ _ hHeld
              have hsz : WZ.heap.size = Z25.heap.size := by rw [hWZ]; exact setAll_size _ _ _ _
              have HFM : Hid (FoM wq.heap.size WZ.heap.size A ax kx ay ky gb WZ) := by
                have hlt := RZ.out.lt
                refine ⟨by rw [hWZ]; exact setAll_row _ RZ.out rfl, ?_, ⟨HGB.out, by omega⟩, HFAR.out⟩
                have h0 := HTW.out
                refine ⟨?_, ?_, h0.ne⟩
                · rcases h0.px with h | ⟨q, e1, hq, hi⟩
                  · exact Or.inl h
                  · exact Or.inr ⟨q, e1, ⟨hq.1, by have := hi.lt; omega⟩, hi.block (by rw [hWZ]; exact setAll_far (HFAR.out q (Or.inl e1)) _ _ _)⟩
                · rcases h0.py with h | ⟨q, e1, hq, hi⟩
                  · exact Or.inl h
                  · exact Or.inr ⟨q, e1, ⟨hq.1, by have := hi.lt; omega⟩, hi.block (by rw [hWZ]; exact setAll_far (HFAR.out q (Or.inr e1)) _ _ _)⟩
              have hW2 : WZ = ((((((((((Z25.setCell ⟨gb, 0, none⟩ (.int .i64 A.f.held)).setCell ⟨gb, 1, none⟩ (.int .i64 A.f.most)).setCell ⟨gb, 2, none⟩ (.int .i64 A.f.catch_)).setCell ⟨gb, 3, none⟩ (.int .i64 A.f.wash)).setCell ⟨gb, 4, none⟩ (.int .i64 A.clean.wt)).setCell ⟨gb, 5, none⟩ (.slice ax A.clean.n kx)).setCell ⟨gb, 6, none⟩ (.int .i64 A.waste.wt)).setCell ⟨gb, 7, none⟩ (.slice ay A.waste.n ky)).setCell ⟨gb, 8, none⟩ (.int .i64 A.head)).setCell ⟨gb, 9, none⟩ (.int .i64 A.c)) := hWZ
              have HW2 := Lib.hid hW2
              have HBZ := Lib.hid hbZ
              clear hW2 hWZ hsz hbZ
              refine take_call (i := 6) rfl (by kernel_rfl) (fun K2 hK => ?_)
              go_simp
              rw [← HW2.out]
              refine hK.out _ _ HBZ.out (fun hHeld2 => ?_)
              clear hK hHeld hHeld2 HW2
              clear o0 z0 o1 z1 o2 z2 o3 z3 o4 z4 o5 z5 o6 z6 o7 z7 o8 z8 o9 z9
              refine wpAnyH_done (by kernel_rfl) ?_ _
              go_wp2_with fail
              go_meet
              case rel => exact ⟨gb, ax, kx, ay, ky, rfl, HFM.out, HBZ.out⟩
            · obtain ⟨Z26, hZ26⟩ : ∃ Z26, Z26 = Z23.alloc (.cells #[.int .i64 0, .int .i64 0, .int .i64 0, .int .i64 0, .int .i64 0, .slice none 0 0, .int .i64 0, .slice none 0 0, .int .i64 0, .int .i64 0] 87) := ⟨_, rfl⟩
              have hb : Below Z23.heap.size Z23 Z26 := by rw [hZ26]; exact bel_alloc _ _
              have RZ : Hid (Z26.rowIs Z23.heap.size 87 10 (rowL foZ)) := by show World.rowIs _ _ _ _ _; rw [hZ26]; exact rowL_alloc _ foZ _
              obtain ⟨gb, hgb⟩ : ∃ gb, gb = Z23.heap.size := ⟨_, rfl⟩
              rw [← hgb] at RZ
              have HGB : Hid (wq.heap.size ≤ gb) := by show _ ≤ _; rw [hgb]; exact hHeld.size
              replace HKS := Lib.hid (HKS.out.below hb)
              go_simp
              rw [← hZ26, ← hgb]
              refine hK.out _ _ (hHeld.trans (hb.mono hHeld.size)) (fun hHeld2 => ?_)
              clear hK hHeld
              have hHeld := hHeld2
              clear hHeld2
              clear hb hZ26 hgb
              refine take_call (i := 4) rfl (by kernel_rfl) (fun K2 hK => ?_)
              go_simp
              refine (HIM.out _ _ _ HKS.out.at_ N1.out ((HET.out.below HB.out).below hHeld)).mono ?_
              rintro e Z27 ⟨⟨ax, kx, ay, ky, rfl, hT⟩, hb⟩
              have HLC := Lib.hid hHeld.size
              have HFAR : Hid (∀ q, (atP ax q ∨ atP ay q) → q ≠ gb) := fun q hq => by
                have h0 := RZ.out.lt
                rcases hq with hq | hq
                · have := hT.px.atp hq; omega
                · have := hT.py.atp hq; omega
              replace RZ := Lib.hid (wrow_below RZ.out hb)
              have HTW : Hid (TwM wq.heap.size Z27.heap.size ax A.clean.n kx A.clean.f ay A.waste.n ky A.waste.f Z27) := hT.mono HLC.out (Nat.le_refl _)
              go_wp2_with fail
              refine hK.out _ _ (hHeld.trans (hb.mono hHeld.size)) (fun hHeld2 => ?_)
              clear hK hHeld
              have hHeld := hHeld2
              clear hHeld2
              clear hb hT
              have o0 := RZ.out.cell (i := 0) (by omega)
              have z0 := RZ.out.frozen 0
              have o1 := RZ.out.cell (i := 1) (by omega)
              have z1 := RZ.out.frozen 1
              have o2 := RZ.out.cell (i := 2) (by omega)
              have z2 := RZ.out.frozen 2
              have o3 := RZ.out.cell (i := 3) (by omega)
              have z3 := RZ.out.frozen 3
              have o4 := RZ.out.cell (i := 4) (by omega)
              have z4 := RZ.out.frozen 4
              have o5 := RZ.out.cell (i := 5) (by omega)
              have z5 := RZ.out.frozen 5
              have o6 := RZ.out.cell (i := 6) (by omega)
              have z6 := RZ.out.frozen 6
              have o7 := RZ.out.cell (i := 7) (by omega)
              have z7 := RZ.out.frozen 7
              have o8 := RZ.out.cell (i := 8) (by omega)
              have z8 := RZ.out.frozen 8
              have o9 := RZ.out.cell (i := 9) (by omega)
              have z9 := RZ.out.frozen 9
              obtain ⟨WZ, hWZ⟩ : ∃ WZ, WZ = setAll gb 0 (foL A ax kx ay ky) Z27 := ⟨_, rfl⟩
              have hbZ : Below wq.heap.size wq WZ := by rw [hWZ]; exact setAll_below HGB.out _ _ _ hHeld
              have hsz : WZ.heap.size = Z27.heap.size := by rw [hWZ]; exact setAll_size _ _ _ _
              have HFM : Hid (FoM wq.heap.size WZ.heap.size A ax kx ay ky gb WZ) := by
                have hlt := RZ.out.lt
                refine ⟨by rw [hWZ]; exact setAll_row _ RZ.out rfl, ?_, ⟨HGB.out, by omega⟩, HFAR.out⟩
                have h0 := HTW.out
                refine ⟨?_, ?_, h0.ne⟩
                · rcases h0.px with h | ⟨q, e1, hq, hi⟩
                  · exact Or.inl h
                  · exact Or.inr ⟨q, e1, ⟨hq.1, by have := hi.lt; omega⟩, hi.block (by rw [hWZ]; exact setAll_far (HFAR.out q (Or.inl e1)) _ _ _)⟩
                · rcases h0.py with h | ⟨q, e1, hq, hi⟩
                  · exact Or.inl h
                  · exact Or.inr ⟨q, e1, ⟨hq.1, by have := hi.lt; omega⟩, hi.block (by rw [hWZ]; exact setAll_far (HFAR.out q (Or.inr e1)) _ _ _)⟩
              have hW2 : WZ = ((((((((((Z27.setCell ⟨gb, 0, none⟩ (.int .i64 A.f.held)).setCell ⟨gb, 1, none⟩ (.int .i64 A.f.most)).setCell ⟨gb, 2, none⟩ (.int .i64 A.f.catch_)).setCell ⟨gb, 3, none⟩ (.int .i64 A.f.wash)).setCell ⟨gb, 4, none⟩ (.int .i64 A.clean.wt)).setCell ⟨gb, 5, none⟩ (.slice ax A.clean.n kx)).setCell ⟨gb, 6, none⟩ (.int .i64 A.waste.wt)).setCell ⟨gb, 7, none⟩ (.slice ay A.waste.n ky)).setCell ⟨gb, 8, none⟩ (.int .i64 A.head)).setCell ⟨gb, 9, none⟩ (.int .i64 A.c)) := hWZ
              have HW2 := Lib.hid hW2
              have HBZ := Lib.hid hbZ
              clear hW2 hWZ hsz hbZ
              refine take_call (i := 6) rfl (by kernel_rfl) (fun K2 hK => ?_)
              go_simp
              rw [← HW2.out]
              refine hK.out _ _ HBZ.out (fun hHeld2 => ?_)
              clear hK hHeld hHeld2 HW2
              clear o0 z0 o1 z1 o2 z2 o3 z3 o4 z4 o5 z5 o6 z6 o7 z7 o8 z8 o9 z9
              refine wpAnyH_done (by kernel_rfl) ?_ _
              go_wp2_with fail
              go_meet
              case rel => exact ⟨gb, ax, kx, ay, ky, rfl, HFM.out, HBZ.out⟩
          · obtain ⟨Z28, hZ28⟩ : ∃ Z28, Z28 = Z22.alloc (.cells #[.int .i64 0, .int .i64 0, .int .i64 0, .int .i64 0, .int .i64 0, .slice none 0 0, .int .i64 0, .slice none 0 0, .int .i64 0, .int .i64 0] 87) := ⟨_, rfl⟩
            have hb : Below Z22.heap.size Z22 Z28 := by rw [hZ28]; exact bel_alloc _ _
            have RZ : Hid (Z28.rowIs Z22.heap.size 87 10 (rowL foZ)) := by show World.rowIs _ _ _ _ _; rw [hZ28]; exact rowL_alloc _ foZ _
            obtain ⟨gb, hgb⟩ : ∃ gb, gb = Z22.heap.size := ⟨_, rfl⟩
            rw [← hgb] at RZ
            have HGB : Hid (wq.heap.size ≤ gb) := by show _ ≤ _; rw [hgb]; exact hHeld.size
            go_simp
            rw [← hZ28, ← hgb]
            refine hK.out _ _ (hHeld.trans (hb.mono hHeld.size)) (fun hHeld2 => ?_)
            clear hK hHeld
            have hHeld := hHeld2
            clear hHeld2
            clear hb hZ28 hgb
            refine take_call (i := 3) rfl (by kernel_rfl) (fun K2 hK => ?_)
            go_simp
            refine (toBatch_any wt a n k f _ (H1.out.below (HB.out.trans (hHeld.mono HB.out.size))) N1.out).mono ?_
            rintro e Z29 ⟨⟨gs, rfl, _, hk⟩, hb⟩
            replace RZ := Lib.hid (wrow_below RZ.out hb)
            have HKS := Lib.hid hk
            go_wp2_with fail
            refine hK.out _ _ (hHeld.trans (hb.mono hHeld.size)) (fun hHeld2 => ?_)
            clear hK hHeld
            have hHeld := hHeld2
            clear hHeld2
            clear hb hk
            refine take_call (i := 4) rfl (by kernel_rfl) (fun K2 hK => ?_)
            go_simp
            refine (HIM.out _ _ _ HKS.out.at_ N1.out ((HET.out.below HB.out).below hHeld)).mono ?_
            rintro e Z30 ⟨⟨ax, kx, ay, ky, rfl, hT⟩, hb⟩
            have HLC := Lib.hid hHeld.size
            have HFAR : Hid (∀ q, (atP ax q ∨ atP ay q) → q ≠ gb) := fun q hq => by
              have h0 := RZ.out.lt
              rcases hq with hq | hq
              · have := hT.px.atp hq; omega
              · have := hT.py.atp hq; omega
            replace RZ := Lib.hid (wrow_below RZ.out hb)
            have HTW : Hid (TwM wq.heap.size Z30.heap.size ax A.clean.n kx A.clean.f ay A.waste.n ky A.waste.f Z30) := hT.mono HLC.out (Nat.le_refl _)
            go_wp2_with fail
            refine hK.out _ _ (hHeld.trans (hb.mono hHeld.size)) (fun hHeld2 => ?_)
            clear hK hHeld
            have hHeld := hHeld2
            clear hHeld2
            clear hb hT
            have o0 := RZ.out.cell (i := 0) (by omega)
            have z0 := RZ.out.frozen 0
            have o1 := RZ.out.cell (i := 1) (by omega)
            have z1 := RZ.out.frozen 1
            have o2 := RZ.out.cell (i := 2) (by omega)
            have z2 := RZ.out.frozen 2
            have o3 := RZ.out.cell (i := 3) (by omega)
            have z3 := RZ.out.frozen 3
            have o4 := RZ.out.cell (i := 4) (by omega)
            have z4 := RZ.out.frozen 4
            have o5 := RZ.out.cell (i := 5) (by omega)
            have z5 := RZ.out.frozen 5
            have o6 := RZ.out.cell (i := 6) (by omega)
            have z6 := RZ.out.frozen 6
            have o7 := RZ.out.cell (i := 7) (by omega)
            have z7 := RZ.out.frozen 7
            have o8 := RZ.out.cell (i := 8) (by omega)
            have z8 := RZ.out.frozen 8
            have o9 := RZ.out.cell (i := 9) (by omega)
            have z9 := RZ.out.frozen 9
            obtain ⟨WZ, hWZ⟩ : ∃ WZ, WZ = setAll gb 0 (foL A ax kx ay ky) Z30 := ⟨_, rfl⟩
            have hbZ : Below wq.heap.size wq WZ := by rw [hWZ]; exact setAll_below HGB.out _ _ _ hHeld
            have hsz : WZ.heap.size = Z30.heap.size := by rw [hWZ]; exact setAll_size _ _ _ _
            have HFM : Hid (FoM wq.heap.size WZ.heap.size A ax kx ay ky gb WZ) := by
              have hlt := RZ.out.lt
              refine ⟨by rw [hWZ]; exact setAll_row _ RZ.out rfl, ?_, ⟨HGB.out, by omega⟩, HFAR.out⟩
              have h0 := HTW.out
              refine ⟨?_, ?_, h0.ne⟩
              · rcases h0.px with h | ⟨q, e1, hq, hi⟩
                · exact Or.inl h
                · exact Or.inr ⟨q, e1, ⟨hq.1, by have := hi.lt; omega⟩, hi.block (by rw [hWZ]; exact setAll_far (HFAR.out q (Or.inl e1)) _ _ _)⟩
              · rcases h0.py with h | ⟨q, e1, hq, hi⟩
                · exact Or.inl h
                · exact Or.inr ⟨q, e1, ⟨hq.1, by have := hi.lt; omega⟩, hi.block (by rw [hWZ]; exact setAll_far (HFAR.out q (Or.inr e1)) _ _ _)⟩
            have hW2 : WZ = ((((((((((Z30.setCell ⟨gb, 0, none⟩ (.int .i64 A.f.held)).setCell ⟨gb, 1, none⟩ (.int .i64 A.f.most)).setCell ⟨gb, 2, none⟩ (.int .i64 A.f.catch_)).setCell ⟨gb, 3, none⟩ (.int .i64 A.f.wash)).setCell ⟨gb, 4, none⟩ (.int .i64 A.clean.wt)).setCell ⟨gb, 5, none⟩ (.slice ax A.clean.n kx)).setCell ⟨gb, 6, none⟩ (.int .i64 A.waste.wt)).setCell ⟨gb, 7, none⟩ (.slice ay A.waste.n ky)).setCell ⟨gb, 8, none⟩ (.int .i64 A.head)).setCell ⟨gb, 9, none⟩ (.int .i64 A.c)) := hWZ
            have HW2 := Lib.hid hW2
            have HBZ := Lib.hid hbZ
            clear hW2 hWZ hsz hbZ
            refine take_call (i := 6) rfl (by kernel_rfl) (fun K2 hK => ?_)
            go_simp
            rw [← HW2.out]
            refine hK.out _ _ HBZ.out (fun hHeld2 => ?_)
            clear hK hHeld hHeld2 HW2
            clear o0 z0 o1 z1 o2 z2 o3 z3 o4 z4 o5 z5 o6 z6 o7 z7 o8 z8 o9 z9
            refine wpAnyH_done (by kernel_rfl) ?_ _
            go_wp2_with fail
            go_meet
            case rel => exact ⟨gb, ax, kx, ay, ky, rfl, HFM.out, HBZ.out⟩
        · obtain ⟨Z31, hZ31⟩ : ∃ Z31, Z31 = Z.alloc (.cells #[.int .i64 0, .int .i64 0, .int .i64 0, .int .i64 0, .int .i64 0, .slice none 0 0, .int .i64 0, .slice none 0 0, .int .i64 0, .int .i64 0] 87) := ⟨_, rfl⟩
          have hb : Below Z.heap.size Z Z31 := by rw [hZ31]; exact bel_alloc _ _
          have RZ : Hid (Z31.rowIs Z.heap.size 87 10 (rowL foZ)) := by show World.rowIs _ _ _ _ _; rw [hZ31]; exact rowL_alloc _ foZ _
          obtain ⟨gb, hgb⟩ : ∃ gb, gb = Z.heap.size := ⟨_, rfl⟩
          rw [← hgb] at RZ
          have HGB : Hid (wq.heap.size ≤ gb) := by show _ ≤ _; rw [hgb]; exact hHeld.size
          go_simp
          rw [← hZ31, ← hgb]
          refine hK.out _ _ (hHeld.trans (hb.mono hHeld.size)) (fun hHeld2 => ?_)
          clear hK hHeld
          have hHeld := hHeld2
          clear hHeld2
          clear hb hZ31 hgb
          refine take_call (i := 1) rfl (by kernel_rfl) (fun K2 hK => ?_)
          go_simp
          refine (toFilter_any fl _).mono ?_
          rintro e Z32 ⟨rfl, hb⟩
          replace RZ := Lib.hid (wrow_below RZ.out hb)
          go_wp2_with fail
          refine hK.out _ _ (hHeld.trans (hb.mono hHeld.size)) (fun hHeld2 => ?_)
          clear hK hHeld
          have hHeld := hHeld2
          clear hHeld2
          clear hb
          refine take_call (i := 3) rfl (by kernel_rfl) (fun K2 hK => ?_)
          go_simp
          refine (toBatch_any wt a n k f _ (H1.out.below (HB.out.trans (hHeld.mono HB.out.size))) N1.out).mono ?_
          rintro e Z33 ⟨⟨gs, rfl, _, hk⟩, hb⟩
          replace RZ := Lib.hid (wrow_below RZ.out hb)
          have HKS := Lib.hid hk
          go_wp2_with fail
          refine hK.out _ _ (hHeld.trans (hb.mono hHeld.size)) (fun hHeld2 => ?_)
          clear hK hHeld
          have hHeld := hHeld2
          clear hHeld2
          clear hb hk
          refine take_call (i := 4) rfl (by kernel_rfl) (fun K2 hK => ?_)
          go_simp
          refine (HIM.out _ _ _ HKS.out.at_ N1.out ((HET.out.below HB.out).below hHeld)).mono ?_
          rintro e Z34 ⟨⟨ax, kx, ay, ky, rfl, hT⟩, hb⟩
          have HLC := Lib.hid hHeld.size
          have HFAR : Hid (∀ q, (atP ax q ∨ atP ay q) → q ≠ gb) := fun q hq => by
            have h0 := RZ.out.lt
            rcases hq with hq | hq
            · have := hT.px.atp hq; omega
            · have := hT.py.atp hq; omega
          replace RZ := Lib.hid (wrow_below RZ.out hb)
          have HTW : Hid (TwM wq.heap.size Z34.heap.size ax A.clean.n kx A.clean.f ay A.waste.n ky A.waste.f Z34) := hT.mono HLC.out (Nat.le_refl _)
          go_wp2_with fail
          refine hK.out _ _ (hHeld.trans (hb.mono hHeld.size)) (fun hHeld2 => ?_)
          clear hK hHeld
          have hHeld := hHeld2
          clear hHeld2
          clear hb hT
          have o0 := RZ.out.cell (i := 0) (by omega)
          have z0 := RZ.out.frozen 0
          have o1 := RZ.out.cell (i := 1) (by omega)
          have z1 := RZ.out.frozen 1
          have o2 := RZ.out.cell (i := 2) (by omega)
          have z2 := RZ.out.frozen 2
          have o3 := RZ.out.cell (i := 3) (by omega)
          have z3 := RZ.out.frozen 3
          have o4 := RZ.out.cell (i := 4) (by omega)
          have z4 := RZ.out.frozen 4
          have o5 := RZ.out.cell (i := 5) (by omega)
          have z5 := RZ.out.frozen 5
          have o6 := RZ.out.cell (i := 6) (by omega)
          have z6 := RZ.out.frozen 6
          have o7 := RZ.out.cell (i := 7) (by omega)
          have z7 := RZ.out.frozen 7
          have o8 := RZ.out.cell (i := 8) (by omega)
          have z8 := RZ.out.frozen 8
          have o9 := RZ.out.cell (i := 9) (by omega)
          have z9 := RZ.out.frozen 9
          obtain ⟨WZ, hWZ⟩ : ∃ WZ, WZ = setAll gb 0 (foL A ax kx ay ky) Z34 := ⟨_, rfl⟩
          have hbZ : Below wq.heap.size wq WZ := by rw [hWZ]; exact setAll_below HGB.out _ _ _ hHeld
          have hsz : WZ.heap.size = Z34.heap.size := by rw [hWZ]; exact setAll_size _ _ _ _
          have HFM : Hid (FoM wq.heap.size WZ.heap.size A ax kx ay ky gb WZ) := by
            have hlt := RZ.out.lt
            refine ⟨by rw [hWZ]; exact setAll_row _ RZ.out rfl, ?_, ⟨HGB.out, by omega⟩, HFAR.out⟩
            have h0 := HTW.out
            refine ⟨?_, ?_, h0.ne⟩
            · rcases h0.px with h | ⟨q, e1, hq, hi⟩
              · exact Or.inl h
              · exact Or.inr ⟨q, e1, ⟨hq.1, by have := hi.lt; omega⟩, hi.block (by rw [hWZ]; exact setAll_far (HFAR.out q (Or.inl e1)) _ _ _)⟩
            · rcases h0.py with h | ⟨q, e1, hq, hi⟩
              · exact Or.inl h
              · exact Or.inr ⟨q, e1, ⟨hq.1, by have := hi.lt; omega⟩, hi.block (by rw [hWZ]; exact setAll_far (HFAR.out q (Or.inr e1)) _ _ _)⟩
          have hW2 : WZ = ((((((((((Z34.setCell ⟨gb, 0, none⟩ (.int .i64 A.f.held)).setCell ⟨gb, 1, none⟩ (.int .i64 A.f.most)).setCell ⟨gb, 2, none⟩ (.int .i64 A.f.catch_)).setCell ⟨gb, 3, none⟩ (.int .i64 A.f.wash)).setCell ⟨gb, 4, none⟩ (.int .i64 A.clean.wt)).setCell ⟨gb, 5, none⟩ (.slice ax A.clean.n kx)).setCell ⟨gb, 6, none⟩ (.int .i64 A.waste.wt)).setCell ⟨gb, 7, none⟩ (.slice ay A.waste.n ky)).setCell ⟨gb, 8, none⟩ (.int .i64 A.head)).setCell ⟨gb, 9, none⟩ (.int .i64 A.c)) := hWZ
          have HW2 := Lib.hid hW2
          have HBZ := Lib.hid hbZ
          clear hW2 hWZ hsz hbZ
          refine take_call (i := 6) rfl (by kernel_rfl) (fun K2 hK => ?_)
          go_simp
          rw [← HW2.out]
          refine hK.out _ _ HBZ.out (fun hHeld2 => ?_)
          clear hK hHeld hHeld2 HW2
          clear o0 z0 o1 z1 o2 z2 o3 z3 o4 z4 o5 z5 o6 z6 o7 z7 o8 z8 o9 z9
          refine wpAnyH_done (by kernel_rfl) ?_ _
          go_wp2_with fail
          go_meet
          case rel => exact ⟨gb, ax, kx, ay, ky, rfl, HFM.out, HBZ.out⟩
      case rest =>
        obtain ⟨gc, axc, kxc, ayc, kyc, rfl, hC⟩ := hcut
        obtain ⟨wu, hwu⟩ : ∃ wu, wu = wc := ⟨_, rfl⟩
        rw [← hwu] at hC ⊢
        clear hwu
        have hb := hC.out.2
        have Mc := Lib.hid hC.out.1
        replace HB : Hid (Below w.heap.size w wu) := HB.out.trans (hb.mono HB.out.size)
        replace HR := Lib.hid (wrow_below HR.out hb)
        replace HRF := Lib.hid (wrow_below HRF.out hb)
        replace M6 := Lib.hid (M6.out.below hb)
        replace R8 := Lib.hid (wrow_below R8.out hb)
        replace K1 := Lib.hid (K1.out.same (fun g _ hl => hb.block g hl))
        replace K2 := Lib.hid (K2.out.same (fun g _ hl => hb.block g hl))
        clear hC
        obtain ⟨⟨b0, b1, b2, b3, b4⟩, b5, b6, b7, b8, b9⟩ := row10_cells M6.out.row
        obtain ⟨⟨d0, d1, d2, d3, d4⟩, d5, d6, d7, d8, d9⟩ := row10_cells Mc.out.row
        go_wp2_with fail
        clear b0 b1 b2 b3 b4 b5 b6 b7 b8 b9 d0 d1 d2 d3 d4 d5 d6 d7 d8 d9
        refine (eqFo_same A axc ayc ax6 ay6 kxc kyc kx6 ky6 _ Mc.out.two.px.at_ Mc.out.two.py.at_ M6.out.two.px.at_ M6.out.two.py.at_ hAX.out hAY.out).mono ?_
        rintro e wv ⟨rfl, hb⟩
        replace HB : Hid (Below w.heap.size w wv) := HB.out.trans (hb.mono HB.out.size)
        replace HR := Lib.hid (wrow_below HR.out hb)
        replace HRF := Lib.hid (wrow_below HRF.out hb)
        replace M6 := Lib.hid (M6.out.below hb)
        replace R8 := Lib.hid (wrow_below R8.out hb)
        replace K1 := Lib.hid (K1.out.same (fun g _ hl => hb.block g hl))
        replace K2 := Lib.hid (K2.out.same (fun g _ hl => hb.block g hl))
        clear hb Mc
        obtain ⟨⟨d0, d1, d2, d3, d4⟩, d5, d6, d7, d8, d9⟩ := row10_cells R8.out
        go_wp2_with fail
        refine (heldFo_any A ax8 ay8 kx8 ky8 _ K1.out K2.out hAX.out hAY.out).mono ?_
        rintro e wx ⟨rfl, hb⟩
        replace HB : Hid (Below w.heap.size w wx) := HB.out.trans (hb.mono HB.out.size)
        replace HR := Lib.hid (wrow_below HR.out hb)
        replace HRF := Lib.hid (wrow_below HRF.out hb)
        replace M6 := Lib.hid (M6.out.below hb)
        replace R8 := Lib.hid (wrow_below R8.out hb)
        replace K1 := Lib.hid (K1.out.same (fun g _ hl => hb.block g hl))
        replace K2 := Lib.hid (K2.out.same (fun g _ hl => hb.block g hl))
        clear hb d0 d1 d2 d3 d4 d5 d6 d7 d8 d9
        go_wp2_with fail
        go_ret
        exact ⟨rfl, HB.out⟩
end Go.Proofs.YtoeibcmmpbkbpaaDoor
