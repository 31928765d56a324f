/-
  The law FnExactPolyAt.
-/
import Derived.Test.YtplghjghecfeoaaLpPs
namespace Go.Proofs.Ytplghjghecfeoaa
open Go.RowKit Go.Deep

attribute [local go_sem] lrun_store_float lrun_store_complex
set_option maxRecDepth 100000 in
set_option maxHeartbeats 4000000 in
theorem polyAt_law (w : World) (a : Option Addr) (n k : Nat) (f : Nat → Nat) (h : FlIn a n f w) (_u : n ≤ 9223372036854775807) (c d : Nat) :
    Calls Try.prog 7 #[.slice a n k, cnV c d] w fun e w' => e = .returned (.bool true) ∧ Below w.heap.size w w' := by
  clear _u
  by_cases hbig : 1048576 < n
  · have hz : (1048576 : Int) < (n : Int) := by omega
    clear h
    go_enter Try.func7, Try.ntmps7
    go_wp2_with fail
    go_ret
    exact ⟨rfl, bel_alloc _ _⟩
  have hz : ¬ (1048576 : Int) < (n : Int) := by omega
  obtain ⟨W, hW⟩ : ∃ W, W = w.alloc (.cells #[.float .f64 c, .float .f64 d] 32) := ⟨_, rfl⟩
  have HB : Hid (Below w.heap.size w W) := by show Below _ _ _; rw [hW]; exact bel_alloc _ _
  have HRA : Hid (W.rowIs w.heap.size 32 2 (rowL (cnL c d))) := by show World.rowIs _ _ _ _ _; rw [hW]; exact rowL_alloc w (cnL c d) _
  have HI := Lib.hid h
  have HN : Hid (n ≤ 1048576) := by show _ ≤ _; omega
  have HSP : Hid (∀ a' k' wx, FlAt a' n f wx → Calls Try.prog 21 #[.slice a' n k', cnV c d] wx fun e w' => e = .returned (cnV (Fl.polyA f n c d).1 (Fl.polyA f n c d).2) ∧ Below wx.heap.size wx w') := fun a' k' wx hx => specPolyAt_any a' n k' f c d wx hx (by omega)
  have HIM : Hid (∀ a' k' wx, FlAt a' n f wx → Calls Try.prog 23 #[.slice a' n k', cnV c d] wx fun e w' => e = .returned (cnV (Fl.polyA f n c d).1 (Fl.polyA f n c d).2) ∧ Below wx.heap.size wx w') := fun a' k' wx hx => implPolyAt_any a' n k' f c d wx hx (by omega)
  generalize (Fl.polyA f n c d).1 = X at HSP HIM
  generalize (Fl.polyA f n c d).2 = Y at HSP HIM
  have HW := Lib.hid hW
  clear hW h hbig
  go_enter Try.func7, Try.ntmps7
  go_wp2_with fail
  rw [← HW.out]
  clear HW
  go_cut [5] (fun p V => ∃ gb, p = .pointer (some ⟨gb, 0, none⟩) ∧ Hid (V.rowIs gb 25 2 (rowL [.float .f64 X, .float .f64 Y]) ∧ Below W.heap.size W V))
  case first =>
    refine wp_region_held_drew (S := fun V => Below W.heap.size W V) (by kernel_rfl) (Below.refl _ _).drew (fun hHeld => ?_)
    obtain ⟨Z, hZ⟩ : ∃ Z, Z = W.drew := ⟨_, rfl⟩
    rw [← hZ] at hHeld ⊢
    clear hZ
    refine take_do (i := 0) (v := (.slice a n k)) rfl (by kernel_rfl) (by kernel_rfl) (by kernel_rfl) (fun _ _ _ h => h) (by rfl) ?_ (by assumption) ?_
    · intro w hSw
      skip
      go_simp
    simp only [Act.put, List.setIfInBounds_toArray, List.set_cons_zero, List.set_cons_succ]
    refine take_do (i := 2) (v := (cnV c d)) rfl (by kernel_rfl) (by kernel_rfl) (by kernel_rfl) (fun _ _ _ h => h) (by rfl) ?_ (by assumption) ?_
    · intro w hSw
      obtain ⟨⟨q0, q1⟩, _⟩ := row2_cells (wrow_below HRA.out hSw)
      go_simp
    simp only [Act.put, List.setIfInBounds_toArray, List.set_cons_zero, List.set_cons_succ]
    refine wpAnyH_ready (rs := [1, 5]) (by kernel_rfl) (by simp) (AllReadyH.cons (at_drop (i := 1) rfl) (fun K2 hK => ?_) (AllReadyH.cons (at_drop (i := 5) rfl) (fun K2 hK => ?_) (AllReadyH.nil)))
    · go_simp
      refine (toFl_any a n k f _ (HI.out.below (HB.out.trans (hHeld.mono HB.out.size))) HN.out).mono ?_
      rintro e Z1 ⟨rfl, hf, hb⟩
      have HF := Lib.hid hf
      clear hf
      go_wp2_with fail
      refine hK.out _ _ (hHeld.trans (hb.mono hHeld.size)) (fun hHeld2 => ?_)
      clear hK hHeld
      have hHeld := hHeld2
      clear hHeld2
      clear hb
      refine wpAnyH_ready (rs := [3, 5]) (by kernel_rfl) (by simp) (AllReadyH.cons (at_drop (i := 3) rfl) (fun K2 hK => ?_) (AllReadyH.cons (at_drop (i := 5) rfl) (fun K2 hK => ?_) (AllReadyH.nil)))
      · go_simp
        refine (toCnum_any _ _ _).mono ?_
        rintro e Z2 ⟨rfl, hb⟩
        replace HF := Lib.hid (HF.out.below hb)
        go_wp2_with fail
        refine hK.out _ _ (hHeld.trans (hb.mono hHeld.size)) (fun hHeld2 => ?_)
        clear hK hHeld
        have hHeld := hHeld2
        clear hHeld2
        clear hb
        refine wpAnyH_ready (rs := [4, 5]) (by kernel_rfl) (by simp) (AllReadyH.cons (at_drop (i := 4) rfl) (fun K2 hK => ?_) (AllReadyH.cons (at_drop (i := 5) rfl) (fun K2 hK => ?_) (AllReadyH.nil)))
        · go_simp
          refine (HSP.out _ _ _ HF.out.at_).mono ?_
          rintro e Z3 ⟨rfl, hb⟩
          replace HF := Lib.hid (HF.out.below hb)
          go_wp2_with fail
          refine hK.out _ _ (hHeld.trans (hb.mono hHeld.size)) (fun hHeld2 => ?_)
          clear hK hHeld
          have hHeld := hHeld2
          clear hHeld2
          clear hb
          refine take_call (i := 5) rfl (by kernel_rfl) (fun K2 hK => ?_)
          obtain ⟨Z4, hZ4⟩ : ∃ Z4, Z4 = Z3.alloc (.cells #[.float .f64 0, .float .f64 0] 25) := ⟨_, rfl⟩
          have hb : Below Z3.heap.size Z3 Z4 := by rw [hZ4]; exact bel_alloc _ _
          obtain ⟨gb, hgb⟩ : ∃ gb, gb = Z3.heap.size := ⟨_, rfl⟩
          have RZ : Hid (Z4.rowIs gb 25 2 (rowL [.float .f64 0, .float .f64 0])) := by show World.rowIs _ _ _ _ _; rw [hZ4]; exact rowL_alloc' hgb.symm [.float .f64 0, .float .f64 0] _
          have HGB : Hid (W.heap.size ≤ gb) := by show _ ≤ _; rw [hgb]; exact hHeld.size
          have HGX : Hid (gb = Z3.heap.size) := hgb
          replace HF := Lib.hid (HF.out.below hb)
          go_simp
          rw [← hZ4, ← hgb]
          refine hK.out _ _ (hHeld.trans (hb.mono hHeld.size)) (fun hHeld2 => ?_)
          clear hK hHeld
          have hHeld := hHeld2
          clear hHeld2
          clear hb hZ4 hgb HGX
          have o0 := RZ.out.cell (i := 0) (by omega)
          have z0 := RZ.out.frozen 0
          have o1 := RZ.out.cell (i := 1) (by omega)
          have z1 := RZ.out.frozen 1
          have l0 := RZ.out.lt
          obtain ⟨WZ, hWZ⟩ : ∃ WZ, WZ = ((Z4.setCell ⟨gb, 0, none⟩ (.float .f64 X)).setCell ⟨gb, 1, none⟩ (.float .f64 Y)) := ⟨_, rfl⟩
          have hbZ : Below W.heap.size W WZ := by rw [hWZ]; exact ((hHeld.setCell (p := ⟨gb, 0, none⟩) HGB.out _).setCell (p := ⟨gb, 1, none⟩) HGB.out _)
          have HFM : Hid (WZ.rowIs gb 25 2 (rowL [.float .f64 X, .float .f64 Y])) := by show World.rowIs _ _ _ _ _; rw [hWZ]; exact (rowL_set (rowL_set RZ.out 0 (.float .f64 X) (by simp)) 1 (.float .f64 Y) (by simp))
          have HWZ := Lib.hid hWZ
          have HBZ := Lib.hid hbZ
          have HW2 := HWZ
          clear hWZ hbZ
          refine take_call (i := 6) rfl (by kernel_rfl) (fun K2 hK => ?_)
          go_simp
          rw [← HW2.out]
          refine hK.out _ _ HBZ.out (fun hHeld2 => ?_)
          clear hK hHeld hHeld2 HW2 o0 z0 o1 z1 l0
          refine wpAnyH_done (by kernel_rfl) ?_ _
          go_wp2_with fail
          go_meet
          case rel => exact ⟨gb, rfl, HFM.out, HBZ.out⟩
        · obtain ⟨Z5, hZ5⟩ : ∃ Z5, Z5 = Z2.alloc (.cells #[.float .f64 0, .float .f64 0] 25) := ⟨_, rfl⟩
          have hb : Below Z2.heap.size Z2 Z5 := by rw [hZ5]; exact bel_alloc _ _
          obtain ⟨gb, hgb⟩ : ∃ gb, gb = Z2.heap.size := ⟨_, rfl⟩
          have RZ : Hid (Z5.rowIs gb 25 2 (rowL [.float .f64 0, .float .f64 0])) := by show World.rowIs _ _ _ _ _; rw [hZ5]; exact rowL_alloc' hgb.symm [.float .f64 0, .float .f64 0] _
          have HGB : Hid (W.heap.size ≤ gb) := by show _ ≤ _; rw [hgb]; exact hHeld.size
          have HGX : Hid (gb = Z2.heap.size) := hgb
          replace HF := Lib.hid (HF.out.below hb)
          go_simp
          rw [← hZ5, ← hgb]
          refine hK.out _ _ (hHeld.trans (hb.mono hHeld.size)) (fun hHeld2 => ?_)
          clear hK hHeld
          have hHeld := hHeld2
          clear hHeld2
          clear hb hZ5 hgb HGX
          refine take_call (i := 4) rfl (by kernel_rfl) (fun K2 hK => ?_)
          go_simp
          refine (HSP.out _ _ _ HF.out.at_).mono ?_
          rintro e Z6 ⟨rfl, hb⟩
          replace HF := Lib.hid (HF.out.below hb)
          replace RZ := Lib.hid (wrow_below RZ.out hb)
          go_wp2_with fail
          refine hK.out _ _ (hHeld.trans (hb.mono hHeld.size)) (fun hHeld2 => ?_)
          clear hK hHeld
          have hHeld := hHeld2
          clear hHeld2
          clear hb
          have o0 := RZ.out.cell (i := 0) (by omega)
          have z0 := RZ.out.frozen 0
          have o1 := RZ.out.cell (i := 1) (by omega)
          have z1 := RZ.out.frozen 1
          have l0 := RZ.out.lt
          obtain ⟨WZ, hWZ⟩ : ∃ WZ, WZ = ((Z6.setCell ⟨gb, 0, none⟩ (.float .f64 X)).setCell ⟨gb, 1, none⟩ (.float .f64 Y)) := ⟨_, rfl⟩
          have hbZ : Below W.heap.size W WZ := by rw [hWZ]; exact ((hHeld.setCell (p := ⟨gb, 0, none⟩) HGB.out _).setCell (p := ⟨gb, 1, none⟩) HGB.out _)
          have HFM : Hid (WZ.rowIs gb 25 2 (rowL [.float .f64 X, .float .f64 Y])) := by show World.rowIs _ _ _ _ _; rw [hWZ]; exact (rowL_set (rowL_set RZ.out 0 (.float .f64 X) (by simp)) 1 (.float .f64 Y) (by simp))
          have HWZ := Lib.hid hWZ
          have HBZ := Lib.hid hbZ
          have HW2 := HWZ
          clear hWZ hbZ
          refine take_call (i := 6) rfl (by kernel_rfl) (fun K2 hK => ?_)
          go_simp
          rw [← HW2.out]
          refine hK.out _ _ HBZ.out (fun hHeld2 => ?_)
          clear hK hHeld hHeld2 HW2 o0 z0 o1 z1 l0
          refine wpAnyH_done (by kernel_rfl) ?_ _
          go_wp2_with fail
          go_meet
          case rel => exact ⟨gb, rfl, HFM.out, HBZ.out⟩
      · obtain ⟨Z7, hZ7⟩ : ∃ Z7, Z7 = Z1.alloc (.cells #[.float .f64 0, .float .f64 0] 25) := ⟨_, rfl⟩
        have hb : Below Z1.heap.size Z1 Z7 := by rw [hZ7]; exact bel_alloc _ _
        obtain ⟨gb, hgb⟩ : ∃ gb, gb = Z1.heap.size := ⟨_, rfl⟩
        have RZ : Hid (Z7.rowIs gb 25 2 (rowL [.float .f64 0, .float .f64 0])) := by show World.rowIs _ _ _ _ _; rw [hZ7]; exact rowL_alloc' hgb.symm [.float .f64 0, .float .f64 0] _
        have HGB : Hid (W.heap.size ≤ gb) := by show _ ≤ _; rw [hgb]; exact hHeld.size
        have HGX : Hid (gb = Z1.heap.size) := hgb
        replace HF := Lib.hid (HF.out.below hb)
        go_simp
        rw [← hZ7, ← hgb]
        refine hK.out _ _ (hHeld.trans (hb.mono hHeld.size)) (fun hHeld2 => ?_)
        clear hK hHeld
        have hHeld := hHeld2
        clear hHeld2
        clear hb hZ7 hgb HGX
        refine take_call (i := 3) rfl (by kernel_rfl) (fun K2 hK => ?_)
        go_simp
        refine (toCnum_any _ _ _).mono ?_
        rintro e Z8 ⟨rfl, hb⟩
        replace HF := Lib.hid (HF.out.below hb)
        replace RZ := Lib.hid (wrow_below RZ.out hb)
        go_wp2_with fail
        refine hK.out _ _ (hHeld.trans (hb.mono hHeld.size)) (fun hHeld2 => ?_)
        clear hK hHeld
        have hHeld := hHeld2
        clear hHeld2
        clear hb
        refine take_call (i := 4) rfl (by kernel_rfl) (fun K2 hK => ?_)
        go_simp
        refine (HSP.out _ _ _ HF.out.at_).mono ?_
        rintro e Z9 ⟨rfl, hb⟩
        replace HF := Lib.hid (HF.out.below hb)
        replace RZ := Lib.hid (wrow_below RZ.out hb)
        go_wp2_with fail
        refine hK.out _ _ (hHeld.trans (hb.mono hHeld.size)) (fun hHeld2 => ?_)
        clear hK hHeld
        have hHeld := hHeld2
        clear hHeld2
        clear hb
        have o0 := RZ.out.cell (i := 0) (by omega)
        have z0 := RZ.out.frozen 0
        have o1 := RZ.out.cell (i := 1) (by omega)
        have z1 := RZ.out.frozen 1
        have l0 := RZ.out.lt
        obtain ⟨WZ, hWZ⟩ : ∃ WZ, WZ = ((Z9.setCell ⟨gb, 0, none⟩ (.float .f64 X)).setCell ⟨gb, 1, none⟩ (.float .f64 Y)) := ⟨_, rfl⟩
        have hbZ : Below W.heap.size W WZ := by rw [hWZ]; exact ((hHeld.setCell (p := ⟨gb, 0, none⟩) HGB.out _).setCell (p := ⟨gb, 1, none⟩) HGB.out _)
        have HFM : Hid (WZ.rowIs gb 25 2 (rowL [.float .f64 X, .float .f64 Y])) := by show World.rowIs _ _ _ _ _; rw [hWZ]; exact (rowL_set (rowL_set RZ.out 0 (.float .f64 X) (by simp)) 1 (.float .f64 Y) (by simp))
        have HWZ := Lib.hid hWZ
        have HBZ := Lib.hid hbZ
        have HW2 := HWZ
        clear hWZ hbZ
        refine take_call (i := 6) rfl (by kernel_rfl) (fun K2 hK => ?_)
        go_simp
        rw [← HW2.out]
        refine hK.out _ _ HBZ.out (fun hHeld2 => ?_)
        clear hK hHeld hHeld2 HW2 o0 z0 o1 z1 l0
        refine wpAnyH_done (by kernel_rfl) ?_ _
        go_wp2_with fail
        go_meet
        case rel => exact ⟨gb, rfl, HFM.out, HBZ.out⟩
    · obtain ⟨Z10, hZ10⟩ : ∃ Z10, Z10 = Z.alloc (.cells #[.float .f64 0, .float .f64 0] 25) := ⟨_, rfl⟩
      have hb : Below Z.heap.size Z Z10 := by rw [hZ10]; exact bel_alloc _ _
      obtain ⟨gb, hgb⟩ : ∃ gb, gb = Z.heap.size := ⟨_, rfl⟩
      have RZ : Hid (Z10.rowIs gb 25 2 (rowL [.float .f64 0, .float .f64 0])) := by show World.rowIs _ _ _ _ _; rw [hZ10]; exact rowL_alloc' hgb.symm [.float .f64 0, .float .f64 0] _
      have HGB : Hid (W.heap.size ≤ gb) := by show _ ≤ _; rw [hgb]; exact hHeld.size
      have HGX : Hid (gb = Z.heap.size) := hgb
      go_simp
      rw [← hZ10, ← hgb]
      refine hK.out _ _ (hHeld.trans (hb.mono hHeld.size)) (fun hHeld2 => ?_)
      clear hK hHeld
      have hHeld := hHeld2
      clear hHeld2
      clear hb hZ10 hgb HGX
      refine take_call (i := 1) rfl (by kernel_rfl) (fun K2 hK => ?_)
      go_simp
      refine (toFl_any a n k f _ (HI.out.below (HB.out.trans (hHeld.mono HB.out.size))) HN.out).mono ?_
      rintro e Z11 ⟨rfl, hf, hb⟩
      replace RZ := Lib.hid (wrow_below RZ.out hb)
      have HF := Lib.hid hf
      clear hf
      go_wp2_with fail
      refine hK.out _ _ (hHeld.trans (hb.mono hHeld.size)) (fun hHeld2 => ?_)
      clear hK hHeld
      have hHeld := hHeld2
      clear hHeld2
      clear hb
      refine take_call (i := 3) rfl (by kernel_rfl) (fun K2 hK => ?_)
      go_simp
      refine (toCnum_any _ _ _).mono ?_
      rintro e Z12 ⟨rfl, hb⟩
      replace RZ := Lib.hid (wrow_below RZ.out hb)
      replace HF := Lib.hid (HF.out.below hb)
      go_wp2_with fail
      refine hK.out _ _ (hHeld.trans (hb.mono hHeld.size)) (fun hHeld2 => ?_)
      clear hK hHeld
      have hHeld := hHeld2
      clear hHeld2
      clear hb
      refine take_call (i := 4) rfl (by kernel_rfl) (fun K2 hK => ?_)
      go_simp
      refine (HSP.out _ _ _ HF.out.at_).mono ?_
      rintro e Z13 ⟨rfl, hb⟩
      replace RZ := Lib.hid (wrow_below RZ.out hb)
      replace HF := Lib.hid (HF.out.below hb)
      go_wp2_with fail
      refine hK.out _ _ (hHeld.trans (hb.mono hHeld.size)) (fun hHeld2 => ?_)
      clear hK hHeld
      have hHeld := hHeld2
      clear hHeld2
      clear hb
      have o0 := RZ.out.cell (i := 0) (by omega)
      have z0 := RZ.out.frozen 0
      have o1 := RZ.out.cell (i := 1) (by omega)
      have z1 := RZ.out.frozen 1
      have l0 := RZ.out.lt
      obtain ⟨WZ, hWZ⟩ : ∃ WZ, WZ = ((Z13.setCell ⟨gb, 0, none⟩ (.float .f64 X)).setCell ⟨gb, 1, none⟩ (.float .f64 Y)) := ⟨_, rfl⟩
      have hbZ : Below W.heap.size W WZ := by rw [hWZ]; exact ((hHeld.setCell (p := ⟨gb, 0, none⟩) HGB.out _).setCell (p := ⟨gb, 1, none⟩) HGB.out _)
      have HFM : Hid (WZ.rowIs gb 25 2 (rowL [.float .f64 X, .float .f64 Y])) := by show World.rowIs _ _ _ _ _; rw [hWZ]; exact (rowL_set (rowL_set RZ.out 0 (.float .f64 X) (by simp)) 1 (.float .f64 Y) (by simp))
      have HWZ := Lib.hid hWZ
      have HBZ := Lib.hid hbZ
      have HW2 := HWZ
      clear hWZ hbZ
      refine take_call (i := 6) rfl (by kernel_rfl) (fun K2 hK => ?_)
      go_simp
      rw [← HW2.out]
      refine hK.out _ _ HBZ.out (fun hHeld2 => ?_)
      clear hK hHeld hHeld2 HW2 o0 z0 o1 z1 l0
      refine wpAnyH_done (by kernel_rfl) ?_ _
      go_wp2_with fail
      go_meet
      case rel => exact ⟨gb, rfl, HFM.out, HBZ.out⟩
  case rest =>
    obtain ⟨g5, rfl, hC⟩ := hcut
    obtain ⟨w1, h1⟩ : ∃ w1, w1 = wc := ⟨_, rfl⟩
    rw [← h1] at hC ⊢
    clear h1
    have hb := hC.out.2
    have M5 := Lib.hid hC.out.1
    replace HB : Hid (Below w.heap.size w w1) := HB.out.trans (hb.mono HB.out.size)
    replace HRA := Lib.hid (wrow_below HRA.out hb)
    clear hb hC
    go_wp2_with fail
    refine (toFl_any a n k f _ (HI.out.below HB.out) HN.out).mono ?_
    rintro e w2 ⟨rfl, hf, hb⟩
    obtain ⟨gx, hgx⟩ : ∃ gx, gx = w1.heap.size := ⟨_, rfl⟩
    rw [← hgx] at hf ⊢
    have HF := Lib.hid hf
    replace HB : Hid (Below w.heap.size w w2) := HB.out.trans (hb.mono HB.out.size)
    replace HRA := Lib.hid (wrow_below HRA.out hb)
    replace M5 := Lib.hid (wrow_below M5.out hb)
    clear hb hf hgx
    obtain ⟨⟨p0, p1⟩, _⟩ := row2_cells HRA.out
    go_wp2_with fail
    clear p0 p1
    refine (toCnum_any _ _ _).mono ?_
    rintro e w3 ⟨rfl, hb⟩
    replace HB : Hid (Below w.heap.size w w3) := HB.out.trans (hb.mono HB.out.size)
    replace HRA := Lib.hid (wrow_below HRA.out hb)
    replace M5 := Lib.hid (wrow_below M5.out hb)
    replace HF := Lib.hid (HF.out.below hb)
    clear hb
    go_wp2_with fail
    refine (HIM.out _ _ _ HF.out.at_).mono ?_
    rintro e w4 ⟨rfl, hb⟩
    replace HB : Hid (Below w.heap.size w w4) := HB.out.trans (hb.mono HB.out.size)
    replace HRA := Lib.hid (wrow_below HRA.out hb)
    replace M5 := Lib.hid (wrow_below M5.out hb)
    replace HF := Lib.hid (HF.out.below hb)
    clear hb
    obtain ⟨⟨p0, p1⟩, _⟩ := row2_cells M5.out
    have l5 : g5 < w4.heap.size := M5.out.lt
    obtain ⟨W4, hW4⟩ : ∃ W4, W4 = w4.alloc (.cells #[.float .f64 X, .float .f64 Y] 25) := ⟨_, rfl⟩
    have hb : Below w4.heap.size w4 W4 := by rw [hW4]; exact bel_alloc _ _
    replace HB : Hid (Below w.heap.size w W4) := HB.out.trans (hb.mono HB.out.size)
    replace HRA := Lib.hid (wrow_below HRA.out hb)
    replace M5 := Lib.hid (wrow_below M5.out hb)
    replace HF := Lib.hid (HF.out.below hb)
    have HW := Lib.hid hW4
    clear hb hW4
    go_wp2_with fail
    rw [← HW.out]
    clear HW p0 p1 l5
    refine (eqCnum_same _ _ _).mono ?_
    rintro e w5 ⟨rfl, hb⟩
    replace HB : Hid (Below w.heap.size w w5) := HB.out.trans (hb.mono HB.out.size)
    replace HRA := Lib.hid (wrow_below HRA.out hb)
    replace M5 := Lib.hid (wrow_below M5.out hb)
    replace HF := Lib.hid (HF.out.below hb)
    clear hb
    go_wp2_with fail
    refine (toFl_any a n k f _ (HI.out.below HB.out) HN.out).mono ?_
    rintro e w6 ⟨rfl, hf, hb⟩
    have HG := Lib.hid hf
    replace HB : Hid (Below w.heap.size w w6) := HB.out.trans (hb.mono HB.out.size)
    replace HRA := Lib.hid (wrow_below HRA.out hb)
    replace M5 := Lib.hid (wrow_below M5.out hb)
    replace HF := Lib.hid (HF.out.below hb)
    clear hb hf
    go_wp2_with fail
    refine (eqFl_same _ _ n n n f _ HF.out.at_ HG.out.at_ HN.out).mono ?_
    rintro e w7 ⟨rfl, hb⟩
    replace HB : Hid (Below w.heap.size w w7) := HB.out.trans (hb.mono HB.out.size)
    replace HRA := Lib.hid (wrow_below HRA.out hb)
    replace M5 := Lib.hid (wrow_below M5.out hb)
    replace HF := Lib.hid (HF.out.below hb)
    clear hb
    go_wp2_with fail
    go_ret
    exact ⟨rfl, HB.out⟩
end Go.Proofs.Ytplghjghecfeoaa
