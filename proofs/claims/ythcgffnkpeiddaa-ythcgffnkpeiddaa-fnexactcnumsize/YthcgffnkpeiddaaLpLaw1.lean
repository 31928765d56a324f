/-
  The laws FnExactCnumSize, FnExactCnumMul, FnExactCnumDiv.
-/
import Derived.Test.YthcgffnkpeiddaaLpS1
namespace Go.Proofs.Ythcgffnkpeiddaa
open Go.RowKit Go.Deep

attribute [local go_sem] lrun_store_float lrun_store_complex

set_option maxHeartbeats 1000000 in
theorem size_law (w : World) (a b : Nat) :
    Calls Try.prog 6 #[cnV a b] w fun e w' => e = .returned (.bool true) ∧ Below w.heap.size w w' := by
  obtain ⟨W, hW⟩ : ∃ W, W = w.alloc (.cells #[.float .f64 a, .float .f64 b] 40) := ⟨_, rfl⟩
  have HB : Hid (Below w.heap.size w W) := by show Below _ _ _; rw [hW]; exact bel_alloc _ _
  have HRA : Hid (W.rowIs w.heap.size 40 2 (rowL (cnL a b))) := by show World.rowIs _ _ _ _ _; rw [hW]; exact rowL_alloc w (cnL a b) _
  have HW := Lib.hid hW
  clear hW
  go_enter Try.func6, Try.ntmps6
  go_wp2_with fail
  rw [← HW.out]
  clear HW
  refine (toCnum_any _ _ _).mono ?_
  rintro e w1 ⟨rfl, hb⟩
  replace HB : Hid (Below w.heap.size w w1) := HB.out.trans (hb.mono HB.out.size)
  replace HRA := Lib.hid (wrow_below HRA.out hb)
  clear hb
  go_wp2_with fail
  refine (specSize_any _ _ _).mono ?_
  rintro e w2 ⟨rfl, hb⟩
  replace HB : Hid (Below w.heap.size w w2) := HB.out.trans (hb.mono HB.out.size)
  replace HRA := Lib.hid (wrow_below HRA.out hb)
  clear hb
  obtain ⟨⟨q0, q1⟩, _⟩ := row2_cells HRA.out
  go_wp2_with fail
  clear q0 q1
  refine (toCnum_any _ _ _).mono ?_
  rintro e w3 ⟨rfl, hb⟩
  replace HB : Hid (Below w.heap.size w w3) := HB.out.trans (hb.mono HB.out.size)
  replace HRA := Lib.hid (wrow_below HRA.out hb)
  clear hb
  go_wp2_with fail
  refine (implSize_any _ _ _).mono ?_
  rintro e w4 ⟨rfl, hb⟩
  replace HB : Hid (Below w.heap.size w w4) := HB.out.trans (hb.mono HB.out.size)
  replace HRA := Lib.hid (wrow_below HRA.out hb)
  clear hb
  go_wp2_with fail
  refine (same_any _ _).mono ?_
  rintro e w5 ⟨rfl, rfl⟩
  go_wp2_with fail
  go_ret
  exact ⟨rfl, HB.out⟩
set_option maxRecDepth 100000 in
set_option maxHeartbeats 4000000 in
theorem div_law (w : World) (a b c d : Nat) :
    Calls Try.prog 5 #[cnV a b, cnV c d] w fun e w' => e = .returned (.bool true) ∧ Below w.heap.size w w' := by
  obtain ⟨W, hW⟩ : ∃ W, W = (w.alloc (.cells #[.float .f64 a, .float .f64 b] 40)).alloc (.cells #[.float .f64 c, .float .f64 d] 40) := ⟨_, rfl⟩
  have HB : Hid (Below w.heap.size w W) := by show Below _ _ _; rw [hW]; exact (bel_alloc _ _).alloc (by simp) _
  have HRA : Hid (W.rowIs w.heap.size 40 2 (rowL (cnL a b))) := by show World.rowIs _ _ _ _ _; rw [hW]; exact wrow_below (rowL_alloc w (cnL a b) _) (bel_alloc _ _)
  have HRB : Hid (W.rowIs (w.heap.size + 1) 40 2 (rowL (cnL c d))) := by show World.rowIs _ _ _ _ _; rw [hW]; exact rowL_alloc' (by simp) (cnL c d) _
  have HSP := Lib.hid (fun wx => specDiv_any a b c d wx)
  have HIM := Lib.hid (fun wx => implDiv_any a b c d wx)
  generalize Fl.divRe a b c d = X at HSP HIM
  generalize Fl.divIm a b c d = Y at HSP HIM
  have HW := Lib.hid hW
  clear hW
  go_enter Try.func5, Try.ntmps5
  go_wp2_with fail
  rw [← HW.out]
  clear HW
  go_cut [5] (fun p V => ∃ gb, p = .pointer (some ⟨gb, 0, none⟩) ∧ Hid (V.rowIs gb 33 2 (rowL (cnL X Y)) ∧ Below W.heap.size W V))
  case first =>
    refine wp_region_held_drew (S := fun V => Below W.heap.size W V) (by kernel_rfl) (Below.refl _ _).drew (fun hHeld => ?_)
    obtain ⟨Z, hZ⟩ : ∃ Z, Z = W.drew := ⟨_, rfl⟩
    rw [← hZ] at hHeld ⊢
    clear hZ
    refine take_do (i := 0) (v := (cnV a b)) rfl (by kernel_rfl) (by kernel_rfl) (by kernel_rfl) (fun _ _ _ h => h) (by rfl) ?_ (by assumption) ?_
    · intro w hSw
      obtain ⟨⟨q0, q1⟩, _⟩ := row2_cells (wrow_below HRA.out hSw)
      go_simp
    simp only [Act.put, List.setIfInBounds_toArray, List.set_cons_zero, List.set_cons_succ]
    refine take_do (i := 2) (v := (cnV c d)) rfl (by kernel_rfl) (by kernel_rfl) (by kernel_rfl) (fun _ _ _ h => h) (by rfl) ?_ (by assumption) ?_
    · intro w hSw
      obtain ⟨⟨q0, q1⟩, _⟩ := row2_cells (wrow_below HRB.out hSw)
      go_simp
    simp only [Act.put, List.setIfInBounds_toArray, List.set_cons_zero, List.set_cons_succ]
    refine wpAnyH_ready (rs := [1, 5]) (by kernel_rfl) (by simp) (AllReadyH.cons (at_drop (i := 1) rfl) (fun K2 hK => ?_) (AllReadyH.cons (at_drop (i := 5) rfl) (fun K2 hK => ?_) (AllReadyH.nil)))
    · go_simp
      refine (toCnum_any _ _ _).mono ?_
      rintro e Z27 ⟨rfl, hb⟩
      go_wp2_with fail
      refine hK.out _ _ (hHeld.trans (hb.mono hHeld.size)) (fun hHeld2 => ?_)
      clear hK hHeld
      have hHeld := hHeld2
      clear hHeld2
      clear hb
      refine wpAnyH_ready (rs := [3, 5]) (by kernel_rfl) (by simp) (AllReadyH.cons (at_drop (i := 3) rfl) (fun K2 hK => ?_) (AllReadyH.cons (at_drop (i := 5) rfl) (fun K2 hK => ?_) (AllReadyH.nil)))
      · go_simp
        refine (toCnum_any _ _ _).mono ?_
        rintro e Z28 ⟨rfl, hb⟩
        go_wp2_with fail
        refine hK.out _ _ (hHeld.trans (hb.mono hHeld.size)) (fun hHeld2 => ?_)
        clear hK hHeld
        have hHeld := hHeld2
        clear hHeld2
        clear hb
        refine wpAnyH_ready (rs := [4, 5]) (by kernel_rfl) (by simp) (AllReadyH.cons (at_drop (i := 4) rfl) (fun K2 hK => ?_) (AllReadyH.cons (at_drop (i := 5) rfl) (fun K2 hK => ?_) (AllReadyH.nil)))
        · go_simp
          refine (HSP.out _).mono ?_
          rintro e Z29 ⟨rfl, hb⟩
          go_wp2_with fail
          refine hK.out _ _ (hHeld.trans (hb.mono hHeld.size)) (fun hHeld2 => ?_)
          clear hK hHeld
          have hHeld := hHeld2
          clear hHeld2
          clear hb
          refine take_call (i := 5) rfl (by kernel_rfl) (fun K2 hK => ?_)
          obtain ⟨Z30, hZ30⟩ : ∃ Z30, Z30 = Z29.alloc (.cells #[.float .f64 0, .float .f64 0] 33) := ⟨_, rfl⟩
          have hb : Below Z29.heap.size Z29 Z30 := by rw [hZ30]; exact bel_alloc _ _
          obtain ⟨gb, hgb⟩ : ∃ gb, gb = Z29.heap.size := ⟨_, rfl⟩
          have RZ : Hid (Z30.rowIs gb 33 2 (rowL (cnL 0 0))) := by show World.rowIs _ _ _ _ _; rw [hZ30]; exact rowL_alloc' hgb.symm (cnL 0 0) _
          have HGB : Hid (W.heap.size ≤ gb) := by show _ ≤ _; rw [hgb]; exact hHeld.size
          go_simp
          rw [← hZ30, ← hgb]
          refine hK.out _ _ (hHeld.trans (hb.mono hHeld.size)) (fun hHeld2 => ?_)
          clear hK hHeld
          have hHeld := hHeld2
          clear hHeld2
          clear hb hZ30 hgb
          obtain ⟨o0, o1, z0, z1, l0⟩ := told2 RZ.out
          obtain ⟨WZ, hWZ⟩ : ∃ WZ, WZ = (Z30.setCell ⟨gb, 0, none⟩ (.float .f64 X)).setCell ⟨gb, 1, none⟩ (.float .f64 Y) := ⟨_, rfl⟩
          have hbZ : Below W.heap.size W WZ := by rw [hWZ]; exact lbelow_set2 hHeld HGB.out _ _
          have HFM : Hid (WZ.rowIs gb 33 2 (rowL (cnL X Y))) := by show World.rowIs _ _ _ _ _; rw [hWZ]; exact rowL_set (rowL_set RZ.out 0 (.float .f64 X) (by simp)) 1 (.float .f64 Y) (by simp)
          have HW2 := Lib.hid hWZ
          have HBZ := Lib.hid hbZ
          clear hWZ hbZ
          refine take_call (i := 6) rfl (by kernel_rfl) (fun K2 hK => ?_)
          go_simp
          rw [← HW2.out]
          refine hK.out _ _ HBZ.out (fun hHeld2 => ?_)
          clear hK hHeld hHeld2 HW2 o0 o1 z0 z1 l0
          refine wpAnyH_done (by kernel_rfl) ?_ _
          go_wp2_with fail
          go_meet
          case rel => exact ⟨gb, rfl, HFM.out, HBZ.out⟩
        · obtain ⟨Z31, hZ31⟩ : ∃ Z31, Z31 = Z28.alloc (.cells #[.float .f64 0, .float .f64 0] 33) := ⟨_, rfl⟩
          have hb : Below Z28.heap.size Z28 Z31 := by rw [hZ31]; exact bel_alloc _ _
          obtain ⟨gb, hgb⟩ : ∃ gb, gb = Z28.heap.size := ⟨_, rfl⟩
          have RZ : Hid (Z31.rowIs gb 33 2 (rowL (cnL 0 0))) := by show World.rowIs _ _ _ _ _; rw [hZ31]; exact rowL_alloc' hgb.symm (cnL 0 0) _
          have HGB : Hid (W.heap.size ≤ gb) := by show _ ≤ _; rw [hgb]; exact hHeld.size
          go_simp
          rw [← hZ31, ← hgb]
          refine hK.out _ _ (hHeld.trans (hb.mono hHeld.size)) (fun hHeld2 => ?_)
          clear hK hHeld
          have hHeld := hHeld2
          clear hHeld2
          clear hb hZ31 hgb
          refine take_call (i := 4) rfl (by kernel_rfl) (fun K2 hK => ?_)
          go_simp
          refine (HSP.out _).mono ?_
          rintro e Z32 ⟨rfl, hb⟩
          replace RZ := Lib.hid (wrow_below RZ.out hb)
          go_wp2_with fail
          refine hK.out _ _ (hHeld.trans (hb.mono hHeld.size)) (fun hHeld2 => ?_)
          clear hK hHeld
          have hHeld := hHeld2
          clear hHeld2
          clear hb
          obtain ⟨o0, o1, z0, z1, l0⟩ := told2 RZ.out
          obtain ⟨WZ, hWZ⟩ : ∃ WZ, WZ = (Z32.setCell ⟨gb, 0, none⟩ (.float .f64 X)).setCell ⟨gb, 1, none⟩ (.float .f64 Y) := ⟨_, rfl⟩
          have hbZ : Below W.heap.size W WZ := by rw [hWZ]; exact lbelow_set2 hHeld HGB.out _ _
          have HFM : Hid (WZ.rowIs gb 33 2 (rowL (cnL X Y))) := by show World.rowIs _ _ _ _ _; rw [hWZ]; exact rowL_set (rowL_set RZ.out 0 (.float .f64 X) (by simp)) 1 (.float .f64 Y) (by simp)
          have HW2 := Lib.hid hWZ
          have HBZ := Lib.hid hbZ
          clear hWZ hbZ
          refine take_call (i := 6) rfl (by kernel_rfl) (fun K2 hK => ?_)
          go_simp
          rw [← HW2.out]
          refine hK.out _ _ HBZ.out (fun hHeld2 => ?_)
          clear hK hHeld hHeld2 HW2 o0 o1 z0 z1 l0
          refine wpAnyH_done (by kernel_rfl) ?_ _
          go_wp2_with fail
          go_meet
          case rel => exact ⟨gb, rfl, HFM.out, HBZ.out⟩
      · obtain ⟨Z33, hZ33⟩ : ∃ Z33, Z33 = Z27.alloc (.cells #[.float .f64 0, .float .f64 0] 33) := ⟨_, rfl⟩
        have hb : Below Z27.heap.size Z27 Z33 := by rw [hZ33]; exact bel_alloc _ _
        obtain ⟨gb, hgb⟩ : ∃ gb, gb = Z27.heap.size := ⟨_, rfl⟩
        have RZ : Hid (Z33.rowIs gb 33 2 (rowL (cnL 0 0))) := by show World.rowIs _ _ _ _ _; rw [hZ33]; exact rowL_alloc' hgb.symm (cnL 0 0) _
        have HGB : Hid (W.heap.size ≤ gb) := by show _ ≤ _; rw [hgb]; exact hHeld.size
        go_simp
        rw [← hZ33, ← hgb]
        refine hK.out _ _ (hHeld.trans (hb.mono hHeld.size)) (fun hHeld2 => ?_)
        clear hK hHeld
        have hHeld := hHeld2
        clear hHeld2
        clear hb hZ33 hgb
        refine take_call (i := 3) rfl (by kernel_rfl) (fun K2 hK => ?_)
        go_simp
        refine (toCnum_any _ _ _).mono ?_
        rintro e Z34 ⟨rfl, hb⟩
        replace RZ := Lib.hid (wrow_below RZ.out hb)
        go_wp2_with fail
        refine hK.out _ _ (hHeld.trans (hb.mono hHeld.size)) (fun hHeld2 => ?_)
        clear hK hHeld
        have hHeld := hHeld2
        clear hHeld2
        clear hb
        refine take_call (i := 4) rfl (by kernel_rfl) (fun K2 hK => ?_)
        go_simp
        refine (HSP.out _).mono ?_
        rintro e Z35 ⟨rfl, hb⟩
        replace RZ := Lib.hid (wrow_below RZ.out hb)
        go_wp2_with fail
        refine hK.out _ _ (hHeld.trans (hb.mono hHeld.size)) (fun hHeld2 => ?_)
        clear hK hHeld
        have hHeld := hHeld2
        clear hHeld2
        clear hb
        obtain ⟨o0, o1, z0, z1, l0⟩ := told2 RZ.out
        obtain ⟨WZ, hWZ⟩ : ∃ WZ, WZ = (Z35.setCell ⟨gb, 0, none⟩ (.float .f64 X)).setCell ⟨gb, 1, none⟩ (.float .f64 Y) := ⟨_, rfl⟩
        have hbZ : Below W.heap.size W WZ := by rw [hWZ]; exact lbelow_set2 hHeld HGB.out _ _
        have HFM : Hid (WZ.rowIs gb 33 2 (rowL (cnL X Y))) := by show World.rowIs _ _ _ _ _; rw [hWZ]; exact rowL_set (rowL_set RZ.out 0 (.float .f64 X) (by simp)) 1 (.float .f64 Y) (by simp)
        have HW2 := Lib.hid hWZ
        have HBZ := Lib.hid hbZ
        clear hWZ hbZ
        refine take_call (i := 6) rfl (by kernel_rfl) (fun K2 hK => ?_)
        go_simp
        rw [← HW2.out]
        refine hK.out _ _ HBZ.out (fun hHeld2 => ?_)
        clear hK hHeld hHeld2 HW2 o0 o1 z0 z1 l0
        refine wpAnyH_done (by kernel_rfl) ?_ _
        go_wp2_with fail
        go_meet
        case rel => exact ⟨gb, rfl, HFM.out, HBZ.out⟩
    · obtain ⟨Z36, hZ36⟩ : ∃ Z36, Z36 = Z.alloc (.cells #[.float .f64 0, .float .f64 0] 33) := ⟨_, rfl⟩
      have hb : Below Z.heap.size Z Z36 := by rw [hZ36]; exact bel_alloc _ _
      obtain ⟨gb, hgb⟩ : ∃ gb, gb = Z.heap.size := ⟨_, rfl⟩
      have RZ : Hid (Z36.rowIs gb 33 2 (rowL (cnL 0 0))) := by show World.rowIs _ _ _ _ _; rw [hZ36]; exact rowL_alloc' hgb.symm (cnL 0 0) _
      have HGB : Hid (W.heap.size ≤ gb) := by show _ ≤ _; rw [hgb]; exact hHeld.size
      go_simp
      rw [← hZ36, ← hgb]
      refine hK.out _ _ (hHeld.trans (hb.mono hHeld.size)) (fun hHeld2 => ?_)
      clear hK hHeld
      have hHeld := hHeld2
      clear hHeld2
      clear hb hZ36 hgb
      refine take_call (i := 1) rfl (by kernel_rfl) (fun K2 hK => ?_)
      go_simp
      refine (toCnum_any _ _ _).mono ?_
      rintro e Z37 ⟨rfl, hb⟩
      replace RZ := Lib.hid (wrow_below RZ.out hb)
      go_wp2_with fail
      refine hK.out _ _ (hHeld.trans (hb.mono hHeld.size)) (fun hHeld2 => ?_)
      clear hK hHeld
      have hHeld := hHeld2
      clear hHeld2
      clear hb
      refine take_call (i := 3) rfl (by kernel_rfl) (fun K2 hK => ?_)
      go_simp
      refine (toCnum_any _ _ _).mono ?_
      rintro e Z38 ⟨rfl, hb⟩
      replace RZ := Lib.hid (wrow_below RZ.out hb)
      go_wp2_with fail
      refine hK.out _ _ (hHeld.trans (hb.mono hHeld.size)) (fun hHeld2 => ?_)
      clear hK hHeld
      have hHeld := hHeld2
      clear hHeld2
      clear hb
      refine take_call (i := 4) rfl (by kernel_rfl) (fun K2 hK => ?_)
      go_simp
      refine (HSP.out _).mono ?_
      rintro e Z39 ⟨rfl, hb⟩
      replace RZ := Lib.hid (wrow_below RZ.out hb)
      go_wp2_with fail
      refine hK.out _ _ (hHeld.trans (hb.mono hHeld.size)) (fun hHeld2 => ?_)
      clear hK hHeld
      have hHeld := hHeld2
      clear hHeld2
      clear hb
      obtain ⟨o0, o1, z0, z1, l0⟩ := told2 RZ.out
      obtain ⟨WZ, hWZ⟩ : ∃ WZ, WZ = (Z39.setCell ⟨gb, 0, none⟩ (.float .f64 X)).setCell ⟨gb, 1, none⟩ (.float .f64 Y) := ⟨_, rfl⟩
      have hbZ : Below W.heap.size W WZ := by rw [hWZ]; exact lbelow_set2 hHeld HGB.out _ _
      have HFM : Hid (WZ.rowIs gb 33 2 (rowL (cnL X Y))) := by show World.rowIs _ _ _ _ _; rw [hWZ]; exact rowL_set (rowL_set RZ.out 0 (.float .f64 X) (by simp)) 1 (.float .f64 Y) (by simp)
      have HW2 := Lib.hid hWZ
      have HBZ := Lib.hid hbZ
      clear hWZ hbZ
      refine take_call (i := 6) rfl (by kernel_rfl) (fun K2 hK => ?_)
      go_simp
      rw [← HW2.out]
      refine hK.out _ _ HBZ.out (fun hHeld2 => ?_)
      clear hK hHeld hHeld2 HW2 o0 o1 z0 z1 l0
      refine wpAnyH_done (by kernel_rfl) ?_ _
      go_wp2_with fail
      go_meet
      case rel => exact ⟨gb, rfl, HFM.out, HBZ.out⟩
  case rest =>
    obtain ⟨g5, rfl, hC⟩ := hcut
    obtain ⟨w1, hw1⟩ : ∃ w1, w1 = wc := ⟨_, rfl⟩
    rw [← hw1] at hC ⊢
    clear hw1
    have hb := hC.out.2
    have M5 := Lib.hid hC.out.1
    replace HB : Hid (Below w.heap.size w w1) := HB.out.trans (hb.mono HB.out.size)
    replace HRA := Lib.hid (wrow_below HRA.out hb)
    replace HRB := Lib.hid (wrow_below HRB.out hb)
    clear hb hC
    go_wp2_with fail
    go_cut [6] (fun p V => ∃ gb, p = .pointer (some ⟨gb, 0, none⟩) ∧ Hid (V.rowIs gb 33 2 (rowL (cnL X Y)) ∧ Below w1.heap.size w1 V))
    case first =>
      refine wp_region_held_drew (S := fun V => Below w1.heap.size w1 V) (by kernel_rfl) (Below.refl _ _).drew (fun hHeld => ?_)
      obtain ⟨Z, hZ⟩ : ∃ Z, Z = w1.drew := ⟨_, rfl⟩
      rw [← hZ] at hHeld ⊢
      clear hZ
      refine take_do (i := 0) (v := (cnV a b)) rfl (by kernel_rfl) (by kernel_rfl) (by kernel_rfl) (fun _ _ _ h => h) (by rfl) ?_ (by assumption) ?_
      · intro w hSw
        obtain ⟨⟨q0, q1⟩, _⟩ := row2_cells (wrow_below HRA.out hSw)
        go_simp
      simp only [Act.put, List.setIfInBounds_toArray, List.set_cons_zero, List.set_cons_succ]
      refine take_do (i := 2) (v := (cnV c d)) rfl (by kernel_rfl) (by kernel_rfl) (by kernel_rfl) (fun _ _ _ h => h) (by rfl) ?_ (by assumption) ?_
      · intro w hSw
        obtain ⟨⟨q0, q1⟩, _⟩ := row2_cells (wrow_below HRB.out hSw)
        go_simp
      simp only [Act.put, List.setIfInBounds_toArray, List.set_cons_zero, List.set_cons_succ]
      refine wpAnyH_ready (rs := [1, 5]) (by kernel_rfl) (by simp) (AllReadyH.cons (at_drop (i := 1) rfl) (fun K2 hK => ?_) (AllReadyH.cons (at_drop (i := 5) rfl) (fun K2 hK => ?_) (AllReadyH.nil)))
      · go_simp
        refine (toCnum_any _ _ _).mono ?_
        rintro e Z40 ⟨rfl, hb⟩
        go_wp2_with fail
        refine hK.out _ _ (hHeld.trans (hb.mono hHeld.size)) (fun hHeld2 => ?_)
        clear hK hHeld
        have hHeld := hHeld2
        clear hHeld2
        clear hb
        refine wpAnyH_ready (rs := [3, 5]) (by kernel_rfl) (by simp) (AllReadyH.cons (at_drop (i := 3) rfl) (fun K2 hK => ?_) (AllReadyH.cons (at_drop (i := 5) rfl) (fun K2 hK => ?_) (AllReadyH.nil)))
        · go_simp
          refine (toCnum_any _ _ _).mono ?_
          rintro e Z41 ⟨rfl, hb⟩
          go_wp2_with fail
          refine hK.out _ _ (hHeld.trans (hb.mono hHeld.size)) (fun hHeld2 => ?_)
          clear hK hHeld
          have hHeld := hHeld2
          clear hHeld2
          clear hb
          refine wpAnyH_ready (rs := [4, 5]) (by kernel_rfl) (by simp) (AllReadyH.cons (at_drop (i := 4) rfl) (fun K2 hK => ?_) (AllReadyH.cons (at_drop (i := 5) rfl) (fun K2 hK => ?_) (AllReadyH.nil)))
          · go_simp
            refine (HIM.out _).mono ?_
            rintro e Z42 ⟨rfl, hb⟩
            go_wp2_with fail
            refine hK.out _ _ (hHeld.trans (hb.mono hHeld.size)) (fun hHeld2 => ?_)
            clear hK hHeld
            have hHeld := hHeld2
            clear hHeld2
            clear hb
            refine take_call (i := 5) rfl (by kernel_rfl) (fun K2 hK => ?_)
            obtain ⟨Z43, hZ43⟩ : ∃ Z43, Z43 = Z42.alloc (.cells #[.float .f64 0, .float .f64 0] 33) := ⟨_, rfl⟩
            have hb : Below Z42.heap.size Z42 Z43 := by rw [hZ43]; exact bel_alloc _ _
            obtain ⟨gb, hgb⟩ : ∃ gb, gb = Z42.heap.size := ⟨_, rfl⟩
            have RZ : Hid (Z43.rowIs gb 33 2 (rowL (cnL 0 0))) := by show World.rowIs _ _ _ _ _; rw [hZ43]; exact rowL_alloc' hgb.symm (cnL 0 0) _
            have HGB : Hid (w1.heap.size ≤ gb) := by show _ ≤ _; rw [hgb]; exact hHeld.size
            go_simp
            rw [← hZ43, ← hgb]
            refine hK.out _ _ (hHeld.trans (hb.mono hHeld.size)) (fun hHeld2 => ?_)
            clear hK hHeld
            have hHeld := hHeld2
            clear hHeld2
            clear hb hZ43 hgb
            obtain ⟨o0, o1, z0, z1, l0⟩ := told2 RZ.out
            obtain ⟨WZ, hWZ⟩ : ∃ WZ, WZ = (Z43.setCell ⟨gb, 0, none⟩ (.float .f64 X)).setCell ⟨gb, 1, none⟩ (.float .f64 Y) := ⟨_, rfl⟩
            have hbZ : Below w1.heap.size w1 WZ := by rw [hWZ]; exact lbelow_set2 hHeld HGB.out _ _
            have HFM : Hid (WZ.rowIs gb 33 2 (rowL (cnL X Y))) := by show World.rowIs _ _ _ _ _; rw [hWZ]; exact rowL_set (rowL_set RZ.out 0 (.float .f64 X) (by simp)) 1 (.float .f64 Y) (by simp)
            have HW2 := Lib.hid hWZ
            have HBZ := Lib.hid hbZ
            clear hWZ hbZ
            refine take_call (i := 6) rfl (by kernel_rfl) (fun K2 hK => ?_)
            go_simp
            rw [← HW2.out]
            refine hK.out _ _ HBZ.out (fun hHeld2 => ?_)
            clear hK hHeld hHeld2 HW2 o0 o1 z0 z1 l0
            refine wpAnyH_done (by kernel_rfl) ?_ _
            go_wp2_with fail
            go_meet
            case rel => exact ⟨gb, rfl, HFM.out, HBZ.out⟩
          · obtain ⟨Z44, hZ44⟩ : ∃ Z44, Z44 = Z41.alloc (.cells #[.float .f64 0, .float .f64 0] 33) := ⟨_, rfl⟩
            have hb : Below Z41.heap.size Z41 Z44 := by rw [hZ44]; exact bel_alloc _ _
            obtain ⟨gb, hgb⟩ : ∃ gb, gb = Z41.heap.size := ⟨_, rfl⟩
            have RZ : Hid (Z44.rowIs gb 33 2 (rowL (cnL 0 0))) := by show World.rowIs _ _ _ _ _; rw [hZ44]; exact rowL_alloc' hgb.symm (cnL 0 0) _
            have HGB : Hid (w1.heap.size ≤ gb) := by show _ ≤ _; rw [hgb]; exact hHeld.size
            go_simp
            rw [← hZ44, ← hgb]
            refine hK.out _ _ (hHeld.trans (hb.mono hHeld.size)) (fun hHeld2 => ?_)
            clear hK hHeld
            have hHeld := hHeld2
            clear hHeld2
            clear hb hZ44 hgb
            refine take_call (i := 4) rfl (by kernel_rfl) (fun K2 hK => ?_)
            go_simp
            refine (HIM.out _).mono ?_
            rintro e Z45 ⟨rfl, hb⟩
            replace RZ := Lib.hid (wrow_below RZ.out hb)
            go_wp2_with fail
            refine hK.out _ _ (hHeld.trans (hb.mono hHeld.size)) (fun hHeld2 => ?_)
            clear hK hHeld
            have hHeld := hHeld2
            clear hHeld2
            clear hb
            obtain ⟨o0, o1, z0, z1, l0⟩ := told2 RZ.out
            obtain ⟨WZ, hWZ⟩ : ∃ WZ, WZ = (Z45.setCell ⟨gb, 0, none⟩ (.float .f64 X)).setCell ⟨gb, 1, none⟩ (.float .f64 Y) := ⟨_, rfl⟩
            have hbZ : Below w1.heap.size w1 WZ := by rw [hWZ]; exact lbelow_set2 hHeld HGB.out _ _
            have HFM : Hid (WZ.rowIs gb 33 2 (rowL (cnL X Y))) := by show World.rowIs _ _ _ _ _; rw [hWZ]; exact rowL_set (rowL_set RZ.out 0 (.float .f64 X) (by simp)) 1 (.float .f64 Y) (by simp)
            have HW2 := Lib.hid hWZ
            have HBZ := Lib.hid hbZ
            clear hWZ hbZ
            refine take_call (i := 6) rfl (by kernel_rfl) (fun K2 hK => ?_)
            go_simp
            rw [← HW2.out]
            refine hK.out _ _ HBZ.out (fun hHeld2 => ?_)
            clear hK hHeld hHeld2 HW2 o0 o1 z0 z1 l0
            refine wpAnyH_done (by kernel_rfl) ?_ _
            go_wp2_with fail
            go_meet
            case rel => exact ⟨gb, rfl, HFM.out, HBZ.out⟩
        · obtain ⟨Z46, hZ46⟩ : ∃ Z46, Z46 = Z40.alloc (.cells #[.float .f64 0, .float .f64 0] 33) := ⟨_, rfl⟩
          have hb : Below Z40.heap.size Z40 Z46 := by rw [hZ46]; exact bel_alloc _ _
          obtain ⟨gb, hgb⟩ : ∃ gb, gb = Z40.heap.size := ⟨_, rfl⟩
          have RZ : Hid (Z46.rowIs gb 33 2 (rowL (cnL 0 0))) := by show World.rowIs _ _ _ _ _; rw [hZ46]; exact rowL_alloc' hgb.symm (cnL 0 0) _
          have HGB : Hid (w1.heap.size ≤ gb) := by show _ ≤ _; rw [hgb]; exact hHeld.size
          go_simp
          rw [← hZ46, ← hgb]
          refine hK.out _ _ (hHeld.trans (hb.mono hHeld.size)) (fun hHeld2 => ?_)
          clear hK hHeld
          have hHeld := hHeld2
          clear hHeld2
          clear hb hZ46 hgb
          refine take_call (i := 3) rfl (by kernel_rfl) (fun K2 hK => ?_)
          go_simp
          refine (toCnum_any _ _ _).mono ?_
          rintro e Z47 ⟨rfl, hb⟩
          replace RZ := Lib.hid (wrow_below RZ.out hb)
          go_wp2_with fail
          refine hK.out _ _ (hHeld.trans (hb.mono hHeld.size)) (fun hHeld2 => ?_)
          clear hK hHeld
          have hHeld := hHeld2
          clear hHeld2
          clear hb
          refine take_call (i := 4) rfl (by kernel_rfl) (fun K2 hK => ?_)
          go_simp
          refine (HIM.out _).mono ?_
          rintro e Z48 ⟨rfl, hb⟩
          replace RZ := Lib.hid (wrow_below RZ.out hb)
          go_wp2_with fail
          refine hK.out _ _ (hHeld.trans (hb.mono hHeld.size)) (fun hHeld2 => ?_)
          clear hK hHeld
          have hHeld := hHeld2
          clear hHeld2
          clear hb
          obtain ⟨o0, o1, z0, z1, l0⟩ := told2 RZ.out
          obtain ⟨WZ, hWZ⟩ : ∃ WZ, WZ = (Z48.setCell ⟨gb, 0, none⟩ (.float .f64 X)).setCell ⟨gb, 1, none⟩ (.float .f64 Y) := ⟨_, rfl⟩
          have hbZ : Below w1.heap.size w1 WZ := by rw [hWZ]; exact lbelow_set2 hHeld HGB.out _ _
          have HFM : Hid (WZ.rowIs gb 33 2 (rowL (cnL X Y))) := by show World.rowIs _ _ _ _ _; rw [hWZ]; exact rowL_set (rowL_set RZ.out 0 (.float .f64 X) (by simp)) 1 (.float .f64 Y) (by simp)
          have HW2 := Lib.hid hWZ
          have HBZ := Lib.hid hbZ
          clear hWZ hbZ
          refine take_call (i := 6) rfl (by kernel_rfl) (fun K2 hK => ?_)
          go_simp
          rw [← HW2.out]
          refine hK.out _ _ HBZ.out (fun hHeld2 => ?_)
          clear hK hHeld hHeld2 HW2 o0 o1 z0 z1 l0
          refine wpAnyH_done (by kernel_rfl) ?_ _
          go_wp2_with fail
          go_meet
          case rel => exact ⟨gb, rfl, HFM.out, HBZ.out⟩
      · obtain ⟨Z49, hZ49⟩ : ∃ Z49, Z49 = Z.alloc (.cells #[.float .f64 0, .float .f64 0] 33) := ⟨_, rfl⟩
        have hb : Below Z.heap.size Z Z49 := by rw [hZ49]; exact bel_alloc _ _
        obtain ⟨gb, hgb⟩ : ∃ gb, gb = Z.heap.size := ⟨_, rfl⟩
        have RZ : Hid (Z49.rowIs gb 33 2 (rowL (cnL 0 0))) := by show World.rowIs _ _ _ _ _; rw [hZ49]; exact rowL_alloc' hgb.symm (cnL 0 0) _
        have HGB : Hid (w1.heap.size ≤ gb) := by show _ ≤ _; rw [hgb]; exact hHeld.size
        go_simp
        rw [← hZ49, ← hgb]
        refine hK.out _ _ (hHeld.trans (hb.mono hHeld.size)) (fun hHeld2 => ?_)
        clear hK hHeld
        have hHeld := hHeld2
        clear hHeld2
        clear hb hZ49 hgb
        refine take_call (i := 1) rfl (by kernel_rfl) (fun K2 hK => ?_)
        go_simp
        refine (toCnum_any _ _ _).mono ?_
        rintro e Z50 ⟨rfl, hb⟩
        replace RZ := Lib.hid (wrow_below RZ.out hb)
        go_wp2_with fail
        refine hK.out _ _ (hHeld.trans (hb.mono hHeld.size)) (fun hHeld2 => ?_)
        clear hK hHeld
        have hHeld := hHeld2
        clear hHeld2
        clear hb
        refine take_call (i := 3) rfl (by kernel_rfl) (fun K2 hK => ?_)
        go_simp
        refine (toCnum_any _ _ _).mono ?_
        rintro e Z51 ⟨rfl, hb⟩
        replace RZ := Lib.hid (wrow_below RZ.out hb)
        go_wp2_with fail
        refine hK.out _ _ (hHeld.trans (hb.mono hHeld.size)) (fun hHeld2 => ?_)
        clear hK hHeld
        have hHeld := hHeld2
        clear hHeld2
        clear hb
        refine take_call (i := 4) rfl (by kernel_rfl) (fun K2 hK => ?_)
        go_simp
        refine (HIM.out _).mono ?_
        rintro e Z52 ⟨rfl, hb⟩
        replace RZ := Lib.hid (wrow_below RZ.out hb)
        go_wp2_with fail
        refine hK.out _ _ (hHeld.trans (hb.mono hHeld.size)) (fun hHeld2 => ?_)
        clear hK hHeld
        have hHeld := hHeld2
        clear hHeld2
        clear hb
        obtain ⟨o0, o1, z0, z1, l0⟩ := told2 RZ.out
        obtain ⟨WZ, hWZ⟩ : ∃ WZ, WZ = (Z52.setCell ⟨gb, 0, none⟩ (.float .f64 X)).setCell ⟨gb, 1, none⟩ (.float .f64 Y) := ⟨_, rfl⟩
        have hbZ : Below w1.heap.size w1 WZ := by rw [hWZ]; exact lbelow_set2 hHeld HGB.out _ _
        have HFM : Hid (WZ.rowIs gb 33 2 (rowL (cnL X Y))) := by show World.rowIs _ _ _ _ _; rw [hWZ]; exact rowL_set (rowL_set RZ.out 0 (.float .f64 X) (by simp)) 1 (.float .f64 Y) (by simp)
        have HW2 := Lib.hid hWZ
        have HBZ := Lib.hid hbZ
        clear hWZ hbZ
        refine take_call (i := 6) rfl (by kernel_rfl) (fun K2 hK => ?_)
        go_simp
        rw [← HW2.out]
        refine hK.out _ _ HBZ.out (fun hHeld2 => ?_)
        clear hK hHeld hHeld2 HW2 o0 o1 z0 z1 l0
        refine wpAnyH_done (by kernel_rfl) ?_ _
        go_wp2_with fail
        go_meet
        case rel => exact ⟨gb, rfl, HFM.out, HBZ.out⟩
    case rest =>
      obtain ⟨g6, rfl, hC⟩ := hcut
      obtain ⟨w2, hw2⟩ : ∃ w2, w2 = wc := ⟨_, rfl⟩
      rw [← hw2] at hC ⊢
      clear hw2
      have hb := hC.out.2
      have M6 := Lib.hid hC.out.1
      replace HB : Hid (Below w.heap.size w w2) := HB.out.trans (hb.mono HB.out.size)
      replace M5 := Lib.hid (wrow_below M5.out hb)
      clear hb hC
      obtain ⟨⟨p0, p1⟩, _⟩ := row2_cells M5.out
      obtain ⟨⟨r0, r1⟩, _⟩ := row2_cells M6.out
      go_wp2_with fail
      clear p0 p1 r0 r1
      refine (eqCnum_same _ _ _).mono ?_
      rintro e w3 ⟨rfl, hb⟩
      replace HB : Hid (Below w.heap.size w w3) := HB.out.trans (hb.mono HB.out.size)
      clear hb
      go_wp2_with fail
      go_ret
      exact ⟨rfl, HB.out⟩
end Go.Proofs.Ythcgffnkpeiddaa
