/-
  The order of pairs, and the library's comparisons.
-/
import Derived.Test.YtipmjobhegpdgaaGreatDoorPlM0
import Derived.Test.YtipmjobhegpdgaaGreatDoorReg
import Derived.Test.YtipmjobhegpdgaaGreatDoorSortSh
import Derived.Deep.RegionHeld3
namespace Go.Proofs.YtipmjobhegpdgaaGreatDoor
open Go Go.RowKit Go.Deep

/-- Which of two is less. -/
def cmpI (x y : Int) : Int := if x < y then -1 else if y < x then 1 else 0
def orI (x y : Int) : Int := if x ≠ 0 then x else y
def cfP (x y : Int × Int) : Int := orI (cmpI x.1 y.1) (cmpI x.2 y.2)
def encP (x : Int × Int) : List Value := [.int .i64 x.1, .int .i64 x.2]
theorem ltP (x y : Int × Int) : ltOf cfP x y = decide (x.1 < y.1 ∨ (x.1 = y.1 ∧ x.2 < y.2)) := by
  unfold ltOf cfP orI cmpI
  by_cases h1 : x.1 < y.1
  · simp [h1]
  · by_cases h2 : y.1 < x.1
    · have : ¬ x.1 = y.1 := by omega
      simp [h1, h2, this]
    · have h3 : x.1 = y.1 := by omega
      by_cases h4 : x.2 < y.2
      · simp [h3, h4]
      · by_cases h5 : y.2 < x.2 <;> simp [h3, h4, h5]
theorem swoP : Sort.SWO (ltOf cfP) where
  irrefl x := by rw [ltP]; simp
  trans x y z h1 h2 := by rw [ltP] at *; simp at *; omega
  ntrans x y z h1 h2 := by rw [ltP] at *; simp at *; omega
set_option maxRecDepth 100000 in
set_option maxHeartbeats 1000000 in
theorem isnan_any (x : Int) (w : World) : Calls Tryz.prog 106 #[.int .i64 x] w fun e w' => e = .returned (.bool false) ∧ w' = w := by
  go_enter Tryz.func106, Tryz.ntmps106
  go_wp2_with fail
  go_ret
  exact ⟨by simp, rfl⟩
set_option maxRecDepth 100000 in
set_option maxHeartbeats 1000000 in
theorem compare_any (x y : Int) (w : World) : Calls Tryz.prog 95 #[.int .i64 x, .int .i64 y] w fun e w' => e = .returned (.int .i64 (cmpI x y)) ∧ w' = w := by
  unfold cmpI
  by_cases h1 : x < y
  · rw [if_pos h1]
    go_enter Tryz.func95, Tryz.ntmps95
    go_wp2_with fail
    refine (isnan_any x _).mono ?_
    rintro e w1 ⟨rfl, rfl⟩
    go_wp2_with fail
    refine (isnan_any y _).mono ?_
    rintro e w1 ⟨rfl, rfl⟩
    go_wp2_with fail
    go_ret
    exact ⟨rfl, rfl⟩
  · rw [if_neg h1]
    by_cases h2 : y < x
    · rw [if_pos h2]
      go_enter Tryz.func95, Tryz.ntmps95
      go_wp2_with fail
      refine (isnan_any x _).mono ?_
      rintro e w1 ⟨rfl, rfl⟩
      go_wp2_with fail
      refine (isnan_any y _).mono ?_
      rintro e w1 ⟨rfl, rfl⟩
      go_wp2_with fail
      go_ret
      exact ⟨rfl, rfl⟩
    · rw [if_neg h2]
      go_enter Tryz.func95, Tryz.ntmps95
      go_wp2_with fail
      refine (isnan_any x _).mono ?_
      rintro e w1 ⟨rfl, rfl⟩
      go_wp2_with fail
      refine (isnan_any y _).mono ?_
      rintro e w1 ⟨rfl, rfl⟩
      go_wp2_with fail
      go_ret
      exact ⟨rfl, rfl⟩
set_option maxRecDepth 100000 in
set_option maxHeartbeats 1000000 in
theorem or_any (b : Nat) (x y : Int) (c : Nat) (w : World) (h0 : w.cell? ⟨b, 0, none⟩ = some (.int .i64 x)) (h1 : w.cell? ⟨b, 1, none⟩ = some (.int .i64 y)) :
    Calls Tryz.prog 94 #[.slice (some ⟨b, 0, none⟩) 2 c] w fun e w' => e = .returned (.int .i64 (orI x y)) ∧ w' = w := by
  have H0 := Lib.hid h0
  have H1 := Lib.hid h1
  clear h0 h1
  go_enter Tryz.func94, Tryz.ntmps94
  go_wp2_with fail
  go_loopw [5, 8] (fun _ iv wr => ∃ i : Nat, i ≤ 2 ∧ iv = .int .i64 i ∧ wr = w ∧ (0 < i → x = 0) ∧ (1 < i → y = 0)) (fun _ iv _ => 2 - (intOf iv).toNat)
  case atStart => exact ⟨0, by omega, rfl, rfl, fun h => absurd h (by omega), fun h => absurd h (by omega)⟩
  case round =>
    obtain ⟨i, hi, rfl, rfl, hx, hy⟩ := hrel
    have h3 : i = 0 ∨ i = 1 ∨ i = 2 := by omega
    rcases h3 with rfl | rfl | rfl
    · have c0 := H0.out
      by_cases e : x = 0
      · have e' : (x != 0) = false := by simp [e]
        have E := Lib.hid e
        clear e hx hy
        go_wp2_with fail
        go_roundw
        case rel => exact ⟨1, by omega, rfl, by trivial, fun _ => E.out, fun h => absurd h (by omega)⟩
        case measure => simp [intOf]
      · have e' : (x != 0) = true := by simp [e]
        have HE : Hid (orI x y = x) := if_pos e
        clear e hx hy
        go_wp2_with fail
        go_ret
        exact ⟨by rw [HE.out]; rfl, rfl⟩
    · have c0 := H1.out
      have ex := hx (by omega)
      have HE : Hid (orI x y = y) := if_neg (fun h => h ex)
      by_cases e : y = 0
      · have e' : (y != 0) = false := by simp [e]
        have E := Lib.hid e
        have EX := Lib.hid ex
        clear e hx hy ex
        go_wp2_with fail
        go_roundw
        case rel => exact ⟨2, by omega, rfl, by trivial, fun _ => EX.out, fun _ => E.out⟩
        case measure => simp [intOf]
      · have e' : (y != 0) = true := by simp [e]
        clear e hx hy ex
        go_wp2_with fail
        go_ret
        exact ⟨by rw [HE.out]; rfl, rfl⟩
    · have ex := hx (by omega)
      have ey := hy (by omega)
      have HE : Hid (orI x y = y) := if_neg (fun h => h ex)
      have EY := Lib.hid ey
      clear hx hy ex ey
      go_wp2_with fail
      go_ret
      exact ⟨by rw [HE.out, EY.out]; rfl, rfl⟩
/-- Draws and new blocks behind a world. -/
def Grn (W V : World) : Prop := ∃ q os, V = Sort.grow (W.drewN q) os
theorem Grn.refl (W : World) : Grn W W := ⟨0, #[], by simp [World.drewN]⟩
theorem Grn.alloc {W V : World} (h : Grn W V) (o : Obj) : Grn W (V.alloc o) := by
  obtain ⟨q, os, rfl⟩ := h
  exact ⟨q, os ++ #[o], by rw [Sort.alloc_eq_grow, Sort.grow_grow]⟩
theorem Grn.drew {W V : World} (h : Grn W V) : Grn W V.drew := by
  obtain ⟨q, os, rfl⟩ := h
  exact ⟨q + 1, os, by simp [World.drewN, Sort.grow, World.drew, Nat.add_assoc]⟩
theorem Grn.trans {W V X : World} (h : Grn W V) (k : Grn V X) : Grn W X := by
  obtain ⟨q, os, rfl⟩ := h
  obtain ⟨q', os', rfl⟩ := k
  refine ⟨q + q', os ++ os', ?_⟩
  simp [World.drewN, Sort.grow, Nat.add_assoc, Array.append_assoc]
theorem Grn.below {W V : World} (h : Grn W V) : Below W.heap.size W V := by
  obtain ⟨q, os, rfl⟩ := h
  refine ⟨rfl, rfl, rfl, by simp [World.drewN], fun k hk => ?_⟩
  show ((W.drewN q).heap ++ os)[k]? = W.heap[k]?
  rw [Array.getElem?_append_left (by simpa [World.drewN] using hk)]
  rfl
set_option maxRecDepth 100000 in
set_option maxHeartbeats 1000000 in
theorem closure_any (x y : Int × Int) (w : World) :
    Calls Tryz.prog 93 #[kV x, kV y] w fun e w' => e = .returned (.int .i64 (cfP x y)) ∧ Grn w w' := by
  obtain ⟨W, hW⟩ : ∃ W, W = (w.alloc (.cells #[.int .i64 x.1, .int .i64 x.2] 112)).alloc (.cells #[.int .i64 y.1, .int .i64 y.2] 112) := ⟨_, rfl⟩
  have HG : Hid (Grn w W) := by show Grn _ _; rw [hW]; exact ((Grn.refl w).alloc _).alloc _
  have HX : Hid (W.rowIs w.heap.size 112 2 (rowN [.int .i64 x.1, .int .i64 x.2])) := by show W.rowIs _ _ _ _; rw [hW]; exact nrow_below (rowN_alloc w _ _) (nbel_alloc _ _)
  have HY : Hid (W.rowIs (w.heap.size + 1) 112 2 (rowN [.int .i64 y.1, .int .i64 y.2])) := by show W.rowIs _ _ _ _; rw [hW]; exact rowN_alloc' (by simp) _ _
  have HW := Lib.hid hW
  clear hW
  obtain ⟨⟨x0, x1⟩, _⟩ := rowN2 HX.out
  obtain ⟨⟨y0, y1⟩, _⟩ := rowN2 HY.out
  go_enter Tryz.func93, Tryz.ntmps93
  go_wp2_with fail
  rw [← HW.out]
  refine wp_region_held_drew (S := fun V => Grn W V) (by kernel_rfl) (Grn.refl W).drew (fun hHeld => ?_)
  obtain ⟨Z, hZ⟩ : ∃ Z, Z = W.drew := ⟨_, rfl⟩
  rw [← hZ] at hHeld ⊢
  clear hZ
  refine take_do (i := 0) (v := (.pointer (some ⟨w.heap.size, 0, none⟩))) rfl (by kernel_rfl) (by kernel_rfl) (by kernel_rfl) (fun _ _ _ h => h) (by rfl) ?_ (by assumption) ?_
  · intro w hSw
    skip
    go_simp
  simp only [Act.put, List.setIfInBounds_toArray, List.set_cons_zero, List.set_cons_succ]
  refine take_do (i := 1) (v := (.int .i64 x.1)) rfl (by kernel_rfl) (by kernel_rfl) (by kernel_rfl) (fun _ _ _ h => h) (by rfl) ?_ (by assumption) ?_
  · intro w hSw
    have hc_x0 := (hSw.below.cell (World.block_lt_of_cell? _ _ x0)).trans x0
    go_simp
  simp only [Act.put, List.setIfInBounds_toArray, List.set_cons_zero, List.set_cons_succ]
  refine take_do (i := 2) (v := (.pointer (some ⟨w.heap.size + 1, 0, none⟩))) rfl (by kernel_rfl) (by kernel_rfl) (by kernel_rfl) (fun _ _ _ h => h) (by rfl) ?_ (by assumption) ?_
  · intro w hSw
    skip
    go_simp
  simp only [Act.put, List.setIfInBounds_toArray, List.set_cons_zero, List.set_cons_succ]
  refine take_do (i := 3) (v := (.int .i64 y.1)) rfl (by kernel_rfl) (by kernel_rfl) (by kernel_rfl) (fun _ _ _ h => h) (by rfl) ?_ (by assumption) ?_
  · intro w hSw
    have hc_y0 := (hSw.below.cell (World.block_lt_of_cell? _ _ y0)).trans y0
    go_simp
  simp only [Act.put, List.setIfInBounds_toArray, List.set_cons_zero, List.set_cons_succ]
  refine take_do (i := 5) (v := (.pointer (some ⟨w.heap.size, 1, none⟩))) rfl (by kernel_rfl) (by kernel_rfl) (by kernel_rfl) (fun _ _ _ h => h) (by rfl) ?_ (by assumption) ?_
  · intro w hSw
    skip
    go_simp
  simp only [Act.put, List.setIfInBounds_toArray, List.set_cons_zero, List.set_cons_succ]
  refine take_do (i := 6) (v := (.int .i64 x.2)) rfl (by kernel_rfl) (by kernel_rfl) (by kernel_rfl) (fun _ _ _ h => h) (by rfl) ?_ (by assumption) ?_
  · intro w hSw
    have hc_x1 := (hSw.below.cell (World.block_lt_of_cell? _ _ x1)).trans x1
    go_simp
  simp only [Act.put, List.setIfInBounds_toArray, List.set_cons_zero, List.set_cons_succ]
  refine take_do (i := 7) (v := (.pointer (some ⟨w.heap.size + 1, 1, none⟩))) rfl (by kernel_rfl) (by kernel_rfl) (by kernel_rfl) (fun _ _ _ h => h) (by rfl) ?_ (by assumption) ?_
  · intro w hSw
    skip
    go_simp
  simp only [Act.put, List.setIfInBounds_toArray, List.set_cons_zero, List.set_cons_succ]
  refine take_do (i := 8) (v := (.int .i64 y.2)) rfl (by kernel_rfl) (by kernel_rfl) (by kernel_rfl) (fun _ _ _ h => h) (by rfl) ?_ (by assumption) ?_
  · intro w hSw
    have hc_y1 := (hSw.below.cell (World.block_lt_of_cell? _ _ y1)).trans y1
    go_simp
  simp only [Act.put, List.setIfInBounds_toArray, List.set_cons_zero, List.set_cons_succ]
  refine take_call (i := 4) rfl (by kernel_rfl) (fun K2 hK => ?_)
  go_simp
  refine (compare_any x.1 y.1 _).mono ?_
  rintro e Z1 ⟨rfl, rfl⟩
  go_wp2_with fail
  refine hK.out _ _ hHeld (fun hHeld2 => ?_)
  clear hK hHeld
  have hHeld := hHeld2
  clear hHeld2
  refine take_call (i := 9) rfl (by kernel_rfl) (fun K2 hK => ?_)
  go_simp
  refine (compare_any x.2 y.2 _).mono ?_
  rintro e Z1 ⟨rfl, rfl⟩
  go_wp2_with fail
  refine hK.out _ _ hHeld (fun hHeld2 => ?_)
  clear hK hHeld
  have hHeld := hHeld2
  clear hHeld2
  refine take_call (i := 10) rfl (by kernel_rfl) (fun K2 hK => ?_)
  go_simp
  obtain ⟨gb, hgb⟩ : ∃ gb, gb = Z1.heap.size := ⟨_, rfl⟩
  obtain ⟨Z2, hZ2⟩ : ∃ Z2, Z2 = Z1.alloc (.cells #[.int .i64 (cmpI x.1 y.1), .int .i64 (cmpI x.2 y.2)] 3) := ⟨_, rfl⟩
  have HC0 : Hid (Z2.rowIs gb 3 2 (rowN [.int .i64 (cmpI x.1 y.1), .int .i64 (cmpI x.2 y.2)])) := by show World.rowIs _ _ _ _ _; rw [hZ2, hgb]; exact rowN_alloc _ _ _
  have HG2 : Hid (Grn W Z2) := by show Grn _ _; rw [hZ2]; exact hHeld.alloc _
  rw [← hZ2, ← hgb]
  clear hZ2 hgb
  refine hK.out _ _ HG2.out (fun hHeld2 => ?_)
  clear hK hHeld
  have hHeld := hHeld2
  clear hHeld2
  obtain ⟨⟨o0, o1⟩, _⟩ := rowN2 HC0.out
  refine take_call (i := 11) rfl (by kernel_rfl) (fun K2 hK => ?_)
  go_simp
  refine (or_any gb _ _ 2 _ o0 o1).mono ?_
  rintro e Z3 ⟨rfl, rfl⟩
  go_wp2_with fail
  refine hK.out _ _ hHeld (fun hHeld2 => ?_)
  clear hK hHeld
  have hHeld := hHeld2
  clear hHeld2
  refine take_do (i := 12) (v := (.int .i64 (orI (cmpI x.1 y.1) (cmpI x.2 y.2)))) rfl (by kernel_rfl) (by kernel_rfl) (by kernel_rfl) (fun _ _ _ h => h) (by rfl) ?_ (by assumption) ?_
  · intro w hSw
    skip
    go_simp
  simp only [Act.put, List.setIfInBounds_toArray, List.set_cons_zero, List.set_cons_succ]
  refine wpAnyH_done (by kernel_rfl) ?_ _
  have HGF : Hid (Grn w _) := HG.out.trans hHeld
  clear hHeld
  go_wp2_with fail
  go_ret
  exact ⟨rfl, HGF.out⟩
end Go.Proofs.YtipmjobhegpdgaaGreatDoor
