/-
  The program's telling of an answer of mains, and its start.
-/
import Derived.Test.YthcgffnkpeiddaaGreatDoorMnAs
namespace Go.Proofs.YthcgffnkpeiddaaGreatDoor
open Go.RowKit Go.Deep

set_option maxRecDepth 100000 in
set_option maxHeartbeats 4000000 in
theorem tell_ok (fa : Option Addr) (fn fc : Nat) (ha : Option Addr) (hn hc : Nat) (rest rounds at_ code : Int) (w : World) :
    Calls Tryz.prog 32 #[moV fa fn fc ha hn hc rest rounds at_ code, .nilIface] w fun e w' => e = .returned (moV fa fn fc ha hn hc rest rounds at_ code) ∧ Below w.heap.size w w' := by
  go_enter Tryz.func32, Tryz.ntmps32
  go_wp2_with fail
  exact bodyPost_ret (v := moV fa fn fc ha hn hc rest rounds at_ code) (by simp [results, Tryz.results32, go_sem]) rfl ⟨rfl, mbel2 _ _ _⟩
set_option maxRecDepth 100000 in
set_option maxHeartbeats 4000000 in
theorem tell_bad (fa : Option Addr) (fn fc : Nat) (ha : Option Addr) (hn hc : Nat) (rest rounds at_ code : Int) (y : Value) (a c : Int) (hA : AsFinds y c) (hS : StFinds y a) (w : World) (hg : Et w) :
    Calls Tryz.prog 32 #[moV fa fn fc ha hn hc rest rounds at_ code, .iface 86 y] w fun e w' => e = .returned (moV none 0 0 none 0 0 0 0 a c) ∧ Below w.heap.size w w' := by
  obtain ⟨W, hW⟩ : ∃ W, W = ((w.alloc (.cells (moA fa fn fc ha hn hc rest rounds at_ code) 29)).alloc (.cells (moA none 0 0 none 0 0 0 0 0 0) 29)).alloc (.cells #[.int .i64 0, .nilIface] 76) := ⟨_, rfl⟩
  have B0 : Hid (Below w.heap.size w W) := by show Below _ _ _; rw [hW]; exact (mbel2 w _ _).alloc (by simp; omega) _
  have R0 : Hid (W.rowIs (w.heap.size + 1) 29 6 (rowN (moL none 0 0 none 0 0 0 0 0 0))) := by show World.rowIs _ _ _ _ _; rw [hW]; exact nrow_below (rowN_alloc' (by simp) _ _) (nbel_alloc _ _)
  have L0 : Hid (W.rowIs (w.heap.size + 1 + 1) 76 2 (rowN [.int .i64 0, .nilIface])) := by show World.rowIs _ _ _ _ _; rw [hW]; exact rowN_alloc' (by simp) _ _
  have G0 : Hid (Et W) := hg.below B0.out
  have GW := Lib.hid hg
  have gl0 : 0 < w.heap.size := World.block_lt_of_cell? _ _ hg
  have GL := Lib.hid gl0
  have HW := Lib.hid hW
  have HA := Lib.hid hA
  have HST := Lib.hid hS
  clear hW hg gl0 hA hS
  go_enter Tryz.func32, Tryz.ntmps32
  go_wp2_with fail
  rw [← HW.out]
  refine (asSTop y a HST.out (w.heap.size + 1 + 1) _ G0.out (L0.out.cell (by omega)) (L0.out.frozen 0) (L0.out.cell (by omega)) (L0.out.frozen 1)).mono ?_
  rintro e w1 ⟨⟨bb, rfl⟩, hc, hb1⟩
  have B1 : Hid (Below w.heap.size w w1) := B0.out.trans (hb1.mono (by omega))
  have R1 : Hid (w1.rowIs (w.heap.size + 1) 29 6 (rowN (moL none 0 0 none 0 0 0 0 0 0))) := R0.out.of_block (hb1.block _ (by omega))
  have L1 := Lib.hid hc
  clear hb1 hc B0 R0 L0 G0
  go_wp2_with fail
  refine wp_region_held_drew (S := fun V => Below w.heap.size w V ∧ V.cell? ⟨w.heap.size + 1 + 1, 0, none⟩ = some (.int .i64 a)) (by kernel_rfl) ⟨B1.out.drew, L1.out⟩ (fun hHeld => ?_)
  obtain ⟨Z, hZ⟩ : ∃ Z, Z = w1.drew := ⟨_, rfl⟩
  have RZ0 : Hid (Z.rowIs (w.heap.size + 1) 29 6 (rowN (moL none 0 0 none 0 0 0 0 0 0))) := by show World.rowIs _ _ _ _ _; rw [hZ]; exact nrow_below R1.out (Below.refl _ _).drew
  rw [← hZ] at hHeld ⊢
  clear hZ
  refine take_do (i := 0) (v := (.pointer (some ⟨w.heap.size + 1 + 1, 0, none⟩))) rfl (by kernel_rfl) (by kernel_rfl) (by kernel_rfl) (fun _ _ _ h => h) (by rfl) ?_ (by assumption) ?_
  · intro w hSw
    skip
    go_simp
  simp only [Act.put, List.setIfInBounds_toArray, List.set_cons_zero, List.set_cons_succ]
  refine take_do (i := 1) (v := (.int .i64 a)) rfl (by kernel_rfl) (by kernel_rfl) (by kernel_rfl) (fun _ _ _ h => h) (by rfl) ?_ (by assumption) ?_
  · intro w hSw
    have c0 := hSw.2
    go_simp
  simp only [Act.put, List.setIfInBounds_toArray, List.set_cons_zero, List.set_cons_succ]
  refine take_do (i := 2) (v := (.iface 86 y)) rfl (by kernel_rfl) (by kernel_rfl) (by kernel_rfl) (fun _ _ _ h => h) (by rfl) ?_ (by assumption) ?_
  · intro w hSw
    skip
    go_simp
  simp only [Act.put, List.setIfInBounds_toArray, List.set_cons_zero, List.set_cons_succ]
  refine take_call (i := 3) rfl (by kernel_rfl) (fun K2 hK => ?_)
  go_simp
  refine (codeOf_any y c HA.out _ ((hHeld.1.cell (p := ⟨0, 0, none⟩) GL.out).trans GW.out)).mono ?_
  rintro e Z1 ⟨rfl, hb⟩
  go_wp2_with fail
  have R2 := nrow_below RZ0.out hb
  refine hK.out _ _ ⟨hHeld.1.trans (hb.mono hHeld.1.size), (hb.cell (World.block_lt_of_cell? _ _ hHeld.2)).trans hHeld.2⟩ (fun hHeld2 => ?_)
  clear hK hHeld hb RZ0
  refine take_do (i := 4) (v := (moV none 0 0 none 0 0 0 0 a c)) rfl (by kernel_rfl) (by kernel_rfl) (by kernel_rfl) (fun _ _ _ h => h) (by rfl) ?_ (hHeld2) ?_
  · intro w hSw
    skip
    go_simp
  simp only [Act.put, List.setIfInBounds_toArray, List.set_cons_zero, List.set_cons_succ]
  obtain ⟨⟨o0, o1, o2, o3, o4, o5⟩, z0, z1, z2, z3, z4, z5⟩ := rowN6 R2
  have l0 := R2.lt
  obtain ⟨WZ, hWZ⟩ : ∃ WZ, WZ = set6 Z1 (w.heap.size + 1) (.slice none 0 0) (.slice none 0 0) (.int .i64 0) (.int .i64 0) (.int .i64 a) (.int .i64 c) := ⟨_, rfl⟩
  have D := set6_done R2 rfl hHeld2.1 (by omega) (.slice none 0 0) (.slice none 0 0) (.int .i64 0) (.int .i64 0) (.int .i64 a) (.int .i64 c)
  rw [← hWZ] at D
  have SZ : Hid (Below w.heap.size w WZ ∧ WZ.cell? ⟨w.heap.size + 1 + 1, 0, none⟩ = some (.int .i64 a)) := ⟨D.2.1, (World.cell?_of_block (a := ⟨w.heap.size + 1 + 1, 0, none⟩) (D.2.2 _ (by show w.heap.size + 1 + 1 ≠ w.heap.size + 1; omega))).trans hHeld2.2⟩
  have RZ := Lib.hid D.1
  have HWZ : Hid (WZ = (((((Z1.setCell ⟨w.heap.size + 1, 0, none⟩ (.slice none 0 0)).setCell ⟨w.heap.size + 1, 1, none⟩ (.slice none 0 0)).setCell ⟨w.heap.size + 1, 2, none⟩ (.int .i64 0)).setCell ⟨w.heap.size + 1, 3, none⟩ (.int .i64 0)).setCell ⟨w.heap.size + 1, 4, none⟩ (.int .i64 a)).setCell ⟨w.heap.size + 1, 5, none⟩ (.int .i64 c)) := hWZ
  clear hWZ R2 D
  refine take_call (i := 5) rfl (by kernel_rfl) (fun K2 hK => ?_)
  go_simp
  rw [← HWZ.out]
  refine hK.out _ _ SZ.out (fun hHeld3 => ?_)
  clear hK hHeld2 hHeld3 HWZ o0 o1 o2 o3 o4 o5 z0 z1 z2 z3 z4 z5 l0
  refine wpAnyH_done (by kernel_rfl) ?_ _
  go_wp2_with fail
  obtain ⟨⟨x0, x1, x2, x3, x4, x5⟩, _⟩ := rowN6 RZ.out
  exact bodyPost_ret (v := moV none 0 0 none 0 0 0 0 a c) (by simp [results, Tryz.results32, go_sem, x0, x1, x2, x3, x4, x5]) rfl ⟨rfl, SZ.out.1⟩
/-- An error of the start, as it is told. -/
theorem errS_finds {ev : Value} {c a : Int} (h : ErrS ev c a) : ∃ y, ev = .iface 86 y ∧ AsFinds y c ∧ StFinds y a := by
  rcases h with ⟨s, rfl, rfl⟩ | ⟨s, rfl⟩
  · exact ⟨_, rfl, finds_one s c, st_dr s c⟩
  · exact ⟨_, rfl, finds_dsr s a c, st_ds s a c⟩
end Go.Proofs.YthcgffnkpeiddaaGreatDoor
