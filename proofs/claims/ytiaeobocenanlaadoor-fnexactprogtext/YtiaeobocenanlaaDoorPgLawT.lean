/-
  The law FnExactProgText.
-/
import Derived.Test.YtiaeobocenanlaaDoorPgLa
import Derived.Test.YtiaeobocenanlaaDoorPgTs
namespace Go.Proofs.YtiaeobocenanlaaDoor
open Go.RowKit Go.Deep

set_option maxRecDepth 100000 in
set_option maxHeartbeats 4000000 in
theorem progText_law (w : World) (n : Pg.Prog) (la : Option Addr) (lk : Nat) (fa : Option Addr) (fk : Nat) (wa : Option Addr) (wk : Nat) (h : PgIn n la fa wa w) (hl : PgLens n) (ht : TabOk w) :
    Calls Tryd.prog 3 #[pgV n la lk fa fk wa wk] w fun e w' => e = .returned (.bool true) ∧ Below w.heap.size w w' := by
  have H := Lib.hid h
  have HTB := Lib.hid ht
  clear ht
  have RW := Lib.hid (rowN_alloc w (pgL n la lk fa fk wa wk) 26)
  obtain ⟨W, hW⟩ : ∃ W, W = w.alloc (.cells #[.slice la n.bn lk, .slice fa n.on fk, .slice wa n.nn wk] 26) := ⟨_, rfl⟩
  have R0 : Hid (W.rowIs w.heap.size 26 3 (rowN (pgL n la lk fa fk wa wk))) := by rw [hW]; exact rowN_alloc w _ _
  have B0 : Hid (Below w.heap.size w W) := by rw [hW]; exact nbel_alloc _ _
  have HW := Lib.hid hW
  clear h hW RW
  go_enter Tryd.func3, Tryd.ntmps3
  go_wp2_with fail
  rw [← HW.out]
  refine (szProg_any n la lk fa fk wa wk _ (H.out.below B0.out) hl).mono ?_
  rintro e w1 ⟨⟨z, rfl, hz⟩, hb⟩
  have R1 := Lib.hid (nrow_below R0.out hb)
  have B1 : Hid (Below w.heap.size w w1) := B0.out.trans (hb.mono B0.out.size)
  clear hb R0 B0
  rcases hz with hz | ⟨hz, hs⟩
  · go_wp2_with fail
    go_ret
    exact ⟨rfl, B1.out⟩
  have HS := Lib.hid hs
  have hz0 : ¬ z < 0 := by omega
  clear hs hz
  obtain ⟨⟨r0, r1, r2⟩, _⟩ := rowN3 R1.out
  go_wp2_with fail
  refine (toProg_any n la lk fa fk wa wk _ (H.out.below B1.out) HS.out).mono ?_
  rintro e w2 ⟨⟨gl, gf, gw, rfl, hk⟩, hb⟩
  have R2 := Lib.hid (nrow_below R1.out hb)
  have B2 : Hid (Below w.heap.size w w2) := B1.out.trans (hb.mono B1.out.size)
  have K2 := Lib.hid hk
  clear hb hk R1 B1 r0 r1 r2
  obtain ⟨⟨r0, r1, r2⟩, _⟩ := rowN3 R2.out
  go_wp2_with fail
  refine (specText_any' n _ _ _ _ _ _ _ K2.out.at_ HS.out).mono ?_
  rintro e w3 ⟨rfl, hb⟩
  have R3 := Lib.hid (nrow_below R2.out hb)
  have B3 : Hid (Below w.heap.size w w3) := B2.out.trans (hb.mono B2.out.size)
  obtain ⟨bb, hbe⟩ : ∃ bb, bb = Pg.text n := ⟨_, rfl⟩
  have HBE := Lib.hid hbe
  rw [← hbe]
  clear hbe
  clear hb R2 B2 K2 r0 r1 r2
  obtain ⟨⟨r0, r1, r2⟩, _⟩ := rowN3 R3.out
  go_wp2_with fail
  refine (toProg_any n la lk fa fk wa wk _ (H.out.below B3.out) HS.out).mono ?_
  rintro e w4 ⟨⟨gl2, gf2, gw2, rfl, hk⟩, hb⟩
  have R4 := Lib.hid (nrow_below R3.out hb)
  have B4 : Hid (Below w.heap.size w w4) := B3.out.trans (hb.mono B3.out.size)
  have K4 := Lib.hid hk
  clear hb hk R3 B3 r0 r1 r2
  obtain ⟨W4, hW4⟩ : ∃ W4, W4 = w4.alloc (.cells #[.slice (some ⟨gl2, 0, none⟩) n.bn n.bn, .slice (some ⟨gf2, 0, none⟩) n.on n.on, .slice (some ⟨gw2, 0, none⟩) n.nn n.nn] 32) := ⟨_, rfl⟩
  have Q4 : Hid (W4.rowIs w4.heap.size 32 3 (rowN (pgL n (some ⟨gl2, 0, none⟩) n.bn (some ⟨gf2, 0, none⟩) n.on (some ⟨gw2, 0, none⟩) n.nn))) := by rw [hW4]; exact rowN_alloc w4 _ _
  have R5 : Hid (W4.rowIs w.heap.size 26 3 (rowN (pgL n la lk fa fk wa wk))) := by rw [hW4]; exact nrow_below R4.out (nbel_alloc _ _)
  have B5 : Hid (Below w.heap.size w W4) := by rw [hW4]; exact B4.out.alloc B4.out.size _
  have K5 : Hid (PgBlk n w3.heap.size gl2 gf2 gw2 W4) := by rw [hW4]; exact K4.out.below (nbel_alloc _ _)
  have HW4 := Lib.hid hW4
  clear hW4 R4 B4 K4
  go_wp2_with fail
  rw [← HW4.out]
  refine (implText_any' n _ _ _ _ _ _ _ K5.out.at_ HS.out (Lib.tabBelow_of_tabIs HTB.out _ B5.out)).mono ?_
  rintro e w5 ⟨rfl, hb⟩
  rw [← HBE.out]
  have S := Lib.hid (PGL.below lastsg_true (P := fun _ => True) ⟨R5.out, Q4.out, K5.out, B5.out, trivial⟩ hb)
  clear hb R5 B5 K5 Q4
  have hbb : (bb.toList == bb.toList) = true := by simp
  go_wp2_with fail
  refine wp_region_held_drew (S := PGL w n la lk fa fk wa wk w4.heap.size w3.heap.size gl2 gf2 gw2 (fun _ => True)) (by kernel_rfl) (S.out.below lastsg_true (Below.refl _ _).drew) (fun hHeld => ?_)
  clear S
  refine take_do (i := 0) (v := (pgV n (some ⟨gl2, 0, none⟩) n.bn (some ⟨gf2, 0, none⟩) n.on (some ⟨gw2, 0, none⟩) n.nn)) rfl (by kernel_rfl) (by kernel_rfl) (by kernel_rfl) (fun _ _ _ h => h) (by rfl) ?_ (by assumption) ?_
  · intro w hSw
    obtain ⟨⟨a0, a1, a2⟩, _⟩ := rowN3 hSw.rx
    go_simp
  simp only [Act.put, List.setIfInBounds_toArray, List.set_cons_zero, List.set_cons_succ]
  refine take_do (i := 1) (v := (pgV n la lk fa fk wa wk)) rfl (by kernel_rfl) (by kernel_rfl) (by kernel_rfl) (fun _ _ _ h => h) (by rfl) ?_ (by assumption) ?_
  · intro w hSw
    obtain ⟨⟨a0, a1, a2⟩, _⟩ := rowN3 hSw.ra
    go_simp
  simp only [Act.put, List.setIfInBounds_toArray, List.set_cons_zero, List.set_cons_succ]
  refine take_call (i := 2) rfl (by kernel_rfl) (fun K2 hK => ?_)
  go_simp
  refine (toProg_any n la lk fa fk wa wk _ (H.out.below hHeld.old) HS.out).mono ?_
  rintro e w6 ⟨⟨gl3, gf3, gw3, rfl, hk6⟩, hb6⟩
  have HK6 := Lib.hid hk6
  go_wp2_with fail
  refine hK.out _ _ (hHeld.below lastsg_true hb6) (fun hHeld2 => ?_)
  clear hK hHeld hb6 hk6
  refine take_call (i := 3) rfl (by kernel_rfl) (fun K2 hK => ?_)
  go_simp
  refine (eqProg_same n _ _ _ _ _ _ _ _ _ _ _ _ _ hHeld2.kx.at_ HK6.out.at_ HS.out).mono ?_
  rintro e w7 ⟨rfl, hb7⟩
  go_wp2_with fail
  refine hK.out _ _ (hHeld2.below lastsg_true hb7) (fun hHeld => ?_)
  clear hK hHeld2 hb7
  refine take_do (i := 4) (v := (.bool false)) rfl (by kernel_rfl) (by kernel_rfl) (by kernel_rfl) (fun _ _ _ h => h) (by rfl) ?_ (by assumption) ?_
  · intro w hSw
    go_simp
  simp only [Act.put, List.setIfInBounds_toArray, List.set_cons_zero, List.set_cons_succ]
  refine wpAnyH_done (by kernel_rfl) ?_ _
  have B8 := Lib.hid hHeld.old
  clear hHeld
  go_wp2_with fail
  go_ret
  exact ⟨rfl, B8.out⟩
end Go.Proofs.YtiaeobocenanlaaDoor
