/-
  The law FnExactDayRight.
-/
import Derived.Test.YtmfokilpfbcicaaDyEx
import Derived.Test.YtmfokilpfbcicaaDyS1
import Derived.Test.YtmfokilpfbcicaaDyI2
import Derived.Test.YtmfokilpfbcicaaDyIn
namespace Go.Proofs.Ytmfokilpfbcicaa
open Go.RowKit Go.Deep

/-- What stands in a law over a day: its own block, the block of the day that was handed to the program, its lists, the old memory, and more. -/
structure DL6 (w : World) (n : Dy.Day) (la : Option Addr) (lk : Nat) (fa : Option Addr) (fk : Nat) (wa : Option Addr) (wk : Nat) (X B gl gf gw : Nat) (P : World → Prop) (W : World) : Prop where
  ra : W.rowIs w.heap.size 25 6 (rowN (dyL n la lk fa fk wa wk))
  rx : W.rowIs X 30 6 (rowN (dyL n (some ⟨gl, 0, none⟩) n.mn (some ⟨gf, 0, none⟩) n.wn (some ⟨gw, 0, none⟩) n.pn))
  kx : DyBlk n B gl gf gw W
  old : Below w.heap.size w W
  p : P W
/-- It lasts. -/
def DLasts (P : World → Prop) : Prop := ∀ W W', Below W.heap.size W W' → P W → P W'
theorem DL6.below {w : World} {n : Dy.Day} {la : Option Addr} {lk : Nat} {fa : Option Addr} {fk : Nat} {wa : Option Addr} {wk : Nat} {X B gl gf gw : Nat} {P : World → Prop} {W W' : World} (hP : DLasts P) (h : DL6 w n la lk fa fk wa wk X B gl gf gw P W) (hb : Below W.heap.size W W') : DL6 w n la lk fa fk wa wk X B gl gf gw P W' :=
  ⟨nrow_below h.ra hb, nrow_below h.rx hb, h.kx.below hb, h.old.trans (hb.mono h.old.size), hP _ _ hb h.p⟩
theorem dlasts_true : DLasts (fun _ => True) := fun _ _ _ _ => trivial
set_option maxRecDepth 100000 in
set_option maxHeartbeats 4000000 in
theorem dayRight_law (w : World) (n : Dy.Day) (la : Option Addr) (lk : Nat) (fa : Option Addr) (fk : Nat) (wa : Option Addr) (wk : Nat) (h : DyIn n la fa wa w) (hl : DyLens n) :
    Calls Try.prog 3 #[dyV n la lk fa fk wa wk] w fun e w' => e = .returned (.bool true) ∧ Below w.heap.size w w' := by
  have H := Lib.hid h
  have RW := Lib.hid (rowN_alloc w (dyL n la lk fa fk wa wk) 25)
  obtain ⟨W, hW⟩ : ∃ W, W = w.alloc (.cells #[.slice la n.mn lk, .slice fa n.wn fk, .slice wa n.pn wk, .int .i64 n.tank, .int .i64 n.low, .int .i64 n.high] 25) := ⟨_, rfl⟩
  have R0 : Hid (W.rowIs w.heap.size 25 6 (rowN (dyL n la lk fa fk wa wk))) := by rw [hW]; exact rowN_alloc w _ _
  have B0 : Hid (Below w.heap.size w W) := by rw [hW]; exact nbel_alloc _ _
  have HW := Lib.hid hW
  clear h hW RW
  go_enter Try.func3, Try.ntmps3
  go_wp2_with fail
  rw [← HW.out]
  refine (szDay_any n la lk fa fk wa wk _ hl.1 hl.2.1 hl.2.2).mono ?_
  rintro e w1 ⟨⟨z, rfl, hz⟩, hb⟩
  have R1 := Lib.hid (nrow_below R0.out hb)
  have B1 : Hid (Below w.heap.size w w1) := B0.out.trans (hb.mono B0.out.size)
  clear hb R0 B0
  rcases hz with hz | ⟨hz, hs⟩
  · go_wp2_with fail
    go_ret
    exact ⟨rfl, B1.out⟩
  have HS := Lib.hid hs
  have hz0 : ¬ z < 0 := by omega
  clear hs hz
  obtain ⟨⟨r0, r1, r2, r3, r4, r5⟩, _⟩ := rowN6 R1.out
  go_wp2_with fail
  refine (toDay_any n la lk fa fk wa wk _ (H.out.below B1.out) HS.out).mono ?_
  rintro e w2 ⟨⟨gl, gf, gw, rfl, hk⟩, hb⟩
  have R2 := Lib.hid (nrow_below R1.out hb)
  have B2 : Hid (Below w.heap.size w w2) := B1.out.trans (hb.mono B1.out.size)
  have K2 := Lib.hid hk
  clear hb hk R1 B1 r0 r1 r2 r3 r4 r5
  obtain ⟨⟨r0, r1, r2, r3, r4, r5⟩, _⟩ := rowN6 R2.out
  go_wp2_with fail
  refine (specDay_any n _ _ _ _ _ _ _ K2.out.at_ HS.out).mono ?_
  rintro e w3 ⟨rfl, hb⟩
  have R3 := Lib.hid (nrow_below R2.out hb)
  have B3 : Hid (Below w.heap.size w w3) := B2.out.trans (hb.mono B2.out.size)
  obtain ⟨bb, hbe⟩ : ∃ bb, bb = dB (Dy.Right n) := ⟨_, rfl⟩
  have HBE := Lib.hid hbe
  rw [← hbe]
  clear hbe
  clear hb R2 B2 K2 r0 r1 r2 r3 r4 r5
  obtain ⟨⟨r0, r1, r2, r3, r4, r5⟩, _⟩ := rowN6 R3.out
  go_wp2_with fail
  refine (toDay_any n la lk fa fk wa wk _ (H.out.below B3.out) HS.out).mono ?_
  rintro e w4 ⟨⟨gl2, gf2, gw2, rfl, hk⟩, hb⟩
  have R4 := Lib.hid (nrow_below R3.out hb)
  have B4 : Hid (Below w.heap.size w w4) := B3.out.trans (hb.mono B3.out.size)
  have K4 := Lib.hid hk
  clear hb hk R3 B3 r0 r1 r2 r3 r4 r5
  obtain ⟨W4, hW4⟩ : ∃ W4, W4 = w4.alloc (.cells #[.slice (some ⟨gl2, 0, none⟩) n.mn n.mn, .slice (some ⟨gf2, 0, none⟩) n.wn n.wn, .slice (some ⟨gw2, 0, none⟩) n.pn n.pn, .int .i64 n.tank, .int .i64 n.low, .int .i64 n.high] 30) := ⟨_, rfl⟩
  have Q4 : Hid (W4.rowIs w4.heap.size 30 6 (rowN (dyL n (some ⟨gl2, 0, none⟩) n.mn (some ⟨gf2, 0, none⟩) n.wn (some ⟨gw2, 0, none⟩) n.pn))) := by rw [hW4]; exact rowN_alloc w4 _ _
  have R5 : Hid (W4.rowIs w.heap.size 25 6 (rowN (dyL n la lk fa fk wa wk))) := by rw [hW4]; exact nrow_below R4.out (nbel_alloc _ _)
  have B5 : Hid (Below w.heap.size w W4) := by rw [hW4]; exact B4.out.alloc B4.out.size _
  have K5 : Hid (DyBlk n w3.heap.size gl2 gf2 gw2 W4) := by rw [hW4]; exact K4.out.below (nbel_alloc _ _)
  have HW4 := Lib.hid hW4
  clear hW4 R4 B4 K4
  go_wp2_with fail
  rw [← HW4.out]
  refine (dayRight_any n _ _ _ _ _ _ _ K5.out.at_ HS.out).mono ?_
  rintro e w5 ⟨rfl, hb⟩
  rw [← HBE.out]
  have S := Lib.hid (DL6.below dlasts_true (P := fun _ => True) ⟨R5.out, Q4.out, K5.out, B5.out, trivial⟩ hb)
  clear hb R5 B5 K5 Q4
  have hbb : (bb != bb) = false := by simp
  go_wp2_with fail
  refine wp_region_held_drew (S := DL6 w n la lk fa fk wa wk w4.heap.size w3.heap.size gl2 gf2 gw2 (fun _ => True)) (by kernel_rfl) (S.out.below dlasts_true (Below.refl _ _).drew) (fun hHeld => ?_)
  clear S
  refine take_do (i := 0) (v := (dyV n (some ⟨gl2, 0, none⟩) n.mn (some ⟨gf2, 0, none⟩) n.wn (some ⟨gw2, 0, none⟩) n.pn)) rfl (by kernel_rfl) (by kernel_rfl) (by kernel_rfl) (fun _ _ _ h => h) (by rfl) ?_ (by assumption) ?_
  · intro w hSw
    obtain ⟨⟨a0, a1, a2, a3, a4, a5⟩, _⟩ := rowN6 hSw.rx
    go_simp
  simp only [Act.put, List.setIfInBounds_toArray, List.set_cons_zero, List.set_cons_succ]
  refine take_do (i := 1) (v := (dyV n la lk fa fk wa wk)) rfl (by kernel_rfl) (by kernel_rfl) (by kernel_rfl) (fun _ _ _ h => h) (by rfl) ?_ (by assumption) ?_
  · intro w hSw
    obtain ⟨⟨a0, a1, a2, a3, a4, a5⟩, _⟩ := rowN6 hSw.ra
    go_simp
  simp only [Act.put, List.setIfInBounds_toArray, List.set_cons_zero, List.set_cons_succ]
  refine take_call (i := 2) rfl (by kernel_rfl) (fun K2 hK => ?_)
  go_simp
  refine (toDay_any n la lk fa fk wa wk _ (H.out.below hHeld.old) HS.out).mono ?_
  rintro e w6 ⟨⟨gl3, gf3, gw3, rfl, hk6⟩, hb6⟩
  have HK6 := Lib.hid hk6
  go_wp2_with fail
  refine hK.out _ _ (hHeld.below dlasts_true hb6) (fun hHeld2 => ?_)
  clear hK hHeld hb6 hk6
  refine take_call (i := 3) rfl (by kernel_rfl) (fun K2 hK => ?_)
  go_simp
  refine (eqDay_same n _ _ _ _ _ _ _ _ _ _ _ _ _ hHeld2.kx.at_ HK6.out.at_ HS.out).mono ?_
  rintro e w7 ⟨rfl, hb7⟩
  go_wp2_with fail
  refine hK.out _ _ (hHeld2.below dlasts_true hb7) (fun hHeld => ?_)
  clear hK hHeld2 hb7
  refine take_do (i := 4) (v := (.bool false)) rfl (by kernel_rfl) (by kernel_rfl) (by kernel_rfl) (fun _ _ _ h => h) (by rfl) ?_ (by assumption) ?_
  · intro w hSw
    go_simp
  simp only [Act.put, List.setIfInBounds_toArray, List.set_cons_zero, List.set_cons_succ]
  refine wpAnyH_done (by kernel_rfl) ?_ _
  have B8 := Lib.hid hHeld.old
  clear hHeld
  go_wp2_with fail
  go_ret
  exact ⟨rfl, B8.out⟩
end Go.Proofs.Ytmfokilpfbcicaa
