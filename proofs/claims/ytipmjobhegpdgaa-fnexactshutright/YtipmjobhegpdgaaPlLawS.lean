/-
  The law FnExactShutRight.
-/
import Derived.Test.YtipmjobhegpdgaaPlLawR
import Derived.Test.YtipmjobhegpdgaaPlD9
namespace Go.Proofs.Ytipmjobhegpdgaa
open Go.RowKit Go.Deep

set_option maxRecDepth 100000 in
set_option maxHeartbeats 4000000 in
theorem fnExactShutRight_law (w : World) (n : Pl.Plan) (la : Option Addr) (lk : Nat) (fa : Option Addr) (fk : Nat) (wa : Option Addr) (wk : Nat) (h : PlIn n la fa wa w) (hl : PlLens n) (place : Int) (a : Option Addr) (N cap : Nat) (f : Nat → Int) (hk : IsIn a N f w) (hN : N ≤ 9223372036854775807) :
    Calls Try.prog 8 #[plV n la lk fa fk wa wk, .int .i64 place, .slice a N cap] w fun e w' => e = .returned (.bool true) ∧ Below w.heap.size w w' := by
  have H := Lib.hid h
  have HK := Lib.hid hk
  obtain ⟨W, hW⟩ : ∃ W, W = w.alloc (.cells #[.slice la n.rn lk, .slice fa n.sn fk, .slice wa n.hn wk] 41) := ⟨_, rfl⟩
  have R0 : Hid (W.rowIs w.heap.size 41 3 (rowN (plL n la lk fa fk wa wk))) := by rw [hW]; exact rowN_alloc w _ _
  have B0 : Hid (Below w.heap.size w W) := by rw [hW]; exact nbel_alloc _ _
  have HW := Lib.hid hW
  clear h hW hk
  by_cases hbig : (1048576 : Int) < (N : Int)
  · go_enter Try.func8, Try.ntmps8
    go_wp2_with fail
    rw [← HW.out]
    go_ret
    exact ⟨rfl, B0.out⟩
  have HNS : Hid (N ≤ 1048576) := by show N ≤ 1048576; omega
  go_enter Try.func8, Try.ntmps8
  go_wp2_with fail
  rw [← HW.out]
  refine (szPlan_any n la lk fa fk wa wk _ hl.1 hl.2.1 hl.2.2).mono ?_
  rintro e w1 ⟨⟨z, rfl, hz⟩, hb⟩
  have R1 := Lib.hid (nrow_below R0.out hb)
  have B1 : Hid (Below w.heap.size w w1) := B0.out.trans (hb.mono B0.out.size)
  clear hb R0 B0
  rcases hz with hz | ⟨hz, hs⟩
  · go_wp2_with fail
    go_ret
    exact ⟨rfl, B1.out⟩
  have HS := Lib.hid hs
  have hz0 : ¬ z < 0 := by omega
  clear hs hz
  obtain ⟨⟨r0, r1, r2⟩, _⟩ := rowN3 R1.out
  go_wp2_with fail
  refine (toPlan_any n la lk fa fk wa wk _ (H.out.below B1.out) HS.out).mono ?_
  rintro e w2 ⟨⟨gl, gf, gw, rfl, hk⟩, hb⟩
  have R2 := Lib.hid (nrow_below R1.out hb)
  have B2 : Hid (Below w.heap.size w w2) := B1.out.trans (hb.mono B1.out.size)
  have K2 := Lib.hid hk
  clear hb hk R1 B1 r0 r1 r2
  go_wp2_with fail
  refine (ntoInt64S_any a N cap f _ (HK.out.below B2.out) HNS.out).mono ?_
  rintro e w2' ⟨⟨rfl, hk⟩, hb⟩
  have R2' := Lib.hid (nrow_below R2.out hb)
  have B2' : Hid (Below w.heap.size w w2') := B2.out.trans (hb.mono B2.out.size)
  have K2' := Lib.hid (K2.out.below hb)
  have X2 := Lib.hid hk
  clear hb hk R2 B2 K2
  go_wp2_with fail
  refine (specShut_any n _ _ _ _ _ _ place _ N N f _ K2'.out.at_ HS.out (X2.out).at_ HNS.out).mono ?_
  rintro e w3 ⟨rfl, hb⟩
  have R3 := Lib.hid (nrow_below R2'.out hb)
  have B3 : Hid (Below w.heap.size w w3) := B2'.out.trans (hb.mono B2'.out.size)
  obtain ⟨bb, hbe⟩ : ∃ bb : Bool, bb = dB (Pl.ShutOk n place N f) := ⟨_, rfl⟩
  have HBE := Lib.hid hbe
  rw [← hbe]
  clear hbe hb R2' B2' K2' X2
  obtain ⟨⟨r0, r1, r2⟩, _⟩ := rowN3 R3.out
  go_wp2_with fail
  refine (toPlan_any n la lk fa fk wa wk _ (H.out.below B3.out) HS.out).mono ?_
  rintro e w4 ⟨⟨gl2, gf2, gw2, rfl, hk⟩, hb⟩
  have R4 := Lib.hid (nrow_below R3.out hb)
  have B4 : Hid (Below w.heap.size w w4) := B3.out.trans (hb.mono B3.out.size)
  have K4 := Lib.hid hk
  clear hb hk R3 B3 r0 r1 r2
  obtain ⟨W4, hW4⟩ : ∃ W4, W4 = w4.alloc (.cells #[.slice (some ⟨gl2, 0, none⟩) n.rn n.rn, .slice (some ⟨gf2, 0, none⟩) n.sn n.sn, .slice (some ⟨gw2, 0, none⟩) n.hn n.hn] 26) := ⟨_, rfl⟩
  have Q4 : Hid (W4.rowIs w4.heap.size 26 3 (rowN (plL n (some ⟨gl2, 0, none⟩) n.rn (some ⟨gf2, 0, none⟩) n.sn (some ⟨gw2, 0, none⟩) n.hn))) := by rw [hW4]; exact rowN_alloc w4 _ _
  have R5 : Hid (W4.rowIs w.heap.size 41 3 (rowN (plL n la lk fa fk wa wk))) := by rw [hW4]; exact nrow_below R4.out (nbel_alloc _ _)
  have B5 : Hid (Below w.heap.size w W4) := by rw [hW4]; exact B4.out.alloc B4.out.size _
  have K5 : Hid (PlBlk n w3.heap.size gl2 gf2 gw2 W4) := by rw [hW4]; exact K4.out.below (nbel_alloc _ _)
  have HW4 := Lib.hid hW4
  clear hW4 R4 B4 K4
  go_wp2_with fail
  rw [← HW4.out]
  refine (ntoInt64S_any a N cap f _ (HK.out.below B5.out) HNS.out).mono ?_
  rintro e w5 ⟨⟨rfl, hk⟩, hb⟩
  have S5 : Hid (PL w n la lk fa fk wa wk w4.heap.size w3.heap.size gl2 gf2 gw2 (fun V => IsBlk 2 W4.heap.size N f V) w5) := ⟨nrow_below R5.out hb, nrow_below Q4.out hb, K5.out.below hb, B5.out.trans (hb.mono B5.out.size), hk⟩
  have hlast : Lasts (fun V => IsBlk 2 W4.heap.size N f V) := fun _ _ hb h => IsBlk.below h hb
  have HLAST := Lib.hid hlast
  clear hb hk R5 B5 K5 Q4 hlast
  obtain ⟨⟨r0, r1, r2⟩, _⟩ := rowN3 S5.out.rx
  go_wp2_with fail
  refine (implShut_any n _ _ _ _ _ _ place _ N N f _ S5.out.kx.at_ HS.out (S5.out.p).at_ HNS.out (by simp)).mono ?_
  rintro e w6 ⟨rfl, hb⟩
  rw [← HBE.out]
  have S := Lib.hid (S5.out.below HLAST.out hb)
  clear hb S5 r0 r1 r2
  have hbb : (bb != bb) = false := by simp
  go_wp2_with fail
  refine wp_region_held_drew (S := PL w n la lk fa fk wa wk w4.heap.size w3.heap.size gl2 gf2 gw2 (fun V => IsBlk 2 W4.heap.size N f V)) (by kernel_rfl) (S.out.below HLAST.out (Below.refl _ _).drew) (fun hHeld => ?_)
  clear S
  refine take_do (i := 0) (v := (plV n (some ⟨gl2, 0, none⟩) n.rn (some ⟨gf2, 0, none⟩) n.sn (some ⟨gw2, 0, none⟩) n.hn)) rfl (by kernel_rfl) (by kernel_rfl) (by kernel_rfl) (fun _ _ _ h => h) (by rfl) ?_ (by assumption) ?_
  · intro w hSw
    obtain ⟨⟨a0, a1, a2⟩, _⟩ := rowN3 hSw.rx
    go_simp
  simp only [Act.put, List.setIfInBounds_toArray, List.set_cons_zero, List.set_cons_succ]
  refine take_do (i := 1) (v := (plV n la lk fa fk wa wk)) rfl (by kernel_rfl) (by kernel_rfl) (by kernel_rfl) (fun _ _ _ h => h) (by rfl) ?_ (by assumption) ?_
  · intro w hSw
    obtain ⟨⟨a0, a1, a2⟩, _⟩ := rowN3 hSw.ra
    go_simp
  simp only [Act.put, List.setIfInBounds_toArray, List.set_cons_zero, List.set_cons_succ]
  refine take_call (i := 2) rfl (by kernel_rfl) (fun K2 hK => ?_)
  go_simp
  refine (toPlan_any n la lk fa fk wa wk _ (H.out.below hHeld.old) HS.out).mono ?_
  rintro e w7 ⟨⟨gl3, gf3, gw3, rfl, hk6⟩, hb6⟩
  have HK6 := Lib.hid hk6
  go_wp2_with fail
  refine hK.out _ _ (hHeld.below HLAST.out hb6) (fun hHeld2 => ?_)
  clear hK hHeld hb6 hk6
  refine take_call (i := 3) rfl (by kernel_rfl) (fun K2 hK => ?_)
  go_simp
  refine (eqPlan_same n _ _ _ _ _ _ _ _ _ _ _ _ _ hHeld2.kx.at_ HK6.out.at_ HS.out).mono ?_
  rintro e w8 ⟨rfl, hb7⟩
  go_wp2_with fail
  refine hK.out _ _ (hHeld2.below HLAST.out hb7) (fun hHeld => ?_)
  clear hK hHeld2 hb7
  refine take_do (i := 4) (v := (.bool false)) rfl (by kernel_rfl) (by kernel_rfl) (by kernel_rfl) (fun _ _ _ h => h) (by rfl) ?_ (by assumption) ?_
  · intro w hSw
    go_simp
  simp only [Act.put, List.setIfInBounds_toArray, List.set_cons_zero, List.set_cons_succ]
  refine wpAnyH_done (by kernel_rfl) ?_ _
  have S8 := Lib.hid hHeld
  clear hHeld
  go_wp2_with fail
  refine (ntoInt64S_any a N cap f _ (HK.out.below S8.out.old) HNS.out).mono ?_
  rintro e w9 ⟨⟨rfl, hk⟩, hb⟩
  have S9 := Lib.hid (S8.out.below HLAST.out hb)
  have X9 := Lib.hid hk
  clear hb hk S8
  go_wp2_with fail
  refine (neqInt64S_same _ _ N N N f _ S9.out.p.at_ X9.out.at_ HNS.out).mono ?_
  rintro e w10 ⟨rfl, hb⟩
  have B10 : Hid (Below w.heap.size w w10) := S9.out.old.trans (hb.mono S9.out.old.size)
  clear hb S9 X9
  go_wp2_with fail
  go_ret
  exact ⟨rfl, B10.out⟩
end Go.Proofs.Ytipmjobhegpdgaa
