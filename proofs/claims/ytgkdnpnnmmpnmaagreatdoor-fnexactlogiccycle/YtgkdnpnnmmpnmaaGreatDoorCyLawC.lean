/-
  The law FnExactLogicCycle.
-/
import Derived.Test.YtgkdnpnnmmpnmaaGreatDoorFaCy
import Derived.Test.YtgkdnpnnmmpnmaaGreatDoorCyS2
import Derived.Test.YtgkdnpnnmmpnmaaGreatDoorCyI7
import Derived.Test.YtgkdnpnnmmpnmaaGreatDoorCySm
import Derived.Test.YtgkdnpnnmmpnmaaGreatDoorPgEx
import Derived.Test.YtgkdnpnnmmpnmaaGreatDoorPgIn
namespace Go.Proofs.YtgkdnpnnmmpnmaaGreatDoor
open Go.RowKit Go.Deep

set_option maxRecDepth 100000 in
set_option maxHeartbeats 16000000 in
theorem logicCycle_law (w : World) (n : Pg.Prog) (la : Option Addr) (lk : Nat) (fa : Option Addr) (fk : Nat) (wa : Option Addr) (wk : Nat) (hi0 : PgIn n la fa wa w) (hl0 : PgLens n) (s : Cy.Lg) (sa : Option Addr) (sk : Nat) (sb : Option Addr) (sl : Nat) (hi1 : LgIn s sa sb w) (hl1 : LgLens s) (ia : Option Addr) (iN iK : Nat) (I : Nat → Int) (hi2 : IsIn ia iN I w) (hl2 : iN ≤ 9223372036854775807) (hg : Et w) :
    Calls Tryz.prog 5 #[pgV n la lk fa fk wa wk, lgV s sa sk sb sl, .slice ia iN iK] w fun e w' => e = .returned (.bool true) ∧ Below w.heap.size w w' := by
  have HI0 := Lib.hid hi0
  have HI1 := Lib.hid hi1
  have HI2 := Lib.hid hi2
  have HG := Lib.hid hg
  obtain ⟨W, hW⟩ : ∃ W, W = ((w.alloc (.cells (#[.slice la n.bn lk, .slice fa n.on fk, .slice wa n.nn wk]) 56)).alloc (.cells (lgA s sa sk sb sl) 57)) := ⟨_, rfl⟩
  have hOLD : Below w.heap.size w W := by rw [hW]; exact (nbel_alloc _ _).alloc (by simp) _
  have hR0 : W.rowIs w.heap.size 56 3 (rowN (pgL n la lk fa fk wa wk)) := by rw [hW]; exact nrow_below (rowN_alloc w (pgL n la lk fa fk wa wk) _) (nbel_alloc _ _)
  have hR1 : W.rowIs (w.heap.size + 1) 57 3 (rowN (lgL s sa sk sb sl)) := by rw [hW]; exact rowN_alloc' (by simp) (lgL s sa sk sb sl) _
  have R0 := Lib.hid (fact_row (lo := w.heap.size) hR0 (Nat.le_refl _))
  have R1 := Lib.hid (fact_row (lo := w.heap.size) hR1 (Nat.le_add_right _ _))
  have OLD := Lib.hid hOLD
  have HW := Lib.hid hW
  clear hW hOLD hi0 hi1 hi2 hR0 hR1 hg
  by_cases big2 : (1048576 : Int) < (iN : Int)
  · go_enter Tryz.func5, Tryz.ntmps5
    go_wp2_with fail
    rw [← HW.out]
    go_ret
    exact ⟨rfl, OLD.out⟩
  have HS2 : Hid (iN ≤ 1048576) := by show _ ≤ _; omega
  go_enter Tryz.func5, Tryz.ntmps5
  obtain ⟨⟨x0, x1, x2⟩, _⟩ := rowN3 R0.out.p
  rw [HW.out] at x0 x1 x2
  go_wp2_with fail
  rw [← HW.out]
  clear HW
  clear x0 x1 x2
  refine (szProg_any n la lk fa fk wa wk _ (HI0.out.below OLD.out) hl0).mono ?_
  rintro e w1 ⟨⟨z, rfl, hz⟩, hb⟩
  replace OLD := Lib.hid (OLD.out.trans (hb.mono OLD.out.size))
  replace R0 := Lib.hid (R0.out.below hb)
  replace R1 := Lib.hid (R1.out.below hb)
  clear hb
  rcases hz with hz | ⟨hz, hs⟩
  · go_wp2_with fail
    go_ret
    exact ⟨rfl, OLD.out⟩
  have HS0 := Lib.hid hs
  obtain ⟨LL1, rfl⟩ : ∃ L : Nat, z = (L : Int) := ⟨z.toNat, by omega⟩
  have hLL1 : LL1 ≤ 1048576 := by omega
  have hzz1 : ¬ (LL1 : Int) < 0 := by omega
  clear hs hz
  obtain ⟨⟨x0, x1, x2⟩, _⟩ := rowN3 R1.out.p
  go_wp2_with fail
  clear x0 x1 x2
  refine (szLogic_any s sa sk sb sl LL1 _ hl1 hLL1).mono ?_
  rintro e w2 ⟨⟨z, rfl, hz⟩, hb⟩
  replace OLD := Lib.hid (OLD.out.trans (hb.mono OLD.out.size))
  replace R0 := Lib.hid (R0.out.below hb)
  replace R1 := Lib.hid (R1.out.below hb)
  clear hb
  rcases hz with hz | ⟨hz, hs⟩
  · go_wp2_with fail
    go_ret
    exact ⟨rfl, OLD.out⟩
  have HS1 := Lib.hid hs
  obtain ⟨LL2, rfl⟩ : ∃ L : Nat, z = (L : Int) := ⟨z.toNat, by omega⟩
  have hLL2 : LL2 ≤ 1048576 := by omega
  have hzz2 : ¬ (LL2 : Int) < 0 := by omega
  clear hs hz
  obtain ⟨xx, hX⟩ : ∃ xx, xx = Cy.ans n s iN I := ⟨_, rfl⟩
  have HX := Lib.hid hX
  have HSX : Hid (CoSmall xx) := by show CoSmall xx; rw [hX]; exact ans_small HS0.out
  clear hX
  have QQ : Hid (w.heap.size ≤ w2.heap.size ∧ W.heap.size ≤ w2.heap.size) := ⟨OLD.out.size, R0.out.le.2⟩
  go_wp2_with fail
  go_cut [8] (fun q Wq => ∃ xb aN kN bN lN cN qN, q = .pointer (some ⟨xb, 0, none⟩) ∧ Hid (Below w2.heap.size w2 Wq ∧ Wq.rowIs xb 38 5 (rowN (coL xx aN kN bN lN cN qN)) ∧ (CoO 2 w2.heap.size xx.s.n kN xx.s.m lN xx.n qN aN bN cN xx.s.T xx.s.C xx.O Wq) ∧ w2.heap.size ≤ xb))
  case first =>
    refine wp_region_held_drew (S := fun V => Below w2.heap.size w2 V) (by kernel_rfl) (Below.refl _ _).drew (fun hHeld => ?_)
    obtain ⟨Z, hZ⟩ : ∃ Z, Z = w2.drew := ⟨_, rfl⟩
    rw [← hZ] at hHeld ⊢
    clear hZ
    refine take_do (i := 0) (v := (pgV n la lk fa fk wa wk)) rfl (by kernel_rfl) (by kernel_rfl) (by kernel_rfl) (fun _ _ _ h => h) (by rfl) ?_ (by assumption) ?_
    · intro w hSw
      obtain ⟨⟨a0, a1, a2⟩, _⟩ := rowN3 (nrow_below R0.out.p hSw)
      go_simp
    simp only [Act.put, List.setIfInBounds_toArray, List.set_cons_zero, List.set_cons_succ]
    refine take_do (i := 2) (v := (lgV s sa sk sb sl)) rfl (by kernel_rfl) (by kernel_rfl) (by kernel_rfl) (fun _ _ _ h => h) (by rfl) ?_ (by assumption) ?_
    · intro w hSw
      obtain ⟨⟨a0, a1, a2⟩, _⟩ := rowN3 (nrow_below R1.out.p hSw)
      go_simp
    simp only [Act.put, List.setIfInBounds_toArray, List.set_cons_zero, List.set_cons_succ]
    refine take_do (i := 4) (v := (.slice ia iN iK)) rfl (by kernel_rfl) (by kernel_rfl) (by kernel_rfl) (fun _ _ _ h => h) (by rfl) ?_ (by assumption) ?_
    · intro w hSw
      go_simp
    simp only [Act.put, List.setIfInBounds_toArray, List.set_cons_zero, List.set_cons_succ]
    refine wpAnyH_ready (rs := [1, 7]) (by kernel_rfl) (by simp) (AllReadyH.cons (at_drop (i := 1) rfl) (fun K2 hK => ?_) (AllReadyH.cons (at_drop (i := 7) rfl) (fun K2 hK => ?_) (AllReadyH.nil)))
    · go_simp
      refine (toProg_any n la lk fa fk wa wk _ (HI0.out.below (OLD.out.trans (hHeld.mono OLD.out.size))) HS0.out).mono ?_
      rintro e Z1 ⟨⟨glt10, gft10, gwt10, rfl, hk⟩, hb⟩
      have KT0 := Lib.hid hk
      clear hk
      go_wp2_with fail
      refine hK.out _ _ (hHeld.trans (hb.mono hHeld.size)) (fun hHeld2 => ?_)
      clear hK hHeld hb
      have hHeld := hHeld2
      clear hHeld2
      refine wpAnyH_ready (rs := [3, 7]) (by kernel_rfl) (by simp) (AllReadyH.cons (at_drop (i := 3) rfl) (fun K2 hK => ?_) (AllReadyH.cons (at_drop (i := 7) rfl) (fun K2 hK => ?_) (AllReadyH.nil)))
      · go_simp
        refine (toLogic_any s sa sk sb sl _ (HI1.out.below (OLD.out.trans (hHeld.mono OLD.out.size))) HS1.out).mono ?_
        rintro e Z2 ⟨⟨gat11, gbt11, rfl, hk⟩, hb⟩
        have KT1 := Lib.hid hk
        clear hk
        have KT02 := Lib.hid (KT0.out.below hb)
        clear KT0
        have KT0 := KT02
        clear KT02
        go_wp2_with fail
        refine hK.out _ _ (hHeld.trans (hb.mono hHeld.size)) (fun hHeld2 => ?_)
        clear hK hHeld hb
        have hHeld := hHeld2
        clear hHeld2
        refine wpAnyH_ready (rs := [5, 7]) (by kernel_rfl) (by simp) (AllReadyH.cons (at_drop (i := 5) rfl) (fun K2 hK => ?_) (AllReadyH.cons (at_drop (i := 7) rfl) (fun K2 hK => ?_) (AllReadyH.nil)))
        · go_simp
          refine (ints_conv ia iN iK I _ (HI2.out.below (OLD.out.trans (hHeld.mono OLD.out.size))) HS2.out).mono ?_
          rintro e Z3 ⟨⟨git12, rfl, hlo, hk⟩, hb⟩
          have KT2 := Lib.hid hk
          clear hk hlo
          have KT02 := Lib.hid (KT0.out.below hb)
          clear KT0
          have KT0 := KT02
          clear KT02
          have KT12 := Lib.hid (KT1.out.below hb)
          clear KT1
          have KT1 := KT12
          clear KT12
          go_wp2_with fail
          refine hK.out _ _ (hHeld.trans (hb.mono hHeld.size)) (fun hHeld2 => ?_)
          clear hK hHeld hb
          have hHeld := hHeld2
          clear hHeld2
          refine wpAnyH_ready (rs := [6, 7]) (by kernel_rfl) (by simp) (AllReadyH.cons (at_drop (i := 6) rfl) (fun K2 hK => ?_) (AllReadyH.cons (at_drop (i := 7) rfl) (fun K2 hK => ?_) (AllReadyH.nil)))
          · go_simp
            refine (specCycle_any n _ _ _ _ _ _ s _ _ _ _ _ iN _ I _ KT0.out.at_ HS0.out KT1.out.ls HS1.out KT2.out.at_ HS2.out).mono ?_
            rintro e Z4 ⟨hE, hb⟩
            rw [← HX.out] at hE
            obtain ⟨aN, kN, bN, lN, cN, qN, rfl, hO⟩ := hE
            have HOW := Lib.hid (hO.low hHeld.size)
            clear hO
            have KT02 := Lib.hid (KT0.out.below hb)
            clear KT0
            have KT0 := KT02
            clear KT02
            have KT12 := Lib.hid (KT1.out.below hb)
            clear KT1
            have KT1 := KT12
            clear KT12
            have KT22 := Lib.hid (KT2.out.below hb)
            clear KT2
            have KT2 := KT22
            clear KT22
            go_wp2_with fail
            refine hK.out _ _ (hHeld.trans (hb.mono hHeld.size)) (fun hHeld2 => ?_)
            clear hK hHeld hb
            have hHeld := hHeld2
            clear hHeld2
            refine wpAnyH_ready (rs := [7]) (by kernel_rfl) (by simp) (AllReadyH.cons (at_drop (i := 7) rfl) (fun K2 hK => ?_) (AllReadyH.nil))
            obtain ⟨Z5, hZ5⟩ : ∃ Z5, Z5 = Z4.alloc (.cells #[.slice none 0 0, .slice none 0 0, .bool false, .slice none 0 0, .int .i64 0] 38) := ⟨_, rfl⟩
            have hb : Below Z4.heap.size Z4 Z5 := by rw [hZ5]; exact nbel_alloc _ _
            have HV : Hid (Z5.rowIs Z4.heap.size 38 5 (rowN [.slice none 0 0, .slice none 0 0, .bool false, .slice none 0 0, .int .i64 0])) := by show World.rowIs _ _ _ _ _; rw [hZ5]; exact rowN_alloc _ _ _
            obtain ⟨xb, hxb⟩ : ∃ xb, xb = Z4.heap.size := ⟨_, rfl⟩
            rw [← hxb] at HV
            have HXL : Hid (w2.heap.size ≤ xb) := by show _ ≤ _; rw [hxb]; exact hHeld.size
            have KT02 := Lib.hid (KT0.out.below hb)
            clear KT0
            have KT0 := KT02
            clear KT02
            have KT12 := Lib.hid (KT1.out.below hb)
            clear KT1
            have KT1 := KT12
            clear KT12
            have KT22 := Lib.hid (KT2.out.below hb)
            clear KT2
            have KT2 := KT22
            clear KT22
            have HOW2 := Lib.hid (HOW.out.below hb)
            clear HOW
            have HOW := HOW2
            clear HOW2
            go_simp
            rw [← hZ5, ← hxb]
            clear hZ5
            refine hK.out _ _ (hHeld.trans (hb.mono hHeld.size)) (fun hHeld2 => ?_)
            clear hK hHeld hxb hb
            have hHeld := hHeld2
            clear hHeld2
            have zr := cyput5 HV.out rfl (.slice aN xx.s.n kN) (.slice bN xx.s.m lN) (.bool xx.s.fl) (.slice cN xx.n qN) (.int .i64 xx.cd)
            have zk := fun (k : Nat) (hk : k ≠ xb) => cyblk5 (W := Z5) hk (.slice aN xx.s.n kN) (.slice bN xx.s.m lN) (.bool xx.s.fl) (.slice cN xx.n qN) (.int .i64 xx.cd)
            have zb := cybel5 (g := xb) hHeld HXL.out (.slice aN xx.s.n kN) (.slice bN xx.s.m lN) (.bool xx.s.fl) (.slice cN xx.n qN) (.int .i64 xx.cd)
            obtain ⟨⟨o0, o1, o2, o3, o4⟩, z0, z1, z2, z3, z4⟩ := rowN5 HV.out
            have hol := HV.out.lt
            refine take_call (i := 8) rfl (by kernel_rfl) (fun K2 hK => ?_)
            go_simp
            clear o0 o1 o2 o3 o4 z0 z1 z2 z3 z4
            have zo : CoO 2 w2.heap.size xx.s.n kN xx.s.m lN xx.n qN aN bN cN xx.s.T xx.s.C xx.O _ := HOW.out.keep (fun j e _ _ => zk j (fun e2 => by rw [e2] at e; exact HOW.out.neR HV.out (by decide) e))
            generalize (((((Z5).setCell ⟨xb, 0, none⟩ (.slice aN xx.s.n kN)).setCell ⟨xb, 1, none⟩ (.slice bN xx.s.m lN)).setCell ⟨xb, 2, none⟩ (.bool xx.s.fl)).setCell ⟨xb, 3, none⟩ (.slice cN xx.n qN)).setCell ⟨xb, 4, none⟩ (.int .i64 xx.cd) = Y at zr zk zb zo ⊢
            refine hK.out _ _ zb (fun hHeld2 => ?_)
            clear hK hHeld hHeld2
            refine wpAnyH_done (by kernel_rfl) ?_ _
            have HPR : Hid (Below w2.heap.size w2 Y ∧ Y.rowIs xb 38 5 (rowN (coL xx aN kN bN lN cN qN)) ∧ (CoO 2 w2.heap.size xx.s.n kN xx.s.m lN xx.n qN aN bN cN xx.s.T xx.s.C xx.O Y) ∧ w2.heap.size ≤ xb) := ⟨zb, zr, zo, HXL.out⟩
            clear zo
            clear zr zk zb
            go_wp2_with fail
            go_meet
            case rel => exact ⟨xb, aN, kN, bN, lN, cN, qN, rfl, HPR⟩
          · obtain ⟨Z4, hZ4⟩ : ∃ Z4, Z4 = Z3.alloc (.cells #[.slice none 0 0, .slice none 0 0, .bool false, .slice none 0 0, .int .i64 0] 38) := ⟨_, rfl⟩
            have hb : Below Z3.heap.size Z3 Z4 := by rw [hZ4]; exact nbel_alloc _ _
            have HV : Hid (Z4.rowIs Z3.heap.size 38 5 (rowN [.slice none 0 0, .slice none 0 0, .bool false, .slice none 0 0, .int .i64 0])) := by show World.rowIs _ _ _ _ _; rw [hZ4]; exact rowN_alloc _ _ _
            obtain ⟨xb, hxb⟩ : ∃ xb, xb = Z3.heap.size := ⟨_, rfl⟩
            rw [← hxb] at HV
            have HXL : Hid (w2.heap.size ≤ xb) := by show _ ≤ _; rw [hxb]; exact hHeld.size
            have KT02 := Lib.hid (KT0.out.below hb)
            clear KT0
            have KT0 := KT02
            clear KT02
            have KT12 := Lib.hid (KT1.out.below hb)
            clear KT1
            have KT1 := KT12
            clear KT12
            have KT22 := Lib.hid (KT2.out.below hb)
            clear KT2
            have KT2 := KT22
            clear KT22
            go_simp
            rw [← hZ4, ← hxb]
            clear hZ4
            refine hK.out _ _ (hHeld.trans (hb.mono hHeld.size)) (fun hHeld2 => ?_)
            clear hK hHeld hxb hb
            have hHeld := hHeld2
            clear hHeld2
            refine wpAnyH_ready (rs := [6]) (by kernel_rfl) (by simp) (AllReadyH.cons (at_drop (i := 6) rfl) (fun K2 hK => ?_) (AllReadyH.nil))
            go_simp
            refine (specCycle_any n _ _ _ _ _ _ s _ _ _ _ _ iN _ I _ KT0.out.at_ HS0.out KT1.out.ls HS1.out KT2.out.at_ HS2.out).mono ?_
            rintro e Z5 ⟨hE, hb⟩
            rw [← HX.out] at hE
            obtain ⟨aN, kN, bN, lN, cN, qN, rfl, hO⟩ := hE
            have HOW := Lib.hid (hO.low hHeld.size)
            clear hO
            have HV2 := Lib.hid (nrow_below HV.out hb)
            clear HV
            have HV := HV2
            clear HV2
            have KT02 := Lib.hid (KT0.out.below hb)
            clear KT0
            have KT0 := KT02
            clear KT02
            have KT12 := Lib.hid (KT1.out.below hb)
            clear KT1
            have KT1 := KT12
            clear KT12
            have KT22 := Lib.hid (KT2.out.below hb)
            clear KT2
            have KT2 := KT22
            clear KT22
            go_wp2_with fail
            refine hK.out _ _ (hHeld.trans (hb.mono hHeld.size)) (fun hHeld2 => ?_)
            clear hK hHeld hb
            have hHeld := hHeld2
            clear hHeld2
            have zr := cyput5 HV.out rfl (.slice aN xx.s.n kN) (.slice bN xx.s.m lN) (.bool xx.s.fl) (.slice cN xx.n qN) (.int .i64 xx.cd)
            have zk := fun (k : Nat) (hk : k ≠ xb) => cyblk5 (W := Z5) hk (.slice aN xx.s.n kN) (.slice bN xx.s.m lN) (.bool xx.s.fl) (.slice cN xx.n qN) (.int .i64 xx.cd)
            have zb := cybel5 (g := xb) hHeld HXL.out (.slice aN xx.s.n kN) (.slice bN xx.s.m lN) (.bool xx.s.fl) (.slice cN xx.n qN) (.int .i64 xx.cd)
            obtain ⟨⟨o0, o1, o2, o3, o4⟩, z0, z1, z2, z3, z4⟩ := rowN5 HV.out
            have hol := HV.out.lt
            refine take_call (i := 8) rfl (by kernel_rfl) (fun K2 hK => ?_)
            go_simp
            clear o0 o1 o2 o3 o4 z0 z1 z2 z3 z4
            have zo : CoO 2 w2.heap.size xx.s.n kN xx.s.m lN xx.n qN aN bN cN xx.s.T xx.s.C xx.O _ := HOW.out.keep (fun j e _ _ => zk j (fun e2 => by rw [e2] at e; exact HOW.out.neR HV.out (by decide) e))
            generalize (((((Z5).setCell ⟨xb, 0, none⟩ (.slice aN xx.s.n kN)).setCell ⟨xb, 1, none⟩ (.slice bN xx.s.m lN)).setCell ⟨xb, 2, none⟩ (.bool xx.s.fl)).setCell ⟨xb, 3, none⟩ (.slice cN xx.n qN)).setCell ⟨xb, 4, none⟩ (.int .i64 xx.cd) = Y at zr zk zb zo ⊢
            refine hK.out _ _ zb (fun hHeld2 => ?_)
            clear hK hHeld hHeld2
            refine wpAnyH_done (by kernel_rfl) ?_ _
            have HPR : Hid (Below w2.heap.size w2 Y ∧ Y.rowIs xb 38 5 (rowN (coL xx aN kN bN lN cN qN)) ∧ (CoO 2 w2.heap.size xx.s.n kN xx.s.m lN xx.n qN aN bN cN xx.s.T xx.s.C xx.O Y) ∧ w2.heap.size ≤ xb) := ⟨zb, zr, zo, HXL.out⟩
            clear zo
            clear zr zk zb
            go_wp2_with fail
            go_meet
            case rel => exact ⟨xb, aN, kN, bN, lN, cN, qN, rfl, HPR⟩
        · obtain ⟨Z3, hZ3⟩ : ∃ Z3, Z3 = Z2.alloc (.cells #[.slice none 0 0, .slice none 0 0, .bool false, .slice none 0 0, .int .i64 0] 38) := ⟨_, rfl⟩
          have hb : Below Z2.heap.size Z2 Z3 := by rw [hZ3]; exact nbel_alloc _ _
          have HV : Hid (Z3.rowIs Z2.heap.size 38 5 (rowN [.slice none 0 0, .slice none 0 0, .bool false, .slice none 0 0, .int .i64 0])) := by show World.rowIs _ _ _ _ _; rw [hZ3]; exact rowN_alloc _ _ _
          obtain ⟨xb, hxb⟩ : ∃ xb, xb = Z2.heap.size := ⟨_, rfl⟩
          rw [← hxb] at HV
          have HXL : Hid (w2.heap.size ≤ xb) := by show _ ≤ _; rw [hxb]; exact hHeld.size
          have KT02 := Lib.hid (KT0.out.below hb)
          clear KT0
          have KT0 := KT02
          clear KT02
          have KT12 := Lib.hid (KT1.out.below hb)
          clear KT1
          have KT1 := KT12
          clear KT12
          go_simp
          rw [← hZ3, ← hxb]
          clear hZ3
          refine hK.out _ _ (hHeld.trans (hb.mono hHeld.size)) (fun hHeld2 => ?_)
          clear hK hHeld hxb hb
          have hHeld := hHeld2
          clear hHeld2
          refine wpAnyH_ready (rs := [5]) (by kernel_rfl) (by simp) (AllReadyH.cons (at_drop (i := 5) rfl) (fun K2 hK => ?_) (AllReadyH.nil))
          go_simp
          refine (ints_conv ia iN iK I _ (HI2.out.below (OLD.out.trans (hHeld.mono OLD.out.size))) HS2.out).mono ?_
          rintro e Z4 ⟨⟨git12, rfl, hlo, hk⟩, hb⟩
          have KT2 := Lib.hid hk
          clear hk hlo
          have HV2 := Lib.hid (nrow_below HV.out hb)
          clear HV
          have HV := HV2
          clear HV2
          have KT02 := Lib.hid (KT0.out.below hb)
          clear KT0
          have KT0 := KT02
          clear KT02
          have KT12 := Lib.hid (KT1.out.below hb)
          clear KT1
          have KT1 := KT12
          clear KT12
          go_wp2_with fail
          refine hK.out _ _ (hHeld.trans (hb.mono hHeld.size)) (fun hHeld2 => ?_)
          clear hK hHeld hb
          have hHeld := hHeld2
          clear hHeld2
          refine wpAnyH_ready (rs := [6]) (by kernel_rfl) (by simp) (AllReadyH.cons (at_drop (i := 6) rfl) (fun K2 hK => ?_) (AllReadyH.nil))
          go_simp
          refine (specCycle_any n _ _ _ _ _ _ s _ _ _ _ _ iN _ I _ KT0.out.at_ HS0.out KT1.out.ls HS1.out KT2.out.at_ HS2.out).mono ?_
          rintro e Z5 ⟨hE, hb⟩
          rw [← HX.out] at hE
          obtain ⟨aN, kN, bN, lN, cN, qN, rfl, hO⟩ := hE
          have HOW := Lib.hid (hO.low hHeld.size)
          clear hO
          have HV2 := Lib.hid (nrow_below HV.out hb)
          clear HV
          have HV := HV2
          clear HV2
          have KT02 := Lib.hid (KT0.out.below hb)
          clear KT0
          have KT0 := KT02
          clear KT02
          have KT12 := Lib.hid (KT1.out.below hb)
          clear KT1
          have KT1 := KT12
          clear KT12
          have KT22 := Lib.hid (KT2.out.below hb)
          clear KT2
          have KT2 := KT22
          clear KT22
          go_wp2_with fail
          refine hK.out _ _ (hHeld.trans (hb.mono hHeld.size)) (fun hHeld2 => ?_)
          clear hK hHeld hb
          have hHeld := hHeld2
          clear hHeld2
          have zr := cyput5 HV.out rfl (.slice aN xx.s.n kN) (.slice bN xx.s.m lN) (.bool xx.s.fl) (.slice cN xx.n qN) (.int .i64 xx.cd)
          have zk := fun (k : Nat) (hk : k ≠ xb) => cyblk5 (W := Z5) hk (.slice aN xx.s.n kN) (.slice bN xx.s.m lN) (.bool xx.s.fl) (.slice cN xx.n qN) (.int .i64 xx.cd)
          have zb := cybel5 (g := xb) hHeld HXL.out (.slice aN xx.s.n kN) (.slice bN xx.s.m lN) (.bool xx.s.fl) (.slice cN xx.n qN) (.int .i64 xx.cd)
          obtain ⟨⟨o0, o1, o2, o3, o4⟩, z0, z1, z2, z3, z4⟩ := rowN5 HV.out
          have hol := HV.out.lt
          refine take_call (i := 8) rfl (by kernel_rfl) (fun K2 hK => ?_)
          go_simp
          clear o0 o1 o2 o3 o4 z0 z1 z2 z3 z4
          have zo : CoO 2 w2.heap.size xx.s.n kN xx.s.m lN xx.n qN aN bN cN xx.s.T xx.s.C xx.O _ := HOW.out.keep (fun j e _ _ => zk j (fun e2 => by rw [e2] at e; exact HOW.out.neR HV.out (by decide) e))
          generalize (((((Z5).setCell ⟨xb, 0, none⟩ (.slice aN xx.s.n kN)).setCell ⟨xb, 1, none⟩ (.slice bN xx.s.m lN)).setCell ⟨xb, 2, none⟩ (.bool xx.s.fl)).setCell ⟨xb, 3, none⟩ (.slice cN xx.n qN)).setCell ⟨xb, 4, none⟩ (.int .i64 xx.cd) = Y at zr zk zb zo ⊢
          refine hK.out _ _ zb (fun hHeld2 => ?_)
          clear hK hHeld hHeld2
          refine wpAnyH_done (by kernel_rfl) ?_ _
          have HPR : Hid (Below w2.heap.size w2 Y ∧ Y.rowIs xb 38 5 (rowN (coL xx aN kN bN lN cN qN)) ∧ (CoO 2 w2.heap.size xx.s.n kN xx.s.m lN xx.n qN aN bN cN xx.s.T xx.s.C xx.O Y) ∧ w2.heap.size ≤ xb) := ⟨zb, zr, zo, HXL.out⟩
          clear zo
          clear zr zk zb
          go_wp2_with fail
          go_meet
          case rel => exact ⟨xb, aN, kN, bN, lN, cN, qN, rfl, HPR⟩
      · obtain ⟨Z2, hZ2⟩ : ∃ Z2, Z2 = Z1.alloc (.cells #[.slice none 0 0, .slice none 0 0, .bool false, .slice none 0 0, .int .i64 0] 38) := ⟨_, rfl⟩
        have hb : Below Z1.heap.size Z1 Z2 := by rw [hZ2]; exact nbel_alloc _ _
        have HV : Hid (Z2.rowIs Z1.heap.size 38 5 (rowN [.slice none 0 0, .slice none 0 0, .bool false, .slice none 0 0, .int .i64 0])) := by show World.rowIs _ _ _ _ _; rw [hZ2]; exact rowN_alloc _ _ _
        obtain ⟨xb, hxb⟩ : ∃ xb, xb = Z1.heap.size := ⟨_, rfl⟩
        rw [← hxb] at HV
        have HXL : Hid (w2.heap.size ≤ xb) := by show _ ≤ _; rw [hxb]; exact hHeld.size
        have KT02 := Lib.hid (KT0.out.below hb)
        clear KT0
        have KT0 := KT02
        clear KT02
        go_simp
        rw [← hZ2, ← hxb]
        clear hZ2
        refine hK.out _ _ (hHeld.trans (hb.mono hHeld.size)) (fun hHeld2 => ?_)
        clear hK hHeld hxb hb
        have hHeld := hHeld2
        clear hHeld2
        refine wpAnyH_ready (rs := [3]) (by kernel_rfl) (by simp) (AllReadyH.cons (at_drop (i := 3) rfl) (fun K2 hK => ?_) (AllReadyH.nil))
        go_simp
        refine (toLogic_any s sa sk sb sl _ (HI1.out.below (OLD.out.trans (hHeld.mono OLD.out.size))) HS1.out).mono ?_
        rintro e Z3 ⟨⟨gat11, gbt11, rfl, hk⟩, hb⟩
        have KT1 := Lib.hid hk
        clear hk
        have HV2 := Lib.hid (nrow_below HV.out hb)
        clear HV
        have HV := HV2
        clear HV2
        have KT02 := Lib.hid (KT0.out.below hb)
        clear KT0
        have KT0 := KT02
        clear KT02
        go_wp2_with fail
        refine hK.out _ _ (hHeld.trans (hb.mono hHeld.size)) (fun hHeld2 => ?_)
        clear hK hHeld hb
        have hHeld := hHeld2
        clear hHeld2
        refine wpAnyH_ready (rs := [5]) (by kernel_rfl) (by simp) (AllReadyH.cons (at_drop (i := 5) rfl) (fun K2 hK => ?_) (AllReadyH.nil))
        go_simp
        refine (ints_conv ia iN iK I _ (HI2.out.below (OLD.out.trans (hHeld.mono OLD.out.size))) HS2.out).mono ?_
        rintro e Z4 ⟨⟨git12, rfl, hlo, hk⟩, hb⟩
        have KT2 := Lib.hid hk
        clear hk hlo
        have HV2 := Lib.hid (nrow_below HV.out hb)
        clear HV
        have HV := HV2
        clear HV2
        have KT02 := Lib.hid (KT0.out.below hb)
        clear KT0
        have KT0 := KT02
        clear KT02
        have KT12 := Lib.hid (KT1.out.below hb)
        clear KT1
        have KT1 := KT12
        clear KT12
        go_wp2_with fail
        refine hK.out _ _ (hHeld.trans (hb.mono hHeld.size)) (fun hHeld2 => ?_)
        clear hK hHeld hb
        have hHeld := hHeld2
        clear hHeld2
        refine wpAnyH_ready (rs := [6]) (by kernel_rfl) (by simp) (AllReadyH.cons (at_drop (i := 6) rfl) (fun K2 hK => ?_) (AllReadyH.nil))
        go_simp
        refine (specCycle_any n _ _ _ _ _ _ s _ _ _ _ _ iN _ I _ KT0.out.at_ HS0.out KT1.out.ls HS1.out KT2.out.at_ HS2.out).mono ?_
        rintro e Z5 ⟨hE, hb⟩
        rw [← HX.out] at hE
        obtain ⟨aN, kN, bN, lN, cN, qN, rfl, hO⟩ := hE
        have HOW := Lib.hid (hO.low hHeld.size)
        clear hO
        have HV2 := Lib.hid (nrow_below HV.out hb)
        clear HV
        have HV := HV2
        clear HV2
        have KT02 := Lib.hid (KT0.out.below hb)
        clear KT0
        have KT0 := KT02
        clear KT02
        have KT12 := Lib.hid (KT1.out.below hb)
        clear KT1
        have KT1 := KT12
        clear KT12
        have KT22 := Lib.hid (KT2.out.below hb)
        clear KT2
        have KT2 := KT22
        clear KT22
        go_wp2_with fail
        refine hK.out _ _ (hHeld.trans (hb.mono hHeld.size)) (fun hHeld2 => ?_)
        clear hK hHeld hb
        have hHeld := hHeld2
        clear hHeld2
        have zr := cyput5 HV.out rfl (.slice aN xx.s.n kN) (.slice bN xx.s.m lN) (.bool xx.s.fl) (.slice cN xx.n qN) (.int .i64 xx.cd)
        have zk := fun (k : Nat) (hk : k ≠ xb) => cyblk5 (W := Z5) hk (.slice aN xx.s.n kN) (.slice bN xx.s.m lN) (.bool xx.s.fl) (.slice cN xx.n qN) (.int .i64 xx.cd)
        have zb := cybel5 (g := xb) hHeld HXL.out (.slice aN xx.s.n kN) (.slice bN xx.s.m lN) (.bool xx.s.fl) (.slice cN xx.n qN) (.int .i64 xx.cd)
        obtain ⟨⟨o0, o1, o2, o3, o4⟩, z0, z1, z2, z3, z4⟩ := rowN5 HV.out
        have hol := HV.out.lt
        refine take_call (i := 8) rfl (by kernel_rfl) (fun K2 hK => ?_)
        go_simp
        clear o0 o1 o2 o3 o4 z0 z1 z2 z3 z4
        have zo : CoO 2 w2.heap.size xx.s.n kN xx.s.m lN xx.n qN aN bN cN xx.s.T xx.s.C xx.O _ := HOW.out.keep (fun j e _ _ => zk j (fun e2 => by rw [e2] at e; exact HOW.out.neR HV.out (by decide) e))
        generalize (((((Z5).setCell ⟨xb, 0, none⟩ (.slice aN xx.s.n kN)).setCell ⟨xb, 1, none⟩ (.slice bN xx.s.m lN)).setCell ⟨xb, 2, none⟩ (.bool xx.s.fl)).setCell ⟨xb, 3, none⟩ (.slice cN xx.n qN)).setCell ⟨xb, 4, none⟩ (.int .i64 xx.cd) = Y at zr zk zb zo ⊢
        refine hK.out _ _ zb (fun hHeld2 => ?_)
        clear hK hHeld hHeld2
        refine wpAnyH_done (by kernel_rfl) ?_ _
        have HPR : Hid (Below w2.heap.size w2 Y ∧ Y.rowIs xb 38 5 (rowN (coL xx aN kN bN lN cN qN)) ∧ (CoO 2 w2.heap.size xx.s.n kN xx.s.m lN xx.n qN aN bN cN xx.s.T xx.s.C xx.O Y) ∧ w2.heap.size ≤ xb) := ⟨zb, zr, zo, HXL.out⟩
        clear zo
        clear zr zk zb
        go_wp2_with fail
        go_meet
        case rel => exact ⟨xb, aN, kN, bN, lN, cN, qN, rfl, HPR⟩
    · obtain ⟨Z1, hZ1⟩ : ∃ Z1, Z1 = Z.alloc (.cells #[.slice none 0 0, .slice none 0 0, .bool false, .slice none 0 0, .int .i64 0] 38) := ⟨_, rfl⟩
      have hb : Below Z.heap.size Z Z1 := by rw [hZ1]; exact nbel_alloc _ _
      have HV : Hid (Z1.rowIs Z.heap.size 38 5 (rowN [.slice none 0 0, .slice none 0 0, .bool false, .slice none 0 0, .int .i64 0])) := by show World.rowIs _ _ _ _ _; rw [hZ1]; exact rowN_alloc _ _ _
      obtain ⟨xb, hxb⟩ : ∃ xb, xb = Z.heap.size := ⟨_, rfl⟩
      rw [← hxb] at HV
      have HXL : Hid (w2.heap.size ≤ xb) := by show _ ≤ _; rw [hxb]; exact hHeld.size
      go_simp
      rw [← hZ1, ← hxb]
      clear hZ1
      refine hK.out _ _ (hHeld.trans (hb.mono hHeld.size)) (fun hHeld2 => ?_)
      clear hK hHeld hxb hb
      have hHeld := hHeld2
      clear hHeld2
      refine wpAnyH_ready (rs := [1]) (by kernel_rfl) (by simp) (AllReadyH.cons (at_drop (i := 1) rfl) (fun K2 hK => ?_) (AllReadyH.nil))
      go_simp
      refine (toProg_any n la lk fa fk wa wk _ (HI0.out.below (OLD.out.trans (hHeld.mono OLD.out.size))) HS0.out).mono ?_
      rintro e Z2 ⟨⟨glt10, gft10, gwt10, rfl, hk⟩, hb⟩
      have KT0 := Lib.hid hk
      clear hk
      have HV2 := Lib.hid (nrow_below HV.out hb)
      clear HV
      have HV := HV2
      clear HV2
      go_wp2_with fail
      refine hK.out _ _ (hHeld.trans (hb.mono hHeld.size)) (fun hHeld2 => ?_)
      clear hK hHeld hb
      have hHeld := hHeld2
      clear hHeld2
      refine wpAnyH_ready (rs := [3]) (by kernel_rfl) (by simp) (AllReadyH.cons (at_drop (i := 3) rfl) (fun K2 hK => ?_) (AllReadyH.nil))
      go_simp
      refine (toLogic_any s sa sk sb sl _ (HI1.out.below (OLD.out.trans (hHeld.mono OLD.out.size))) HS1.out).mono ?_
      rintro e Z3 ⟨⟨gat11, gbt11, rfl, hk⟩, hb⟩
      have KT1 := Lib.hid hk
      clear hk
      have HV2 := Lib.hid (nrow_below HV.out hb)
      clear HV
      have HV := HV2
      clear HV2
      have KT02 := Lib.hid (KT0.out.below hb)
      clear KT0
      have KT0 := KT02
      clear KT02
      go_wp2_with fail
      refine hK.out _ _ (hHeld.trans (hb.mono hHeld.size)) (fun hHeld2 => ?_)
      clear hK hHeld hb
      have hHeld := hHeld2
      clear hHeld2
      refine wpAnyH_ready (rs := [5]) (by kernel_rfl) (by simp) (AllReadyH.cons (at_drop (i := 5) rfl) (fun K2 hK => ?_) (AllReadyH.nil))
      go_simp
      refine (ints_conv ia iN iK I _ (HI2.out.below (OLD.out.trans (hHeld.mono OLD.out.size))) HS2.out).mono ?_
      rintro e Z4 ⟨⟨git12, rfl, hlo, hk⟩, hb⟩
      have KT2 := Lib.hid hk
      clear hk hlo
      have HV2 := Lib.hid (nrow_below HV.out hb)
      clear HV
      have HV := HV2
      clear HV2
      have KT02 := Lib.hid (KT0.out.below hb)
      clear KT0
      have KT0 := KT02
      clear KT02
      have KT12 := Lib.hid (KT1.out.below hb)
      clear KT1
      have KT1 := KT12
      clear KT12
      go_wp2_with fail
      refine hK.out _ _ (hHeld.trans (hb.mono hHeld.size)) (fun hHeld2 => ?_)
      clear hK hHeld hb
      have hHeld := hHeld2
      clear hHeld2
      refine wpAnyH_ready (rs := [6]) (by kernel_rfl) (by simp) (AllReadyH.cons (at_drop (i := 6) rfl) (fun K2 hK => ?_) (AllReadyH.nil))
      go_simp
      refine (specCycle_any n _ _ _ _ _ _ s _ _ _ _ _ iN _ I _ KT0.out.at_ HS0.out KT1.out.ls HS1.out KT2.out.at_ HS2.out).mono ?_
      rintro e Z5 ⟨hE, hb⟩
      rw [← HX.out] at hE
      obtain ⟨aN, kN, bN, lN, cN, qN, rfl, hO⟩ := hE
      have HOW := Lib.hid (hO.low hHeld.size)
      clear hO
      have HV2 := Lib.hid (nrow_below HV.out hb)
      clear HV
      have HV := HV2
      clear HV2
      have KT02 := Lib.hid (KT0.out.below hb)
      clear KT0
      have KT0 := KT02
      clear KT02
      have KT12 := Lib.hid (KT1.out.below hb)
      clear KT1
      have KT1 := KT12
      clear KT12
      have KT22 := Lib.hid (KT2.out.below hb)
      clear KT2
      have KT2 := KT22
      clear KT22
      go_wp2_with fail
      refine hK.out _ _ (hHeld.trans (hb.mono hHeld.size)) (fun hHeld2 => ?_)
      clear hK hHeld hb
      have hHeld := hHeld2
      clear hHeld2
      have zr := cyput5 HV.out rfl (.slice aN xx.s.n kN) (.slice bN xx.s.m lN) (.bool xx.s.fl) (.slice cN xx.n qN) (.int .i64 xx.cd)
      have zk := fun (k : Nat) (hk : k ≠ xb) => cyblk5 (W := Z5) hk (.slice aN xx.s.n kN) (.slice bN xx.s.m lN) (.bool xx.s.fl) (.slice cN xx.n qN) (.int .i64 xx.cd)
      have zb := cybel5 (g := xb) hHeld HXL.out (.slice aN xx.s.n kN) (.slice bN xx.s.m lN) (.bool xx.s.fl) (.slice cN xx.n qN) (.int .i64 xx.cd)
      obtain ⟨⟨o0, o1, o2, o3, o4⟩, z0, z1, z2, z3, z4⟩ := rowN5 HV.out
      have hol := HV.out.lt
      refine take_call (i := 8) rfl (by kernel_rfl) (fun K2 hK => ?_)
      go_simp
      clear o0 o1 o2 o3 o4 z0 z1 z2 z3 z4
      have zo : CoO 2 w2.heap.size xx.s.n kN xx.s.m lN xx.n qN aN bN cN xx.s.T xx.s.C xx.O _ := HOW.out.keep (fun j e _ _ => zk j (fun e2 => by rw [e2] at e; exact HOW.out.neR HV.out (by decide) e))
      generalize (((((Z5).setCell ⟨xb, 0, none⟩ (.slice aN xx.s.n kN)).setCell ⟨xb, 1, none⟩ (.slice bN xx.s.m lN)).setCell ⟨xb, 2, none⟩ (.bool xx.s.fl)).setCell ⟨xb, 3, none⟩ (.slice cN xx.n qN)).setCell ⟨xb, 4, none⟩ (.int .i64 xx.cd) = Y at zr zk zb zo ⊢
      refine hK.out _ _ zb (fun hHeld2 => ?_)
      clear hK hHeld hHeld2
      refine wpAnyH_done (by kernel_rfl) ?_ _
      have HPR : Hid (Below w2.heap.size w2 Y ∧ Y.rowIs xb 38 5 (rowN (coL xx aN kN bN lN cN qN)) ∧ (CoO 2 w2.heap.size xx.s.n kN xx.s.m lN xx.n qN aN bN cN xx.s.T xx.s.C xx.O Y) ∧ w2.heap.size ≤ xb) := ⟨zb, zr, zo, HXL.out⟩
      clear zo
      clear zr zk zb
      go_wp2_with fail
      go_meet
      case rel => exact ⟨xb, aN, kN, bN, lN, cN, qN, rfl, HPR⟩
  case rest =>
    obtain ⟨s5, a5, k5, b5, l5, c5, q5, rfl, hPR⟩ := hcut
    obtain ⟨Z5, hZ⟩ : ∃ Z, Z = wc := ⟨_, rfl⟩
    rw [← hZ] at hPR ⊢
    clear hZ
    have FS := Lib.hid ((fact_row hPR.out.2.1 hPR.out.2.2.2).with (fact_coo hPR.out.2.2.1 (Nat.le_refl _) hPR.out.1.size))
    have hbz := hPR.out.1
    clear hPR
    replace OLD := Lib.hid (OLD.out.trans (hbz.mono OLD.out.size))
    replace R0 := Lib.hid (R0.out.below hbz)
    replace R1 := Lib.hid (R1.out.below hbz)
    clear hbz
    obtain ⟨⟨x0, x1, x2⟩, _⟩ := rowN3 R0.out.p
    go_wp2_with fail
    clear x0 x1 x2
    refine (toProg_any n la lk fa fk wa wk _ (HI0.out.below OLD.out) HS0.out).mono ?_
    rintro e w3 ⟨⟨glc0, gfc0, gwc0, rfl, hk⟩, hb⟩
    obtain ⟨Y0, hZ⟩ : ∃ Z, Z = w3.alloc (.cells (#[.slice (some ⟨glc0, 0, none⟩) n.bn n.bn, .slice (some ⟨gfc0, 0, none⟩) n.on n.on, .slice (some ⟨gwc0, 0, none⟩) n.nn n.nn]) 27) := ⟨_, rfl⟩
    obtain ⟨p0, hs⟩ : ∃ s, s = w3.heap.size := ⟨_, rfl⟩
    have hbz : Below Z5.heap.size Z5 Y0 := hb.trans (by rw [hZ]; exact (nbel_alloc _ _).mono hb.size)
    have hr : Y0.rowIs p0 27 3 (rowN (pgL n (some ⟨glc0, 0, none⟩) n.bn (some ⟨gfc0, 0, none⟩) n.on (some ⟨gwc0, 0, none⟩) n.nn)) := by rw [hZ, hs]; exact rowN_alloc w3 (pgL n (some ⟨glc0, 0, none⟩) n.bn (some ⟨gfc0, 0, none⟩) n.on (some ⟨gwc0, 0, none⟩) n.nn) _
    have hk := hk.below (nbel_alloc w3 (.cells (#[.slice (some ⟨glc0, 0, none⟩) n.bn n.bn, .slice (some ⟨gfc0, 0, none⟩) n.on n.on, .slice (some ⟨gwc0, 0, none⟩) n.nn n.nn]) 27))
    rw [← hZ] at hk
    have hls : Z5.heap.size ≤ p0 := by rw [hs]; exact hb.size
    have X0 := Lib.hid (fact_pg hr hk hls)
    have RX0 : Hid ((Z5.heap.size ≤ glc0 ∧ glc0 < Y0.heap.size) ∧ (Z5.heap.size ≤ gfc0 ∧ gfc0 < Y0.heap.size) ∧ (Z5.heap.size ≤ gwc0 ∧ gwc0 < Y0.heap.size)) := ⟨⟨hk.lo.1, hk.l.lt⟩, ⟨hk.lo.2.1, hk.f.lt⟩, ⟨hk.lo.2.2, hk.w.lt⟩⟩
    have HZ := Lib.hid hZ
    have HSS := Lib.hid hs
    clear hZ hs hr hk hls hb
    replace OLD := Lib.hid (OLD.out.trans (hbz.mono OLD.out.size))
    replace R0 := Lib.hid (R0.out.below hbz)
    replace R1 := Lib.hid (R1.out.below hbz)
    replace FS := Lib.hid (FS.out.below hbz)
    clear hbz
    have QX0 := Lib.hid X0.out.le.1
    obtain ⟨⟨x0, x1, x2⟩, _⟩ := rowN3 R1.out.p
    rw [HZ.out] at x0 x1 x2
    go_wp2_with fail
    rw [← HZ.out, ← HSS.out]
    clear HZ HSS
    clear x0 x1 x2
    refine (toLogic_any s sa sk sb sl _ (HI1.out.below OLD.out) HS1.out).mono ?_
    rintro e w4 ⟨⟨gac1, gbc1, rfl, hk⟩, hb⟩
    obtain ⟨Y1, hZ⟩ : ∃ Z, Z = w4.alloc (.cells (lgA s (some ⟨gac1, 0, none⟩) s.n (some ⟨gbc1, 0, none⟩) s.m) 33) := ⟨_, rfl⟩
    obtain ⟨p1, hs⟩ : ∃ s, s = w4.heap.size := ⟨_, rfl⟩
    have hbz : Below Y0.heap.size Y0 Y1 := hb.trans (by rw [hZ]; exact (nbel_alloc _ _).mono hb.size)
    have hr : Y1.rowIs p1 33 3 (rowN (lgL s (some ⟨gac1, 0, none⟩) s.n (some ⟨gbc1, 0, none⟩) s.m)) := by rw [hZ, hs]; exact rowN_alloc w4 (lgL s (some ⟨gac1, 0, none⟩) s.n (some ⟨gbc1, 0, none⟩) s.m) _
    have hk := hk.below (nbel_alloc w4 (.cells (lgA s (some ⟨gac1, 0, none⟩) s.n (some ⟨gbc1, 0, none⟩) s.m) 33))
    rw [← hZ] at hk
    have hls : Y0.heap.size ≤ p1 := by rw [hs]; exact hb.size
    have X1 := Lib.hid ((fact_row hr hls).with (fact_lgo hk (Nat.le_refl _) (Nat.le_trans hls (Nat.le_of_lt (World.rowIs.lt hr)))))
    have RX1 : Hid ((Y0.heap.size ≤ gac1 ∧ gac1 < Y1.heap.size) ∧ (Y0.heap.size ≤ gbc1 ∧ gbc1 < Y1.heap.size)) := ⟨hk.t.lt rfl, hk.c.lt rfl⟩
    have HZ := Lib.hid hZ
    have HSS := Lib.hid hs
    clear hZ hs hr hk hls hb
    replace OLD := Lib.hid (OLD.out.trans (hbz.mono OLD.out.size))
    replace R0 := Lib.hid (R0.out.below hbz)
    replace R1 := Lib.hid (R1.out.below hbz)
    replace FS := Lib.hid (FS.out.below hbz)
    replace X0 := Lib.hid (X0.out.below hbz)
    clear hbz
    have QX1 := Lib.hid X1.out.le.1
    go_wp2_with fail
    rw [← HZ.out, ← HSS.out]
    clear HZ HSS
    refine (ints_conv ia iN iK I _ (HI2.out.below OLD.out) HS2.out).mono ?_
    rintro e w5 ⟨⟨gic2, rfl, hlo, hk⟩, hb⟩
    have X2 := Lib.hid (fact_blk hk hlo)
    have RX2 : Hid (Y1.heap.size ≤ gic2 ∧ gic2 < w5.heap.size) := ⟨hlo, hk.lt⟩
    clear hk hlo
    replace OLD := Lib.hid (OLD.out.trans (hb.mono OLD.out.size))
    replace R0 := Lib.hid (R0.out.below hb)
    replace R1 := Lib.hid (R1.out.below hb)
    replace FS := Lib.hid (FS.out.below hb)
    replace X0 := Lib.hid (X0.out.below hb)
    replace X1 := Lib.hid (X1.out.below hb)
    clear hb
    have QX2 := Lib.hid X2.out.le.1
    obtain ⟨⟨x0, x1, x2⟩, _⟩ := rowN3 X0.out.p.1
    obtain ⟨⟨y0, y1, y2⟩, _⟩ := rowN3 X1.out.p.1
    go_wp2_with fail
    clear x0 x1 x2
    clear y0 y1 y2
    refine (implCycle_any n _ _ _ _ _ _ s _ _ _ _ _ iN _ I _ (X0.out.p.2).at_ HS0.out (X1.out.p.2).ls HS1.out (X2.out.p).at_ HS2.out (Nat.le_refl _) (HG.out.below OLD.out)).mono ?_
    rintro e w6 ⟨hE, hb⟩
    rw [← HX.out] at hE
    obtain ⟨a6, k6, b6, l6, c6, q6, rfl, hO⟩ := hE
    obtain ⟨Z6, hZ⟩ : ∃ Z, Z = w6.alloc (.cells (coA xx a6 k6 b6 l6 c6 q6) 38) := ⟨_, rfl⟩
    obtain ⟨s6, hs⟩ : ∃ s, s = w6.heap.size := ⟨_, rfl⟩
    have hbz : Below w5.heap.size w5 Z6 := hb.trans (by rw [hZ]; exact (nbel_alloc _ _).mono hb.size)
    have hr : Z6.rowIs s6 38 5 (rowN (coL xx a6 k6 b6 l6 c6 q6)) := by rw [hZ, hs]; exact rowN_alloc w6 (coL xx a6 k6 b6 l6 c6 q6) _
    have ho : CoO 2 w5.heap.size xx.s.n k6 xx.s.m l6 xx.n q6 a6 b6 c6 xx.s.T xx.s.C xx.O Z6 := by rw [hZ]; exact hO.below (nbel_alloc _ _)
    have hls : w5.heap.size ≤ s6 := by rw [hs]; exact hb.size
    have GA := Lib.hid ((fact_row hr hls).with (fact_coo ho (Nat.le_refl _) hbz.size))
    have GLS := Lib.hid hls
    have HZ := Lib.hid hZ
    have HSS := Lib.hid hs
    clear hZ hs hr ho hls hb hO
    replace OLD := Lib.hid (OLD.out.trans (hbz.mono OLD.out.size))
    replace R0 := Lib.hid (R0.out.below hbz)
    replace R1 := Lib.hid (R1.out.below hbz)
    replace FS := Lib.hid (FS.out.below hbz)
    replace X0 := Lib.hid (X0.out.below hbz)
    replace X1 := Lib.hid (X1.out.below hbz)
    replace X2 := Lib.hid (X2.out.below hbz)
    clear hbz
    obtain ⟨⟨y0, y1, y2, y3, y4⟩, _⟩ := rowN5 GA.out.p.1
    obtain ⟨⟨u0, u1, u2, u3, u4⟩, _⟩ := rowN5 FS.out.p.1
    rw [HZ.out, HSS.out] at y0 y1 y2 y3 y4
    rw [HZ.out] at u0 u1 u2 u3 u4
    go_wp2_with fail
    rw [← HZ.out, ← HSS.out]
    clear HZ HSS
    clear y0 y1 y2 y3 y4 u0 u1 u2 u3 u4
    refine (eqCycle_same xx _ _ _ _ _ _ _ _ _ _ _ _ _ GA.out.p.2.at_ FS.out.p.2.at_ HSX.out).mono ?_
    rintro e w7 ⟨rfl, hb⟩
    replace OLD := Lib.hid (OLD.out.trans (hb.mono OLD.out.size))
    replace R0 := Lib.hid (R0.out.below hb)
    replace R1 := Lib.hid (R1.out.below hb)
    replace FS := Lib.hid (FS.out.below hb)
    replace X0 := Lib.hid (X0.out.below hb)
    replace X1 := Lib.hid (X1.out.below hb)
    replace X2 := Lib.hid (X2.out.below hb)
    replace GA := Lib.hid (GA.out.below hb)
    clear hb
    go_wp2_with fail
    refine wp_region_held_drew (S := fun V => Below w7.heap.size w7 V) (by kernel_rfl) (Below.refl _ _).drew (fun hHeld => ?_)
    obtain ⟨De0, hD⟩ : ∃ Z, Z = w7.drew := ⟨_, rfl⟩
    rw [← hD] at hHeld ⊢
    clear hD
    refine take_do (i := 0) (v := (pgV n (some ⟨glc0, 0, none⟩) n.bn (some ⟨gfc0, 0, none⟩) n.on (some ⟨gwc0, 0, none⟩) n.nn)) rfl (by kernel_rfl) (by kernel_rfl) (by kernel_rfl) (fun _ _ _ h => h) (by rfl) ?_ (by assumption) ?_
    · intro w hSw
      obtain ⟨⟨a0, a1, a2⟩, _⟩ := rowN3 (nrow_below X0.out.p.1 hSw)
      go_simp
    simp only [Act.put, List.setIfInBounds_toArray, List.set_cons_zero, List.set_cons_succ]
    refine take_do (i := 1) (v := (pgV n la lk fa fk wa wk)) rfl (by kernel_rfl) (by kernel_rfl) (by kernel_rfl) (fun _ _ _ h => h) (by rfl) ?_ (by assumption) ?_
    · intro w hSw
      obtain ⟨⟨a0, a1, a2⟩, _⟩ := rowN3 (nrow_below R0.out.p hSw)
      go_simp
    simp only [Act.put, List.setIfInBounds_toArray, List.set_cons_zero, List.set_cons_succ]
    refine take_call (i := 2) rfl (by kernel_rfl) (fun K2 hK => ?_)
    go_simp
    refine (toProg_any n la lk fa fk wa wk _ (HI0.out.below (OLD.out.trans (hHeld.mono OLD.out.size))) HS0.out).mono ?_
    rintro e w8 ⟨⟨gle0, gfe0, gwe0, rfl, hk⟩, hb⟩
    have KT := Lib.hid hk
    clear hk
    go_wp2_with fail
    refine hK.out _ _ (hHeld.trans (hb.mono hHeld.size)) (fun hHeld2 => ?_)
    clear hK hHeld hb
    refine take_call (i := 3) rfl (by kernel_rfl) (fun K2 hK => ?_)
    go_simp
    refine (eqProg_same n _ _ _ _ _ _ _ _ _ _ _ _ _ ((X0.out.below hHeld2).p.2).at_ KT.out.at_ HS0.out).mono ?_
    rintro e w9 ⟨rfl, hb⟩
    go_wp2_with fail
    refine hK.out _ _ (hHeld2.trans (hb.mono hHeld2.size)) (fun hHeld => ?_)
    clear hK hHeld2 hb KT
    refine take_do (i := 4) (v := (.bool false)) rfl (by kernel_rfl) (by kernel_rfl) (by kernel_rfl) (fun _ _ _ h => h) (by rfl) ?_ (by assumption) ?_
    · intro w hSw
      go_simp
    simp only [Act.put, List.setIfInBounds_toArray, List.set_cons_zero, List.set_cons_succ]
    refine wpAnyH_done (by kernel_rfl) ?_ _
    replace OLD := Lib.hid (OLD.out.trans (hHeld.mono OLD.out.size))
    replace R0 := Lib.hid (R0.out.below hHeld)
    replace R1 := Lib.hid (R1.out.below hHeld)
    replace FS := Lib.hid (FS.out.below hHeld)
    replace X0 := Lib.hid (X0.out.below hHeld)
    replace X1 := Lib.hid (X1.out.below hHeld)
    replace X2 := Lib.hid (X2.out.below hHeld)
    replace GA := Lib.hid (GA.out.below hHeld)
    clear hHeld
    go_wp2_with fail
    refine wp_region_held_drew (S := fun V => Below w9.heap.size w9 V) (by kernel_rfl) (Below.refl _ _).drew (fun hHeld => ?_)
    obtain ⟨De1, hD⟩ : ∃ Z, Z = w9.drew := ⟨_, rfl⟩
    rw [← hD] at hHeld ⊢
    clear hD
    refine take_do (i := 0) (v := (lgV s (some ⟨gac1, 0, none⟩) s.n (some ⟨gbc1, 0, none⟩) s.m)) rfl (by kernel_rfl) (by kernel_rfl) (by kernel_rfl) (fun _ _ _ h => h) (by rfl) ?_ (by assumption) ?_
    · intro w hSw
      obtain ⟨⟨a0, a1, a2⟩, _⟩ := rowN3 (nrow_below X1.out.p.1 hSw)
      go_simp
    simp only [Act.put, List.setIfInBounds_toArray, List.set_cons_zero, List.set_cons_succ]
    refine take_do (i := 1) (v := (lgV s sa sk sb sl)) rfl (by kernel_rfl) (by kernel_rfl) (by kernel_rfl) (fun _ _ _ h => h) (by rfl) ?_ (by assumption) ?_
    · intro w hSw
      obtain ⟨⟨a0, a1, a2⟩, _⟩ := rowN3 (nrow_below R1.out.p hSw)
      go_simp
    simp only [Act.put, List.setIfInBounds_toArray, List.set_cons_zero, List.set_cons_succ]
    refine take_call (i := 2) rfl (by kernel_rfl) (fun K2 hK => ?_)
    go_simp
    refine (toLogic_any s sa sk sb sl _ (HI1.out.below (OLD.out.trans (hHeld.mono OLD.out.size))) HS1.out).mono ?_
    rintro e w10 ⟨⟨gae1, gbe1, rfl, hk⟩, hb⟩
    have KT := Lib.hid hk
    clear hk
    go_wp2_with fail
    refine hK.out _ _ (hHeld.trans (hb.mono hHeld.size)) (fun hHeld2 => ?_)
    clear hK hHeld hb
    refine take_call (i := 3) rfl (by kernel_rfl) (fun K2 hK => ?_)
    go_simp
    refine (eqLogic_same s _ _ _ _ _ _ _ _ _ ((X1.out.below hHeld2).p.2).ls KT.out.ls HS1.out).mono ?_
    rintro e w11 ⟨rfl, hb⟩
    go_wp2_with fail
    refine hK.out _ _ (hHeld2.trans (hb.mono hHeld2.size)) (fun hHeld => ?_)
    clear hK hHeld2 hb KT
    refine take_do (i := 4) (v := (.bool false)) rfl (by kernel_rfl) (by kernel_rfl) (by kernel_rfl) (fun _ _ _ h => h) (by rfl) ?_ (by assumption) ?_
    · intro w hSw
      go_simp
    simp only [Act.put, List.setIfInBounds_toArray, List.set_cons_zero, List.set_cons_succ]
    refine wpAnyH_done (by kernel_rfl) ?_ _
    replace OLD := Lib.hid (OLD.out.trans (hHeld.mono OLD.out.size))
    replace R0 := Lib.hid (R0.out.below hHeld)
    replace R1 := Lib.hid (R1.out.below hHeld)
    replace FS := Lib.hid (FS.out.below hHeld)
    replace X0 := Lib.hid (X0.out.below hHeld)
    replace X1 := Lib.hid (X1.out.below hHeld)
    replace X2 := Lib.hid (X2.out.below hHeld)
    replace GA := Lib.hid (GA.out.below hHeld)
    clear hHeld
    go_wp2_with fail
    refine (ints_conv ia iN iK I _ (HI2.out.below OLD.out) HS2.out).mono ?_
    rintro e w12 ⟨⟨gie2, rfl, hlo, hk⟩, hb⟩
    have KT := Lib.hid hk
    clear hk hlo
    replace OLD := Lib.hid (OLD.out.trans (hb.mono OLD.out.size))
    replace R0 := Lib.hid (R0.out.below hb)
    replace R1 := Lib.hid (R1.out.below hb)
    replace FS := Lib.hid (FS.out.below hb)
    replace X0 := Lib.hid (X0.out.below hb)
    replace X1 := Lib.hid (X1.out.below hb)
    replace X2 := Lib.hid (X2.out.below hb)
    replace GA := Lib.hid (GA.out.below hb)
    clear hb
    go_wp2_with fail
    refine (neqInt64S_same _ _ iN _ _ I _ (X2.out.p).at_ KT.out.at_ HS2.out).mono ?_
    rintro e w13 ⟨rfl, hb⟩
    clear KT
    replace OLD := Lib.hid (OLD.out.trans (hb.mono OLD.out.size))
    replace R0 := Lib.hid (R0.out.below hb)
    replace R1 := Lib.hid (R1.out.below hb)
    replace FS := Lib.hid (FS.out.below hb)
    replace X0 := Lib.hid (X0.out.below hb)
    replace X1 := Lib.hid (X1.out.below hb)
    replace X2 := Lib.hid (X2.out.below hb)
    replace GA := Lib.hid (GA.out.below hb)
    clear hb
    obtain ⟨⟨x0, x1, x2⟩, _⟩ := rowN3 X0.out.p.1
    go_wp2_with fail
    clear x0 x1 x2
    refine (markProg_any n _ glc0 gfc0 gwc0 n.bn n.on n.nn _ (X0.out.p.2) HS0.out).mono ?_
    rintro e w14 ⟨⟨M0, rfl, hM0⟩, ho⟩
    have hRG : Rng Z5.heap.size Y0.heap.size w13 w14 := ⟨ho.os, ho.tape, ho.output, ho.size, fun k hk hn => ho.block k hk (fun e => hn (by subst e; exact RX0.out.1)) (fun e => hn (by subst e; exact RX0.out.2.1)) (fun e => hn (by subst e; exact RX0.out.2.2))⟩
    clear ho
    have q0 := OLD.out.size
    have q1 := R0.out.le
    have q2 := R1.out.le
    have q3 := FS.out.le
    have q4 := X0.out.le
    have q5 := X1.out.le
    have q6 := X2.out.le
    have q7 := GA.out.le
    have qq := QQ.out
    have rQX0 := QX0.out
    have rQX1 := QX1.out
    have rQX2 := QX2.out
    replace OLD := Lib.hid (hRG.old OLD.out (by omega) (by omega))
    replace R0 := Lib.hid (R0.out.out hRG (by omega))
    replace R1 := Lib.hid (R1.out.out hRG (by omega))
    replace FS := Lib.hid (FS.out.out hRG (by omega))
    replace X1 := Lib.hid (X1.out.out hRG (by omega))
    replace X2 := Lib.hid (X2.out.out hRG (by omega))
    replace GA := Lib.hid (GA.out.out hRG (by omega))
    clear hRG q0 qq X0 RX0 q1 q2 q3 q4 q5 q6 q7 rQX0 rQX1 rQX2
    have hK00 : ¬ (M0 : Int) < 0 := mark_pos _
    obtain ⟨⟨x0, x1, x2⟩, _⟩ := rowN3 X1.out.p.1
    go_wp2_with fail
    clear x0 x1 x2
    refine (markLogic_any s _ (X1.out.p.2) HS1.out (by omega)).mono ?_
    rintro e w15 ⟨rfl, _, ho⟩
    have hRG : Rng Y0.heap.size Y1.heap.size w14 w15 := rng_a ho (fun y j hy e => by simp at hy; rcases hy with rfl | rfl <;> cases e <;> first | exact RX1.out.1 | exact RX1.out.2)
    clear ho
    have q0 := OLD.out.size
    have q1 := R0.out.le
    have q2 := R1.out.le
    have q3 := FS.out.le
    have q5 := X1.out.le
    have q6 := X2.out.le
    have q7 := GA.out.le
    have qq := QQ.out
    have rQX0 := QX0.out
    have rQX1 := QX1.out
    have rQX2 := QX2.out
    replace OLD := Lib.hid (hRG.old OLD.out (by omega) (by omega))
    replace R0 := Lib.hid (R0.out.out hRG (by omega))
    replace R1 := Lib.hid (R1.out.out hRG (by omega))
    replace FS := Lib.hid (FS.out.out hRG (by omega))
    replace X2 := Lib.hid (X2.out.out hRG (by omega))
    replace GA := Lib.hid (GA.out.out hRG (by omega))
    clear hRG q0 qq X1 RX1 q1 q2 q3 q5 q6 q7 rQX0 rQX1 rQX2
    obtain ⟨K1, hK⟩ : ∃ K : Nat, K = M0 + s.n + s.m := ⟨_, rfl⟩
    have hKK1 : K1 ≤ 200000000 := by have := HS1.out; unfold LgSmall at this;  omega
    rw [← hK]
    have hK10 : ¬ (K1 : Int) < 0 := mark_pos _
    clear hK
    go_wp2_with fail
    refine (nmarkInt64S_any gic2 iN iN K1 I _ (X2.out.p) HS2.out (by omega)).mono ?_
    rintro e w16 ⟨rfl, _, ho⟩
    have hRG : Rng Y1.heap.size w5.heap.size w15 w16 := Rng.of_only ho RX2.out
    clear ho
    have q0 := OLD.out.size
    have q1 := R0.out.le
    have q2 := R1.out.le
    have q3 := FS.out.le
    have q6 := X2.out.le
    have q7 := GA.out.le
    have qq := QQ.out
    have rQX0 := QX0.out
    have rQX1 := QX1.out
    have rQX2 := QX2.out
    replace OLD := Lib.hid (hRG.old OLD.out (by omega) (by omega))
    replace R0 := Lib.hid (R0.out.out hRG (by omega))
    replace R1 := Lib.hid (R1.out.out hRG (by omega))
    replace FS := Lib.hid (FS.out.out hRG (by omega))
    replace GA := Lib.hid (GA.out.out hRG (by omega))
    clear hRG q0 qq X2 RX2 q1 q2 q3 q6 q7 rQX0 rQX1 rQX2
    obtain ⟨K2, hK⟩ : ∃ K : Nat, K = K1 + iN := ⟨_, rfl⟩
    have hKK2 : K2 ≤ 300000000 := by have := HS2.out;  omega
    rw [← hK]
    have hK20 : ¬ (K2 : Int) < 0 := mark_pos _
    clear hK
    obtain ⟨⟨y0, y1, y2, y3, y4⟩, _⟩ := rowN5 GA.out.p.1
    obtain ⟨⟨u0, u1, u2, u3, u4⟩, _⟩ := rowN5 FS.out.p.1
    go_wp2_with fail
    clear y0 y1 y2 y3 y4 u0 u1 u2 u3 u4
    refine (eqCycle_same xx _ _ _ _ _ _ _ _ _ _ _ _ _ GA.out.p.2.at_ FS.out.p.2.at_ HSX.out).mono ?_
    rintro e w17 ⟨rfl, hb⟩
    replace OLD := Lib.hid (OLD.out.trans (hb.mono OLD.out.size))
    replace R0 := Lib.hid (R0.out.below hb)
    replace R1 := Lib.hid (R1.out.below hb)
    replace FS := Lib.hid (FS.out.below hb)
    replace GA := Lib.hid (GA.out.below hb)
    clear hb
    obtain ⟨⟨y0, y1, y2, y3, y4⟩, _⟩ := rowN5 GA.out.p.1
    go_wp2_with fail
    clear y0 y1 y2 y3 y4
    refine (markCycle_any xx _ GA.out.p.2 HSX.out).mono ?_
    rintro e w18 ⟨rfl, hm, ho⟩
    have hRG : Rng w5.heap.size w17.heap.size w17 w18 := rng_a ho (fun y j hy e => by simp at hy; rcases hy with rfl | rfl | rfl <;> first | exact (GA.out.p.2).lt (Or.inl e) | exact (GA.out.p.2).lt (Or.inr (Or.inl e)) | exact (GA.out.p.2).lt (Or.inr (Or.inr e)))
    have hr := row_a ho GA.out.p.1 (fun y hy => by simp at hy; rcases hy with rfl | rfl | rfl <;> first | exact (GA.out.p.2).s.t.ne GA.out.p.1 (by decide) | exact (GA.out.p.2).s.c.ne GA.out.p.1 (by decide) | exact (GA.out.p.2).o.ne GA.out.p.1 (by decide))
    clear ho
    have q0 := OLD.out.size
    have q1 := R0.out.le
    have q2 := R1.out.le
    have q3 := FS.out.le
    have q4 := GA.out.le
    have qq := QQ.out
    have rQX0 := QX0.out
    have rQX1 := QX1.out
    have rQX2 := QX2.out
    replace OLD := Lib.hid (hRG.old OLD.out (by omega) (by omega))
    have hls : w5.heap.size ≤ s6 := GLS.out
    replace R0 := Lib.hid (R0.out.out hRG (by omega))
    replace R1 := Lib.hid (R1.out.out hRG (by omega))
    replace FS := Lib.hid (FS.out.out hRG (by omega))
    replace GA := Lib.hid ((fact_row hr hls).with (fact_coo hm (Nat.le_refl _) (Nat.le_trans q4.1 (Nat.le_trans q4.2 hRG.size))))
    clear hr hls
    clear hm hRG qq q0 q1 q2 q3 q4 rQX0 rQX1 rQX2
    obtain ⟨QN, hQ⟩ : ∃ Q : Nat, Q = 1 + xx.s.n + xx.s.m + xx.n := ⟨_, rfl⟩
    have HQ : Hid (1 + xx.s.n + xx.s.m + xx.n = QN) := hQ.symm
    rw [← hQ]
    have hQ0 : ¬ (QN : Int) < 0 := mark_pos _
    have hQQ : ((QN : Int) != (QN : Int)) = false := by simp
    clear hQ
    obtain ⟨⟨y0, y1, y2, y3, y4⟩, _⟩ := rowN5 GA.out.p.1
    go_wp2_with fail
    clear y0 y1 y2 y3 y4
    refine (heldCycle_any xx _ GA.out.p.2 HSX.out).mono ?_
    rintro e w19 ⟨rfl, hb⟩
    rw [HQ.out]
    replace OLD := Lib.hid (OLD.out.trans (hb.mono OLD.out.size))
    replace R0 := Lib.hid (R0.out.below hb)
    replace R1 := Lib.hid (R1.out.below hb)
    replace FS := Lib.hid (FS.out.below hb)
    replace GA := Lib.hid (GA.out.below hb)
    clear hb
    go_wp2_with fail
    go_cut [16] (fun q Wq => ∃ xb aN kN bN lN cN qN, q = .pointer (some ⟨xb, 0, none⟩) ∧ Hid (Below w19.heap.size w19 Wq ∧ Wq.rowIs xb 38 5 (rowN (coL xx aN kN bN lN cN qN)) ∧ (CoO 2 w19.heap.size xx.s.n kN xx.s.m lN xx.n qN aN bN cN xx.s.T xx.s.C xx.O Wq) ∧ w19.heap.size ≤ xb))
    case first =>
      refine wp_region_held_drew (S := fun V => Below w19.heap.size w19 V) (by kernel_rfl) (Below.refl _ _).drew (fun hHeld => ?_)
      obtain ⟨Z, hZ⟩ : ∃ Z, Z = w19.drew := ⟨_, rfl⟩
      rw [← hZ] at hHeld ⊢
      clear hZ
      refine take_do (i := 0) (v := (pgV n la lk fa fk wa wk)) rfl (by kernel_rfl) (by kernel_rfl) (by kernel_rfl) (fun _ _ _ h => h) (by rfl) ?_ (by assumption) ?_
      · intro w hSw
        obtain ⟨⟨a0, a1, a2⟩, _⟩ := rowN3 (nrow_below R0.out.p hSw)
        go_simp
      simp only [Act.put, List.setIfInBounds_toArray, List.set_cons_zero, List.set_cons_succ]
      refine take_do (i := 2) (v := (lgV s sa sk sb sl)) rfl (by kernel_rfl) (by kernel_rfl) (by kernel_rfl) (fun _ _ _ h => h) (by rfl) ?_ (by assumption) ?_
      · intro w hSw
        obtain ⟨⟨a0, a1, a2⟩, _⟩ := rowN3 (nrow_below R1.out.p hSw)
        go_simp
      simp only [Act.put, List.setIfInBounds_toArray, List.set_cons_zero, List.set_cons_succ]
      refine take_do (i := 4) (v := (.slice ia iN iK)) rfl (by kernel_rfl) (by kernel_rfl) (by kernel_rfl) (fun _ _ _ h => h) (by rfl) ?_ (by assumption) ?_
      · intro w hSw
        go_simp
      simp only [Act.put, List.setIfInBounds_toArray, List.set_cons_zero, List.set_cons_succ]
      refine wpAnyH_ready (rs := [1, 7]) (by kernel_rfl) (by simp) (AllReadyH.cons (at_drop (i := 1) rfl) (fun K2 hK => ?_) (AllReadyH.cons (at_drop (i := 7) rfl) (fun K2 hK => ?_) (AllReadyH.nil)))
      · go_simp
        refine (toProg_any n la lk fa fk wa wk _ (HI0.out.below (OLD.out.trans (hHeld.mono OLD.out.size))) HS0.out).mono ?_
        rintro e Z1 ⟨⟨glt20, gft20, gwt20, rfl, hk⟩, hb⟩
        have KT0 := Lib.hid hk
        clear hk
        go_wp2_with fail
        refine hK.out _ _ (hHeld.trans (hb.mono hHeld.size)) (fun hHeld2 => ?_)
        clear hK hHeld hb
        have hHeld := hHeld2
        clear hHeld2
        refine wpAnyH_ready (rs := [3, 7]) (by kernel_rfl) (by simp) (AllReadyH.cons (at_drop (i := 3) rfl) (fun K2 hK => ?_) (AllReadyH.cons (at_drop (i := 7) rfl) (fun K2 hK => ?_) (AllReadyH.nil)))
        · go_simp
          refine (toLogic_any s sa sk sb sl _ (HI1.out.below (OLD.out.trans (hHeld.mono OLD.out.size))) HS1.out).mono ?_
          rintro e Z2 ⟨⟨gat21, gbt21, rfl, hk⟩, hb⟩
          have KT1 := Lib.hid hk
          clear hk
          have KT02 := Lib.hid (KT0.out.below hb)
          clear KT0
          have KT0 := KT02
          clear KT02
          go_wp2_with fail
          refine hK.out _ _ (hHeld.trans (hb.mono hHeld.size)) (fun hHeld2 => ?_)
          clear hK hHeld hb
          have hHeld := hHeld2
          clear hHeld2
          refine wpAnyH_ready (rs := [5, 7]) (by kernel_rfl) (by simp) (AllReadyH.cons (at_drop (i := 5) rfl) (fun K2 hK => ?_) (AllReadyH.cons (at_drop (i := 7) rfl) (fun K2 hK => ?_) (AllReadyH.nil)))
          · go_simp
            refine (ints_conv ia iN iK I _ (HI2.out.below (OLD.out.trans (hHeld.mono OLD.out.size))) HS2.out).mono ?_
            rintro e Z3 ⟨⟨git22, rfl, hlo, hk⟩, hb⟩
            have KT2 := Lib.hid hk
            clear hk hlo
            have KT02 := Lib.hid (KT0.out.below hb)
            clear KT0
            have KT0 := KT02
            clear KT02
            have KT12 := Lib.hid (KT1.out.below hb)
            clear KT1
            have KT1 := KT12
            clear KT12
            go_wp2_with fail
            refine hK.out _ _ (hHeld.trans (hb.mono hHeld.size)) (fun hHeld2 => ?_)
            clear hK hHeld hb
            have hHeld := hHeld2
            clear hHeld2
            refine wpAnyH_ready (rs := [6, 7]) (by kernel_rfl) (by simp) (AllReadyH.cons (at_drop (i := 6) rfl) (fun K2 hK => ?_) (AllReadyH.cons (at_drop (i := 7) rfl) (fun K2 hK => ?_) (AllReadyH.nil)))
            · go_simp
              refine (implCycle_any n _ _ _ _ _ _ s _ _ _ _ _ iN _ I _ KT0.out.at_ HS0.out KT1.out.ls HS1.out KT2.out.at_ HS2.out (Nat.le_refl _) (HG.out.below (OLD.out.trans (hHeld.mono OLD.out.size)))).mono ?_
              rintro e Z4 ⟨hE, hb⟩
              rw [← HX.out] at hE
              obtain ⟨aN, kN, bN, lN, cN, qN, rfl, hO⟩ := hE
              have HOW := Lib.hid (hO.low hHeld.size)
              clear hO
              have KT02 := Lib.hid (KT0.out.below hb)
              clear KT0
              have KT0 := KT02
              clear KT02
              have KT12 := Lib.hid (KT1.out.below hb)
              clear KT1
              have KT1 := KT12
              clear KT12
              have KT22 := Lib.hid (KT2.out.below hb)
              clear KT2
              have KT2 := KT22
              clear KT22
              go_wp2_with fail
              refine hK.out _ _ (hHeld.trans (hb.mono hHeld.size)) (fun hHeld2 => ?_)
              clear hK hHeld hb
              have hHeld := hHeld2
              clear hHeld2
              refine wpAnyH_ready (rs := [7]) (by kernel_rfl) (by simp) (AllReadyH.cons (at_drop (i := 7) rfl) (fun K2 hK => ?_) (AllReadyH.nil))
              obtain ⟨Z5, hZ5⟩ : ∃ Z5, Z5 = Z4.alloc (.cells #[.slice none 0 0, .slice none 0 0, .bool false, .slice none 0 0, .int .i64 0] 38) := ⟨_, rfl⟩
              have hb : Below Z4.heap.size Z4 Z5 := by rw [hZ5]; exact nbel_alloc _ _
              have HV : Hid (Z5.rowIs Z4.heap.size 38 5 (rowN [.slice none 0 0, .slice none 0 0, .bool false, .slice none 0 0, .int .i64 0])) := by show World.rowIs _ _ _ _ _; rw [hZ5]; exact rowN_alloc _ _ _
              obtain ⟨xb, hxb⟩ : ∃ xb, xb = Z4.heap.size := ⟨_, rfl⟩
              rw [← hxb] at HV
              have HXL : Hid (w19.heap.size ≤ xb) := by show _ ≤ _; rw [hxb]; exact hHeld.size
              have KT02 := Lib.hid (KT0.out.below hb)
              clear KT0
              have KT0 := KT02
              clear KT02
              have KT12 := Lib.hid (KT1.out.below hb)
              clear KT1
              have KT1 := KT12
              clear KT12
              have KT22 := Lib.hid (KT2.out.below hb)
              clear KT2
              have KT2 := KT22
              clear KT22
              have HOW2 := Lib.hid (HOW.out.below hb)
              clear HOW
              have HOW := HOW2
              clear HOW2
              go_simp
              rw [← hZ5, ← hxb]
              clear hZ5
              refine hK.out _ _ (hHeld.trans (hb.mono hHeld.size)) (fun hHeld2 => ?_)
              clear hK hHeld hxb hb
              have hHeld := hHeld2
              clear hHeld2
              have zr := cyput5 HV.out rfl (.slice aN xx.s.n kN) (.slice bN xx.s.m lN) (.bool xx.s.fl) (.slice cN xx.n qN) (.int .i64 xx.cd)
              have zk := fun (k : Nat) (hk : k ≠ xb) => cyblk5 (W := Z5) hk (.slice aN xx.s.n kN) (.slice bN xx.s.m lN) (.bool xx.s.fl) (.slice cN xx.n qN) (.int .i64 xx.cd)
              have zb := cybel5 (g := xb) hHeld HXL.out (.slice aN xx.s.n kN) (.slice bN xx.s.m lN) (.bool xx.s.fl) (.slice cN xx.n qN) (.int .i64 xx.cd)
              obtain ⟨⟨o0, o1, o2, o3, o4⟩, z0, z1, z2, z3, z4⟩ := rowN5 HV.out
              have hol := HV.out.lt
              refine take_call (i := 8) rfl (by kernel_rfl) (fun K2 hK => ?_)
              go_simp
              clear o0 o1 o2 o3 o4 z0 z1 z2 z3 z4
              have zo : CoO 2 w19.heap.size xx.s.n kN xx.s.m lN xx.n qN aN bN cN xx.s.T xx.s.C xx.O _ := HOW.out.keep (fun j e _ _ => zk j (fun e2 => by rw [e2] at e; exact HOW.out.neR HV.out (by decide) e))
              generalize (((((Z5).setCell ⟨xb, 0, none⟩ (.slice aN xx.s.n kN)).setCell ⟨xb, 1, none⟩ (.slice bN xx.s.m lN)).setCell ⟨xb, 2, none⟩ (.bool xx.s.fl)).setCell ⟨xb, 3, none⟩ (.slice cN xx.n qN)).setCell ⟨xb, 4, none⟩ (.int .i64 xx.cd) = Y at zr zk zb zo ⊢
              refine hK.out _ _ zb (fun hHeld2 => ?_)
              clear hK hHeld hHeld2
              refine wpAnyH_done (by kernel_rfl) ?_ _
              have HPR : Hid (Below w19.heap.size w19 Y ∧ Y.rowIs xb 38 5 (rowN (coL xx aN kN bN lN cN qN)) ∧ (CoO 2 w19.heap.size xx.s.n kN xx.s.m lN xx.n qN aN bN cN xx.s.T xx.s.C xx.O Y) ∧ w19.heap.size ≤ xb) := ⟨zb, zr, zo, HXL.out⟩
              clear zo
              clear zr zk zb
              go_wp2_with fail
              go_meet
              case rel => exact ⟨xb, aN, kN, bN, lN, cN, qN, rfl, HPR⟩
            · obtain ⟨Z4, hZ4⟩ : ∃ Z4, Z4 = Z3.alloc (.cells #[.slice none 0 0, .slice none 0 0, .bool false, .slice none 0 0, .int .i64 0] 38) := ⟨_, rfl⟩
              have hb : Below Z3.heap.size Z3 Z4 := by rw [hZ4]; exact nbel_alloc _ _
              have HV : Hid (Z4.rowIs Z3.heap.size 38 5 (rowN [.slice none 0 0, .slice none 0 0, .bool false, .slice none 0 0, .int .i64 0])) := by show World.rowIs _ _ _ _ _; rw [hZ4]; exact rowN_alloc _ _ _
              obtain ⟨xb, hxb⟩ : ∃ xb, xb = Z3.heap.size := ⟨_, rfl⟩
              rw [← hxb] at HV
              have HXL : Hid (w19.heap.size ≤ xb) := by show _ ≤ _; rw [hxb]; exact hHeld.size
              have KT02 := Lib.hid (KT0.out.below hb)
              clear KT0
              have KT0 := KT02
              clear KT02
              have KT12 := Lib.hid (KT1.out.below hb)
              clear KT1
              have KT1 := KT12
              clear KT12
              have KT22 := Lib.hid (KT2.out.below hb)
              clear KT2
              have KT2 := KT22
              clear KT22
              go_simp
              rw [← hZ4, ← hxb]
              clear hZ4
              refine hK.out _ _ (hHeld.trans (hb.mono hHeld.size)) (fun hHeld2 => ?_)
              clear hK hHeld hxb hb
              have hHeld := hHeld2
              clear hHeld2
              refine wpAnyH_ready (rs := [6]) (by kernel_rfl) (by simp) (AllReadyH.cons (at_drop (i := 6) rfl) (fun K2 hK => ?_) (AllReadyH.nil))
              go_simp
              refine (implCycle_any n _ _ _ _ _ _ s _ _ _ _ _ iN _ I _ KT0.out.at_ HS0.out KT1.out.ls HS1.out KT2.out.at_ HS2.out (Nat.le_refl _) (HG.out.below (OLD.out.trans (hHeld.mono OLD.out.size)))).mono ?_
              rintro e Z5 ⟨hE, hb⟩
              rw [← HX.out] at hE
              obtain ⟨aN, kN, bN, lN, cN, qN, rfl, hO⟩ := hE
              have HOW := Lib.hid (hO.low hHeld.size)
              clear hO
              have HV2 := Lib.hid (nrow_below HV.out hb)
              clear HV
              have HV := HV2
              clear HV2
              have KT02 := Lib.hid (KT0.out.below hb)
              clear KT0
              have KT0 := KT02
              clear KT02
              have KT12 := Lib.hid (KT1.out.below hb)
              clear KT1
              have KT1 := KT12
              clear KT12
              have KT22 := Lib.hid (KT2.out.below hb)
              clear KT2
              have KT2 := KT22
              clear KT22
              go_wp2_with fail
              refine hK.out _ _ (hHeld.trans (hb.mono hHeld.size)) (fun hHeld2 => ?_)
              clear hK hHeld hb
              have hHeld := hHeld2
              clear hHeld2
              have zr := cyput5 HV.out rfl (.slice aN xx.s.n kN) (.slice bN xx.s.m lN) (.bool xx.s.fl) (.slice cN xx.n qN) (.int .i64 xx.cd)
              have zk := fun (k : Nat) (hk : k ≠ xb) => cyblk5 (W := Z5) hk (.slice aN xx.s.n kN) (.slice bN xx.s.m lN) (.bool xx.s.fl) (.slice cN xx.n qN) (.int .i64 xx.cd)
              have zb := cybel5 (g := xb) hHeld HXL.out (.slice aN xx.s.n kN) (.slice bN xx.s.m lN) (.bool xx.s.fl) (.slice cN xx.n qN) (.int .i64 xx.cd)
              obtain ⟨⟨o0, o1, o2, o3, o4⟩, z0, z1, z2, z3, z4⟩ := rowN5 HV.out
              have hol := HV.out.lt
              refine take_call (i := 8) rfl (by kernel_rfl) (fun K2 hK => ?_)
              go_simp
              clear o0 o1 o2 o3 o4 z0 z1 z2 z3 z4
              have zo : CoO 2 w19.heap.size xx.s.n kN xx.s.m lN xx.n qN aN bN cN xx.s.T xx.s.C xx.O _ := HOW.out.keep (fun j e _ _ => zk j (fun e2 => by rw [e2] at e; exact HOW.out.neR HV.out (by decide) e))
              generalize (((((Z5).setCell ⟨xb, 0, none⟩ (.slice aN xx.s.n kN)).setCell ⟨xb, 1, none⟩ (.slice bN xx.s.m lN)).setCell ⟨xb, 2, none⟩ (.bool xx.s.fl)).setCell ⟨xb, 3, none⟩ (.slice cN xx.n qN)).setCell ⟨xb, 4, none⟩ (.int .i64 xx.cd) = Y at zr zk zb zo ⊢
              refine hK.out _ _ zb (fun hHeld2 => ?_)
              clear hK hHeld hHeld2
              refine wpAnyH_done (by kernel_rfl) ?_ _
              have HPR : Hid (Below w19.heap.size w19 Y ∧ Y.rowIs xb 38 5 (rowN (coL xx aN kN bN lN cN qN)) ∧ (CoO 2 w19.heap.size xx.s.n kN xx.s.m lN xx.n qN aN bN cN xx.s.T xx.s.C xx.O Y) ∧ w19.heap.size ≤ xb) := ⟨zb, zr, zo, HXL.out⟩
              clear zo
              clear zr zk zb
              go_wp2_with fail
              go_meet
              case rel => exact ⟨xb, aN, kN, bN, lN, cN, qN, rfl, HPR⟩
          · obtain ⟨Z3, hZ3⟩ : ∃ Z3, Z3 = Z2.alloc (.cells #[.slice none 0 0, .slice none 0 0, .bool false, .slice none 0 0, .int .i64 0] 38) := ⟨_, rfl⟩
            have hb : Below Z2.heap.size Z2 Z3 := by rw [hZ3]; exact nbel_alloc _ _
            have HV : Hid (Z3.rowIs Z2.heap.size 38 5 (rowN [.slice none 0 0, .slice none 0 0, .bool false, .slice none 0 0, .int .i64 0])) := by show World.rowIs _ _ _ _ _; rw [hZ3]; exact rowN_alloc _ _ _
            obtain ⟨xb, hxb⟩ : ∃ xb, xb = Z2.heap.size := ⟨_, rfl⟩
            rw [← hxb] at HV
            have HXL : Hid (w19.heap.size ≤ xb) := by show _ ≤ _; rw [hxb]; exact hHeld.size
            have KT02 := Lib.hid (KT0.out.below hb)
            clear KT0
            have KT0 := KT02
            clear KT02
            have KT12 := Lib.hid (KT1.out.below hb)
            clear KT1
            have KT1 := KT12
            clear KT12
            go_simp
            rw [← hZ3, ← hxb]
            clear hZ3
            refine hK.out _ _ (hHeld.trans (hb.mono hHeld.size)) (fun hHeld2 => ?_)
            clear hK hHeld hxb hb
            have hHeld := hHeld2
            clear hHeld2
            refine wpAnyH_ready (rs := [5]) (by kernel_rfl) (by simp) (AllReadyH.cons (at_drop (i := 5) rfl) (fun K2 hK => ?_) (AllReadyH.nil))
            go_simp
            refine (ints_conv ia iN iK I _ (HI2.out.below (OLD.out.trans (hHeld.mono OLD.out.size))) HS2.out).mono ?_
            rintro e Z4 ⟨⟨git22, rfl, hlo, hk⟩, hb⟩
            have KT2 := Lib.hid hk
            clear hk hlo
            have HV2 := Lib.hid (nrow_below HV.out hb)
            clear HV
            have HV := HV2
            clear HV2
            have KT02 := Lib.hid (KT0.out.below hb)
            clear KT0
            have KT0 := KT02
            clear KT02
            have KT12 := Lib.hid (KT1.out.below hb)
            clear KT1
            have KT1 := KT12
            clear KT12
            go_wp2_with fail
            refine hK.out _ _ (hHeld.trans (hb.mono hHeld.size)) (fun hHeld2 => ?_)
            clear hK hHeld hb
            have hHeld := hHeld2
            clear hHeld2
            refine wpAnyH_ready (rs := [6]) (by kernel_rfl) (by simp) (AllReadyH.cons (at_drop (i := 6) rfl) (fun K2 hK => ?_) (AllReadyH.nil))
            go_simp
            refine (implCycle_any n _ _ _ _ _ _ s _ _ _ _ _ iN _ I _ KT0.out.at_ HS0.out KT1.out.ls HS1.out KT2.out.at_ HS2.out (Nat.le_refl _) (HG.out.below (OLD.out.trans (hHeld.mono OLD.out.size)))).mono ?_
            rintro e Z5 ⟨hE, hb⟩
            rw [← HX.out] at hE
            obtain ⟨aN, kN, bN, lN, cN, qN, rfl, hO⟩ := hE
            have HOW := Lib.hid (hO.low hHeld.size)
            clear hO
            have HV2 := Lib.hid (nrow_below HV.out hb)
            clear HV
            have HV := HV2
            clear HV2
            have KT02 := Lib.hid (KT0.out.below hb)
            clear KT0
            have KT0 := KT02
            clear KT02
            have KT12 := Lib.hid (KT1.out.below hb)
            clear KT1
            have KT1 := KT12
            clear KT12
            have KT22 := Lib.hid (KT2.out.below hb)
            clear KT2
            have KT2 := KT22
            clear KT22
            go_wp2_with fail
            refine hK.out _ _ (hHeld.trans (hb.mono hHeld.size)) (fun hHeld2 => ?_)
            clear hK hHeld hb
            have hHeld := hHeld2
            clear hHeld2
            have zr := cyput5 HV.out rfl (.slice aN xx.s.n kN) (.slice bN xx.s.m lN) (.bool xx.s.fl) (.slice cN xx.n qN) (.int .i64 xx.cd)
            have zk := fun (k : Nat) (hk : k ≠ xb) => cyblk5 (W := Z5) hk (.slice aN xx.s.n kN) (.slice bN xx.s.m lN) (.bool xx.s.fl) (.slice cN xx.n qN) (.int .i64 xx.cd)
            have zb := cybel5 (g := xb) hHeld HXL.out (.slice aN xx.s.n kN) (.slice bN xx.s.m lN) (.bool xx.s.fl) (.slice cN xx.n qN) (.int .i64 xx.cd)
            obtain ⟨⟨o0, o1, o2, o3, o4⟩, z0, z1, z2, z3, z4⟩ := rowN5 HV.out
            have hol := HV.out.lt
            refine take_call (i := 8) rfl (by kernel_rfl) (fun K2 hK => ?_)
            go_simp
            clear o0 o1 o2 o3 o4 z0 z1 z2 z3 z4
            have zo : CoO 2 w19.heap.size xx.s.n kN xx.s.m lN xx.n qN aN bN cN xx.s.T xx.s.C xx.O _ := HOW.out.keep (fun j e _ _ => zk j (fun e2 => by rw [e2] at e; exact HOW.out.neR HV.out (by decide) e))
            generalize (((((Z5).setCell ⟨xb, 0, none⟩ (.slice aN xx.s.n kN)).setCell ⟨xb, 1, none⟩ (.slice bN xx.s.m lN)).setCell ⟨xb, 2, none⟩ (.bool xx.s.fl)).setCell ⟨xb, 3, none⟩ (.slice cN xx.n qN)).setCell ⟨xb, 4, none⟩ (.int .i64 xx.cd) = Y at zr zk zb zo ⊢
            refine hK.out _ _ zb (fun hHeld2 => ?_)
            clear hK hHeld hHeld2
            refine wpAnyH_done (by kernel_rfl) ?_ _
            have HPR : Hid (Below w19.heap.size w19 Y ∧ Y.rowIs xb 38 5 (rowN (coL xx aN kN bN lN cN qN)) ∧ (CoO 2 w19.heap.size xx.s.n kN xx.s.m lN xx.n qN aN bN cN xx.s.T xx.s.C xx.O Y) ∧ w19.heap.size ≤ xb) := ⟨zb, zr, zo, HXL.out⟩
            clear zo
            clear zr zk zb
            go_wp2_with fail
            go_meet
            case rel => exact ⟨xb, aN, kN, bN, lN, cN, qN, rfl, HPR⟩
        · obtain ⟨Z2, hZ2⟩ : ∃ Z2, Z2 = Z1.alloc (.cells #[.slice none 0 0, .slice none 0 0, .bool false, .slice none 0 0, .int .i64 0] 38) := ⟨_, rfl⟩
          have hb : Below Z1.heap.size Z1 Z2 := by rw [hZ2]; exact nbel_alloc _ _
          have HV : Hid (Z2.rowIs Z1.heap.size 38 5 (rowN [.slice none 0 0, .slice none 0 0, .bool false, .slice none 0 0, .int .i64 0])) := by show World.rowIs _ _ _ _ _; rw [hZ2]; exact rowN_alloc _ _ _
          obtain ⟨xb, hxb⟩ : ∃ xb, xb = Z1.heap.size := ⟨_, rfl⟩
          rw [← hxb] at HV
          have HXL : Hid (w19.heap.size ≤ xb) := by show _ ≤ _; rw [hxb]; exact hHeld.size
          have KT02 := Lib.hid (KT0.out.below hb)
          clear KT0
          have KT0 := KT02
          clear KT02
          go_simp
          rw [← hZ2, ← hxb]
          clear hZ2
          refine hK.out _ _ (hHeld.trans (hb.mono hHeld.size)) (fun hHeld2 => ?_)
          clear hK hHeld hxb hb
          have hHeld := hHeld2
          clear hHeld2
          refine wpAnyH_ready (rs := [3]) (by kernel_rfl) (by simp) (AllReadyH.cons (at_drop (i := 3) rfl) (fun K2 hK => ?_) (AllReadyH.nil))
          go_simp
          refine (toLogic_any s sa sk sb sl _ (HI1.out.below (OLD.out.trans (hHeld.mono OLD.out.size))) HS1.out).mono ?_
          rintro e Z3 ⟨⟨gat21, gbt21, rfl, hk⟩, hb⟩
          have KT1 := Lib.hid hk
          clear hk
          have HV2 := Lib.hid (nrow_below HV.out hb)
          clear HV
          have HV := HV2
          clear HV2
          have KT02 := Lib.hid (KT0.out.below hb)
          clear KT0
          have KT0 := KT02
          clear KT02
          go_wp2_with fail
          refine hK.out _ _ (hHeld.trans (hb.mono hHeld.size)) (fun hHeld2 => ?_)
          clear hK hHeld hb
          have hHeld := hHeld2
          clear hHeld2
          refine wpAnyH_ready (rs := [5]) (by kernel_rfl) (by simp) (AllReadyH.cons (at_drop (i := 5) rfl) (fun K2 hK => ?_) (AllReadyH.nil))
          go_simp
          refine (ints_conv ia iN iK I _ (HI2.out.below (OLD.out.trans (hHeld.mono OLD.out.size))) HS2.out).mono ?_
          rintro e Z4 ⟨⟨git22, rfl, hlo, hk⟩, hb⟩
          have KT2 := Lib.hid hk
          clear hk hlo
          have HV2 := Lib.hid (nrow_below HV.out hb)
          clear HV
          have HV := HV2
          clear HV2
          have KT02 := Lib.hid (KT0.out.below hb)
          clear KT0
          have KT0 := KT02
          clear KT02
          have KT12 := Lib.hid (KT1.out.below hb)
          clear KT1
          have KT1 := KT12
          clear KT12
          go_wp2_with fail
          refine hK.out _ _ (hHeld.trans (hb.mono hHeld.size)) (fun hHeld2 => ?_)
          clear hK hHeld hb
          have hHeld := hHeld2
          clear hHeld2
          refine wpAnyH_ready (rs := [6]) (by kernel_rfl) (by simp) (AllReadyH.cons (at_drop (i := 6) rfl) (fun K2 hK => ?_) (AllReadyH.nil))
          go_simp
          refine (implCycle_any n _ _ _ _ _ _ s _ _ _ _ _ iN _ I _ KT0.out.at_ HS0.out KT1.out.ls HS1.out KT2.out.at_ HS2.out (Nat.le_refl _) (HG.out.below (OLD.out.trans (hHeld.mono OLD.out.size)))).mono ?_
          rintro e Z5 ⟨hE, hb⟩
          rw [← HX.out] at hE
          obtain ⟨aN, kN, bN, lN, cN, qN, rfl, hO⟩ := hE
          have HOW := Lib.hid (hO.low hHeld.size)
          clear hO
          have HV2 := Lib.hid (nrow_below HV.out hb)
          clear HV
          have HV := HV2
          clear HV2
          have KT02 := Lib.hid (KT0.out.below hb)
          clear KT0
          have KT0 := KT02
          clear KT02
          have KT12 := Lib.hid (KT1.out.below hb)
          clear KT1
          have KT1 := KT12
          clear KT12
          have KT22 := Lib.hid (KT2.out.below hb)
          clear KT2
          have KT2 := KT22
          clear KT22
          go_wp2_with fail
          refine hK.out _ _ (hHeld.trans (hb.mono hHeld.size)) (fun hHeld2 => ?_)
          clear hK hHeld hb
          have hHeld := hHeld2
          clear hHeld2
          have zr := cyput5 HV.out rfl (.slice aN xx.s.n kN) (.slice bN xx.s.m lN) (.bool xx.s.fl) (.slice cN xx.n qN) (.int .i64 xx.cd)
          have zk := fun (k : Nat) (hk : k ≠ xb) => cyblk5 (W := Z5) hk (.slice aN xx.s.n kN) (.slice bN xx.s.m lN) (.bool xx.s.fl) (.slice cN xx.n qN) (.int .i64 xx.cd)
          have zb := cybel5 (g := xb) hHeld HXL.out (.slice aN xx.s.n kN) (.slice bN xx.s.m lN) (.bool xx.s.fl) (.slice cN xx.n qN) (.int .i64 xx.cd)
          obtain ⟨⟨o0, o1, o2, o3, o4⟩, z0, z1, z2, z3, z4⟩ := rowN5 HV.out
          have hol := HV.out.lt
          refine take_call (i := 8) rfl (by kernel_rfl) (fun K2 hK => ?_)
          go_simp
          clear o0 o1 o2 o3 o4 z0 z1 z2 z3 z4
          have zo : CoO 2 w19.heap.size xx.s.n kN xx.s.m lN xx.n qN aN bN cN xx.s.T xx.s.C xx.O _ := HOW.out.keep (fun j e _ _ => zk j (fun e2 => by rw [e2] at e; exact HOW.out.neR HV.out (by decide) e))
          generalize (((((Z5).setCell ⟨xb, 0, none⟩ (.slice aN xx.s.n kN)).setCell ⟨xb, 1, none⟩ (.slice bN xx.s.m lN)).setCell ⟨xb, 2, none⟩ (.bool xx.s.fl)).setCell ⟨xb, 3, none⟩ (.slice cN xx.n qN)).setCell ⟨xb, 4, none⟩ (.int .i64 xx.cd) = Y at zr zk zb zo ⊢
          refine hK.out _ _ zb (fun hHeld2 => ?_)
          clear hK hHeld hHeld2
          refine wpAnyH_done (by kernel_rfl) ?_ _
          have HPR : Hid (Below w19.heap.size w19 Y ∧ Y.rowIs xb 38 5 (rowN (coL xx aN kN bN lN cN qN)) ∧ (CoO 2 w19.heap.size xx.s.n kN xx.s.m lN xx.n qN aN bN cN xx.s.T xx.s.C xx.O Y) ∧ w19.heap.size ≤ xb) := ⟨zb, zr, zo, HXL.out⟩
          clear zo
          clear zr zk zb
          go_wp2_with fail
          go_meet
          case rel => exact ⟨xb, aN, kN, bN, lN, cN, qN, rfl, HPR⟩
      · obtain ⟨Z1, hZ1⟩ : ∃ Z1, Z1 = Z.alloc (.cells #[.slice none 0 0, .slice none 0 0, .bool false, .slice none 0 0, .int .i64 0] 38) := ⟨_, rfl⟩
        have hb : Below Z.heap.size Z Z1 := by rw [hZ1]; exact nbel_alloc _ _
        have HV : Hid (Z1.rowIs Z.heap.size 38 5 (rowN [.slice none 0 0, .slice none 0 0, .bool false, .slice none 0 0, .int .i64 0])) := by show World.rowIs _ _ _ _ _; rw [hZ1]; exact rowN_alloc _ _ _
        obtain ⟨xb, hxb⟩ : ∃ xb, xb = Z.heap.size := ⟨_, rfl⟩
        rw [← hxb] at HV
        have HXL : Hid (w19.heap.size ≤ xb) := by show _ ≤ _; rw [hxb]; exact hHeld.size
        go_simp
        rw [← hZ1, ← hxb]
        clear hZ1
        refine hK.out _ _ (hHeld.trans (hb.mono hHeld.size)) (fun hHeld2 => ?_)
        clear hK hHeld hxb hb
        have hHeld := hHeld2
        clear hHeld2
        refine wpAnyH_ready (rs := [1]) (by kernel_rfl) (by simp) (AllReadyH.cons (at_drop (i := 1) rfl) (fun K2 hK => ?_) (AllReadyH.nil))
        go_simp
        refine (toProg_any n la lk fa fk wa wk _ (HI0.out.below (OLD.out.trans (hHeld.mono OLD.out.size))) HS0.out).mono ?_
        rintro e Z2 ⟨⟨glt20, gft20, gwt20, rfl, hk⟩, hb⟩
        have KT0 := Lib.hid hk
        clear hk
        have HV2 := Lib.hid (nrow_below HV.out hb)
        clear HV
        have HV := HV2
        clear HV2
        go_wp2_with fail
        refine hK.out _ _ (hHeld.trans (hb.mono hHeld.size)) (fun hHeld2 => ?_)
        clear hK hHeld hb
        have hHeld := hHeld2
        clear hHeld2
        refine wpAnyH_ready (rs := [3]) (by kernel_rfl) (by simp) (AllReadyH.cons (at_drop (i := 3) rfl) (fun K2 hK => ?_) (AllReadyH.nil))
        go_simp
        refine (toLogic_any s sa sk sb sl _ (HI1.out.below (OLD.out.trans (hHeld.mono OLD.out.size))) HS1.out).mono ?_
        rintro e Z3 ⟨⟨gat21, gbt21, rfl, hk⟩, hb⟩
        have KT1 := Lib.hid hk
        clear hk
        have HV2 := Lib.hid (nrow_below HV.out hb)
        clear HV
        have HV := HV2
        clear HV2
        have KT02 := Lib.hid (KT0.out.below hb)
        clear KT0
        have KT0 := KT02
        clear KT02
        go_wp2_with fail
        refine hK.out _ _ (hHeld.trans (hb.mono hHeld.size)) (fun hHeld2 => ?_)
        clear hK hHeld hb
        have hHeld := hHeld2
        clear hHeld2
        refine wpAnyH_ready (rs := [5]) (by kernel_rfl) (by simp) (AllReadyH.cons (at_drop (i := 5) rfl) (fun K2 hK => ?_) (AllReadyH.nil))
        go_simp
        refine (ints_conv ia iN iK I _ (HI2.out.below (OLD.out.trans (hHeld.mono OLD.out.size))) HS2.out).mono ?_
        rintro e Z4 ⟨⟨git22, rfl, hlo, hk⟩, hb⟩
        have KT2 := Lib.hid hk
        clear hk hlo
        have HV2 := Lib.hid (nrow_below HV.out hb)
        clear HV
        have HV := HV2
        clear HV2
        have KT02 := Lib.hid (KT0.out.below hb)
        clear KT0
        have KT0 := KT02
        clear KT02
        have KT12 := Lib.hid (KT1.out.below hb)
        clear KT1
        have KT1 := KT12
        clear KT12
        go_wp2_with fail
        refine hK.out _ _ (hHeld.trans (hb.mono hHeld.size)) (fun hHeld2 => ?_)
        clear hK hHeld hb
        have hHeld := hHeld2
        clear hHeld2
        refine wpAnyH_ready (rs := [6]) (by kernel_rfl) (by simp) (AllReadyH.cons (at_drop (i := 6) rfl) (fun K2 hK => ?_) (AllReadyH.nil))
        go_simp
        refine (implCycle_any n _ _ _ _ _ _ s _ _ _ _ _ iN _ I _ KT0.out.at_ HS0.out KT1.out.ls HS1.out KT2.out.at_ HS2.out (Nat.le_refl _) (HG.out.below (OLD.out.trans (hHeld.mono OLD.out.size)))).mono ?_
        rintro e Z5 ⟨hE, hb⟩
        rw [← HX.out] at hE
        obtain ⟨aN, kN, bN, lN, cN, qN, rfl, hO⟩ := hE
        have HOW := Lib.hid (hO.low hHeld.size)
        clear hO
        have HV2 := Lib.hid (nrow_below HV.out hb)
        clear HV
        have HV := HV2
        clear HV2
        have KT02 := Lib.hid (KT0.out.below hb)
        clear KT0
        have KT0 := KT02
        clear KT02
        have KT12 := Lib.hid (KT1.out.below hb)
        clear KT1
        have KT1 := KT12
        clear KT12
        have KT22 := Lib.hid (KT2.out.below hb)
        clear KT2
        have KT2 := KT22
        clear KT22
        go_wp2_with fail
        refine hK.out _ _ (hHeld.trans (hb.mono hHeld.size)) (fun hHeld2 => ?_)
        clear hK hHeld hb
        have hHeld := hHeld2
        clear hHeld2
        have zr := cyput5 HV.out rfl (.slice aN xx.s.n kN) (.slice bN xx.s.m lN) (.bool xx.s.fl) (.slice cN xx.n qN) (.int .i64 xx.cd)
        have zk := fun (k : Nat) (hk : k ≠ xb) => cyblk5 (W := Z5) hk (.slice aN xx.s.n kN) (.slice bN xx.s.m lN) (.bool xx.s.fl) (.slice cN xx.n qN) (.int .i64 xx.cd)
        have zb := cybel5 (g := xb) hHeld HXL.out (.slice aN xx.s.n kN) (.slice bN xx.s.m lN) (.bool xx.s.fl) (.slice cN xx.n qN) (.int .i64 xx.cd)
        obtain ⟨⟨o0, o1, o2, o3, o4⟩, z0, z1, z2, z3, z4⟩ := rowN5 HV.out
        have hol := HV.out.lt
        refine take_call (i := 8) rfl (by kernel_rfl) (fun K2 hK => ?_)
        go_simp
        clear o0 o1 o2 o3 o4 z0 z1 z2 z3 z4
        have zo : CoO 2 w19.heap.size xx.s.n kN xx.s.m lN xx.n qN aN bN cN xx.s.T xx.s.C xx.O _ := HOW.out.keep (fun j e _ _ => zk j (fun e2 => by rw [e2] at e; exact HOW.out.neR HV.out (by decide) e))
        generalize (((((Z5).setCell ⟨xb, 0, none⟩ (.slice aN xx.s.n kN)).setCell ⟨xb, 1, none⟩ (.slice bN xx.s.m lN)).setCell ⟨xb, 2, none⟩ (.bool xx.s.fl)).setCell ⟨xb, 3, none⟩ (.slice cN xx.n qN)).setCell ⟨xb, 4, none⟩ (.int .i64 xx.cd) = Y at zr zk zb zo ⊢
        refine hK.out _ _ zb (fun hHeld2 => ?_)
        clear hK hHeld hHeld2
        refine wpAnyH_done (by kernel_rfl) ?_ _
        have HPR : Hid (Below w19.heap.size w19 Y ∧ Y.rowIs xb 38 5 (rowN (coL xx aN kN bN lN cN qN)) ∧ (CoO 2 w19.heap.size xx.s.n kN xx.s.m lN xx.n qN aN bN cN xx.s.T xx.s.C xx.O Y) ∧ w19.heap.size ≤ xb) := ⟨zb, zr, zo, HXL.out⟩
        clear zo
        clear zr zk zb
        go_wp2_with fail
        go_meet
        case rel => exact ⟨xb, aN, kN, bN, lN, cN, qN, rfl, HPR⟩
    case rest =>
      obtain ⟨s9, a9, k9, b9, l9, c9, q9, rfl, hPR⟩ := hcut
      obtain ⟨Z9, hZ⟩ : ∃ Z, Z = wc := ⟨_, rfl⟩
      rw [← hZ] at hPR ⊢
      clear hZ
      have GB := Lib.hid ((fact_row hPR.out.2.1 hPR.out.2.2.2).with (fact_coo hPR.out.2.2.1 (Nat.le_refl _) hPR.out.1.size))
      have hbz := hPR.out.1
      clear hPR
      replace OLD := Lib.hid (OLD.out.trans (hbz.mono OLD.out.size))
      replace R0 := Lib.hid (R0.out.below hbz)
      replace R1 := Lib.hid (R1.out.below hbz)
      replace FS := Lib.hid (FS.out.below hbz)
      replace GA := Lib.hid (GA.out.below hbz)
      clear hbz
      obtain ⟨⟨y0, y1, y2, y3, y4⟩, _⟩ := rowN5 GB.out.p.1
      obtain ⟨⟨u0, u1, u2, u3, u4⟩, _⟩ := rowN5 FS.out.p.1
      go_wp2_with fail
      clear y0 y1 y2 y3 y4 u0 u1 u2 u3 u4
      refine (eqCycle_same xx _ _ _ _ _ _ _ _ _ _ _ _ _ GB.out.p.2.at_ FS.out.p.2.at_ HSX.out).mono ?_
      rintro e w20 ⟨rfl, hb⟩
      replace OLD := Lib.hid (OLD.out.trans (hb.mono OLD.out.size))
      replace R0 := Lib.hid (R0.out.below hb)
      replace R1 := Lib.hid (R1.out.below hb)
      replace FS := Lib.hid (FS.out.below hb)
      replace GA := Lib.hid (GA.out.below hb)
      replace GB := Lib.hid (GB.out.below hb)
      clear hb
      clear GB
      obtain ⟨⟨y0, y1, y2, y3, y4⟩, _⟩ := rowN5 GA.out.p.1
      go_wp2_with fail
      clear y0 y1 y2 y3 y4
      refine (heldCycle_any xx _ GA.out.p.2 HSX.out).mono ?_
      rintro e w21 ⟨rfl, hb⟩
      rw [HQ.out]
      replace OLD := Lib.hid (OLD.out.trans (hb.mono OLD.out.size))
      replace R0 := Lib.hid (R0.out.below hb)
      replace R1 := Lib.hid (R1.out.below hb)
      replace FS := Lib.hid (FS.out.below hb)
      replace GA := Lib.hid (GA.out.below hb)
      clear hb
      go_wp2_with fail
      go_ret
      exact ⟨rfl, OLD.out⟩
end Go.Proofs.YtgkdnpnnmmpnmaaGreatDoor
