/-
  The law FnTubeBook.
-/
import Derived.Test.YtjmnehlgefpheaaDoorTbBk
namespace Go.Proofs.YtjmnehlgefpheaaDoor
open Go.RowKit Go.Deep

set_option maxRecDepth 100000 in
set_option maxHeartbeats 8000000 in
theorem book_law (w : World) (a : Option Addr) (len cap : Nat) (h : Bytes a len w) (hm : len ≤ 9223372036854775807) (hg : Et w ∧ TabOk w) :
    Calls Tryd.prog 3 #[.slice a len cap] w fun e w' => e = .returned (.bool true) ∧ Below w.heap.size w w' := by
  have H := Lib.hid h
  have GLOB : Hid (∀ W, Below w.heap.size w W → Et W ∧ TabOk W) := fun W hb => ⟨hg.1.below hb, tab_below hg.2 hb⟩
  obtain ⟨i1, hi1, hy0, hy1, hy2⟩ := info_parts pinfo
  clear h hg
  by_cases hl : 1048576 < len
  · have hz : (1048576 : Int) < (len : Int) := by omega
    go_enter Tryd.func3, Tryd.ntmps3
    go_wp2_with fail
    go_ret
    exact ⟨rfl, Below.refl _ _⟩
  have hz : ¬ (1048576 : Int) < (len : Int) := by omega
  go_enter Tryd.func3, Tryd.ntmps3
  go_wp2_with fail
  refine (drawRun_any a len cap _ H.out (by omega)).mono ?_
  rintro e w1 ⟨⟨r, aT, l, c, pa, pl, kp, mill, rfl, ho, hop, hll, hpl⟩, hb⟩
  obtain ⟨V1, hV1⟩ : ∃ W, W = w1.alloc (.cells #[.int .i64 r, .slice aT l.length c] 25) := ⟨_, rfl⟩
  have hbw : Below w1.heap.size w1 V1 := by rw [hV1]; exact nbel_alloc _ _
  obtain ⟨tb, htb⟩ : ∃ tb, tb = w1.heap.size := ⟨_, rfl⟩
  have HR : Hid (V1.rowIs tb 25 2 (rowN [.int .i64 r, .slice aT l.length c])) := by show World.rowIs _ _ _ _ _; rw [hV1, htb]; exact rowN_alloc w1 _ _
  have LS1 : Hid (BkS tb r aT l c pa pl kp w V1) := ⟨HR.out, ho.below hbw, hop.below hbw, hb.trans (hbw.mono hb.size)⟩
  obtain ⟨⟨x0, x1⟩, _⟩ := rowN2 HR.out
  rw [hV1, htb] at x0 x1
  have HW := Lib.hid hV1
  have HTB := Lib.hid htb
  clear hV1 hbw hb ho hop HR htb hz hm
  go_wp2_with fail
  rw [← HW.out, ← HTB.out]
  clear HW HTB x0 x1
  refine (sRun_any r aT l c pa pl kp mill _ LS1.out.tl.at_ LS1.out.ps.at_ (by omega)).mono ?_
  rintro e w2 ⟨⟨a2, k2, p2, d2, rfl, _⟩, hb⟩
  have LS2 : Hid (BkS tb r aT l c pa pl kp w w2) := LS1.out.below hb
  clear hb LS1
  obtain ⟨X, hX⟩ : ∃ X, X = runX mill r l pl := ⟨_, rfl⟩
  rw [← hX]
  have HX := Lib.hid hX
  clear hX
  unfold toV
  go_wp2_with fail
  rw [to_code]
  by_cases hc : X.1 = 0
  · have hX := HX.out
    clear HX
    have F : Hid (Tb.RunF mill r l pl X) := by show Tb.RunF _ _ _ _ _; rw [hX]; exact run_facts (by rw [← hX]; exact hc)
    have IMPL : Hid (∀ (a' : Option Addr) (c' : Nat) (W : World), IsAt aT (l.length * 3) (Tb.fl l) W → IsAt a' (pl.length * 3) (Tb.fl pl) W → Et W ∧ TabOk W → Calls Tryd.prog 9 #[tbV r aT l.length c, .slice a' pl.length c', .int .i64 mill] W fun e w' => (∃ a k p d, e = .returned (toV r a X.2.1.length k p X.2.2.length d X.1) ∧ TwO W.heap.size a k X.2.1 p d X.2.2 w') ∧ Below W.heap.size W w') := fun a' c' W h hp hg => implRun_ok hX hc a' c' W h hp hg
    have HLN : Hid (X.2.1.length ≤ 60 ∧ X.2.2.length ≤ 3660) := by show _ ∧ _; rw [hX]; exact runX_len mill r l pl
    clear hX
    go_wp2_with fail
    have HC := Lib.hid hc
    clear hc
    go_cut [6] (fun q W => ∃ xb aN kN pN dN, q = .pointer (some ⟨xb, 0, none⟩) ∧ Hid (PrS w2 r X xb aN kN pN dN W))
    case first =>
      refine wp_region_held_drew (S := fun V => Below w2.heap.size w2 V) (by kernel_rfl) (Below.refl _ _).drew (fun hHeld => ?_)
      obtain ⟨Z, hZ⟩ : ∃ Z, Z = w2.drew := ⟨_, rfl⟩
      rw [← hZ] at hHeld ⊢
      clear hZ
      refine take_do (i := 0) (v := tbV r aT l.length c) rfl (by kernel_rfl) (by kernel_rfl) (by kernel_rfl) (fun _ _ _ h => h) (by rfl) ?_ (by assumption) ?_
      · intro w hSw
        obtain ⟨⟨x0, x1⟩, _⟩ := rowN2 (nrow_below LS2.out.row hSw)
        go_simp
      simp only [Act.put, List.setIfInBounds_toArray, List.set_cons_zero, List.set_cons_succ]
      refine take_do (i := 2) (v := .slice pa pl.length kp) rfl (by kernel_rfl) (by kernel_rfl) (by kernel_rfl) (fun _ _ _ h => h) (by rfl) ?_ (by assumption) ?_
      · intro w hSw
        go_simp
      simp only [Act.put, List.setIfInBounds_toArray, List.set_cons_zero, List.set_cons_succ]
      refine take_do (i := 4) (v := .int .i64 mill) rfl (by kernel_rfl) (by kernel_rfl) (by kernel_rfl) (fun _ _ _ h => h) (by rfl) ?_ (by assumption) ?_
      · intro w hSw
        go_simp
      simp only [Act.put, List.setIfInBounds_toArray, List.set_cons_zero, List.set_cons_succ]
      refine wpAnyH_ready (rs := [1, 6]) (by kernel_rfl) (by simp) (AllReadyH.cons (at_drop (i := 1) rfl) (fun K2 hK => ?_) (AllReadyH.cons (at_drop (i := 6) rfl) (fun K2 hK => ?_) (AllReadyH.nil)))
      · obtain ⟨Z1, hZ1⟩ : ∃ Z1, Z1 = Z.alloc (.cells #[] 38) := ⟨_, rfl⟩
        have hb : Below Z.heap.size Z Z1 := by rw [hZ1]; exact nbel_alloc _ _
        have OW : Hid (Z1.ownsRow w2.heap.size 38 3 (.slice (some ⟨Z.heap.size, 0, none⟩) 0 0) 0 []) := by show World.ownsRow _ _ _ _ _ _ _; rw [hZ1]; exact World.ownsRow_made Z #[] 0 hHeld.size (Nat.zero_le _) rfl
        go_simp
        rw [← hZ1]
        clear hZ1
        refine hK.out _ _ (hHeld.trans (hb.mono hHeld.size)) (fun hHeld2 => ?_)
        clear hK hHeld hb
        have hHeld := hHeld2
        clear hHeld2
        refine wpAnyH_ready (rs := [3, 6]) (by kernel_rfl) (by simp) (AllReadyH.cons (at_drop (i := 3) rfl) (fun K2 hK => ?_) (AllReadyH.cons (at_drop (i := 6) rfl) (fun K2 hK => ?_) (AllReadyH.nil)))
        · refine step_append_owl rfl (.tmp 36) (.tmp 37) 23 rfl w2.heap.size 38 i1 _ 24 Tryd.underlying23 hi1 hy0 hy1 hy2 rfl _ rfl OW.out w.heap.size pa kp pl rfl (LS2.out.ps.below hHeld) (by unfold maxLen; omega) (by omega) hHeld.size ?_
          intro v5 Z2 hown hgrow
          have hb : Below w2.heap.size Z1 Z2 := (Below.refl _ _).grown hgrow hHeld.size (fun k e => (OW.out.lt k e).1)
          obtain ⟨aA, cA, ev5, how⟩ := owl_of hown
          subst ev5
          have HAP := Lib.hid how
          refine hK.out _ _ (hHeld.trans hb) (fun hHeld2 => ?_)
          clear hK hHeld hb hown hgrow how OW
          have hHeld := hHeld2
          clear hHeld2
          simp only [Act.put, List.setIfInBounds_toArray, List.set_cons_zero, List.set_cons_succ]
          refine wpAnyH_ready (rs := [5, 6]) (by kernel_rfl) (by simp) (AllReadyH.cons (at_drop (i := 5) rfl) (fun K2 hK => ?_) (AllReadyH.cons (at_drop (i := 6) rfl) (fun K2 hK => ?_) (AllReadyH.nil)))
          · go_simp
            refine (IMPL.out aA cA _ (LS2.out.tl.below hHeld).at_ HAP.out.at_ (GLOB.out _ (LS2.out.bel.trans (hHeld.mono LS2.out.bel.size)))).mono ?_
            rintro e Z3 ⟨⟨aN, kN, pN, dN, rfl, htw⟩, hb⟩
            have HTW := Lib.hid (htw.low hHeld.size)
            clear htw HAP
            go_wp2_with fail
            refine hK.out _ _ (hHeld.trans (hb.mono hHeld.size)) (fun hHeld2 => ?_)
            clear hK hHeld hb
            have hHeld := hHeld2
            clear hHeld2
            refine wpAnyH_ready (rs := [6]) (by kernel_rfl) (by simp) (AllReadyH.cons (at_drop (i := 6) rfl) (fun K2 hK => ?_) (AllReadyH.nil))
            obtain ⟨Z4, hZ4⟩ : ∃ Z4, Z4 = Z3.alloc (.cells #[.int .i64 0, .slice none 0 0, .slice none 0 0, .int .i64 0] 29) := ⟨_, rfl⟩
            have hb : Below Z3.heap.size Z3 Z4 := by rw [hZ4]; exact nbel_alloc _ _
            have HV : Hid (Z4.rowIs Z3.heap.size 29 4 (rowN (toL 0 none 0 0 none 0 0 0))) := by show World.rowIs _ _ _ _ _; rw [hZ4]; exact rowN_alloc _ _ _
            obtain ⟨xb, hxb⟩ : ∃ xb, xb = Z3.heap.size := ⟨_, rfl⟩
            rw [← hxb] at HV
            have HXL : Hid (w2.heap.size ≤ xb) := by show _ ≤ _; rw [hxb]; exact hHeld.size
            have HTW2 := Lib.hid (HTW.out.keep (fun k _ hk => hb.block k hk))
            clear HTW
            have HTW := HTW2
            clear HTW2
            go_simp
            rw [← hZ4, ← hxb]
            clear hZ4
            refine hK.out _ _ (hHeld.trans (hb.mono hHeld.size)) (fun hHeld2 => ?_)
            clear hK hHeld hxb hb
            have hHeld := hHeld2
            clear hHeld2
            have zr := put4 HV.out (.int .i64 r) (.slice aN X.2.1.length kN) (.slice pN X.2.2.length dN) (.int .i64 X.1)
            have zk := fun (k : Nat) (hk : k ≠ xb) => blk4 Z4 hk (.int .i64 r) (.slice aN X.2.1.length kN) (.slice pN X.2.2.length dN) (.int .i64 X.1)
            have zb := bel4 (g := xb) hHeld HXL.out (.int .i64 r) (.slice aN X.2.1.length kN) (.slice pN X.2.2.length dN) (.int .i64 X.1)
            have zt : TwO w2.heap.size aN kN X.2.1 pN dN X.2.2 _ := ⟨HTW.out.x.keep (fun k e _ => zk k (owl_ne HTW.out.x HV.out e)), HTW.out.y.keep (fun k e _ => zk k (owl_ne HTW.out.y HV.out e)), HTW.out.ne⟩
            obtain ⟨⟨o0, o1, o2, o3⟩, z0, z1, z2, z3⟩ := rowN4 HV.out
            have hol := HV.out.lt
            refine take_call (i := 7) rfl (by kernel_rfl) (fun K2 hK => ?_)
            go_simp
            clear o0 o1 o2 o3 z0 z1 z2 z3
            generalize (((Z4.setCell ⟨xb, 0, none⟩ (.int .i64 r)).setCell ⟨xb, 1, none⟩ (.slice aN X.2.1.length kN)).setCell ⟨xb, 2, none⟩ (.slice pN X.2.2.length dN)).setCell ⟨xb, 3, none⟩ (.int .i64 X.1) = Y at zr zk zb zt ⊢
            refine hK.out _ _ zb (fun hHeld2 => ?_)
            clear hK hHeld hHeld2
            refine wpAnyH_done (by kernel_rfl) ?_ _
            have HPR : Hid (PrS w2 r X xb aN kN pN dN Y) := ⟨zb, zr, zt, HXL.out⟩
            clear zr zk zb zt
            go_wp2_with fail
            go_meet
            case rel => exact ⟨xb, aN, kN, pN, dN, rfl, HPR⟩
          · obtain ⟨Z3, hZ3⟩ : ∃ Z3, Z3 = Z2.alloc (.cells #[.int .i64 0, .slice none 0 0, .slice none 0 0, .int .i64 0] 29) := ⟨_, rfl⟩
            have hb : Below Z2.heap.size Z2 Z3 := by rw [hZ3]; exact nbel_alloc _ _
            have HV : Hid (Z3.rowIs Z2.heap.size 29 4 (rowN (toL 0 none 0 0 none 0 0 0))) := by show World.rowIs _ _ _ _ _; rw [hZ3]; exact rowN_alloc _ _ _
            obtain ⟨xb, hxb⟩ : ∃ xb, xb = Z2.heap.size := ⟨_, rfl⟩
            rw [← hxb] at HV
            have HXL : Hid (w2.heap.size ≤ xb) := by show _ ≤ _; rw [hxb]; exact hHeld.size
            have HAP2 := Lib.hid (HAP.out.below hb)
            clear HAP
            have HAP := HAP2
            clear HAP2
            go_simp
            rw [← hZ3, ← hxb]
            clear hZ3
            refine hK.out _ _ (hHeld.trans (hb.mono hHeld.size)) (fun hHeld2 => ?_)
            clear hK hHeld hxb hb
            have hHeld := hHeld2
            clear hHeld2
            refine wpAnyH_ready (rs := [5]) (by kernel_rfl) (by simp) (AllReadyH.cons (at_drop (i := 5) rfl) (fun K2 hK => ?_) (AllReadyH.nil))
            go_simp
            refine (IMPL.out aA cA _ (LS2.out.tl.below hHeld).at_ HAP.out.at_ (GLOB.out _ (LS2.out.bel.trans (hHeld.mono LS2.out.bel.size)))).mono ?_
            rintro e Z4 ⟨⟨aN, kN, pN, dN, rfl, htw⟩, hb⟩
            have HTW := Lib.hid (htw.low hHeld.size)
            clear htw HAP
            have HV2 := Lib.hid (nrow_below HV.out hb)
            clear HV
            have HV := HV2
            clear HV2
            go_wp2_with fail
            refine hK.out _ _ (hHeld.trans (hb.mono hHeld.size)) (fun hHeld2 => ?_)
            clear hK hHeld hb
            have hHeld := hHeld2
            clear hHeld2
            have zr := put4 HV.out (.int .i64 r) (.slice aN X.2.1.length kN) (.slice pN X.2.2.length dN) (.int .i64 X.1)
            have zk := fun (k : Nat) (hk : k ≠ xb) => blk4 Z4 hk (.int .i64 r) (.slice aN X.2.1.length kN) (.slice pN X.2.2.length dN) (.int .i64 X.1)
            have zb := bel4 (g := xb) hHeld HXL.out (.int .i64 r) (.slice aN X.2.1.length kN) (.slice pN X.2.2.length dN) (.int .i64 X.1)
            have zt : TwO w2.heap.size aN kN X.2.1 pN dN X.2.2 _ := ⟨HTW.out.x.keep (fun k e _ => zk k (owl_ne HTW.out.x HV.out e)), HTW.out.y.keep (fun k e _ => zk k (owl_ne HTW.out.y HV.out e)), HTW.out.ne⟩
            obtain ⟨⟨o0, o1, o2, o3⟩, z0, z1, z2, z3⟩ := rowN4 HV.out
            have hol := HV.out.lt
            refine take_call (i := 7) rfl (by kernel_rfl) (fun K2 hK => ?_)
            go_simp
            clear o0 o1 o2 o3 z0 z1 z2 z3
            generalize (((Z4.setCell ⟨xb, 0, none⟩ (.int .i64 r)).setCell ⟨xb, 1, none⟩ (.slice aN X.2.1.length kN)).setCell ⟨xb, 2, none⟩ (.slice pN X.2.2.length dN)).setCell ⟨xb, 3, none⟩ (.int .i64 X.1) = Y at zr zk zb zt ⊢
            refine hK.out _ _ zb (fun hHeld2 => ?_)
            clear hK hHeld hHeld2
            refine wpAnyH_done (by kernel_rfl) ?_ _
            have HPR : Hid (PrS w2 r X xb aN kN pN dN Y) := ⟨zb, zr, zt, HXL.out⟩
            clear zr zk zb zt
            go_wp2_with fail
            go_meet
            case rel => exact ⟨xb, aN, kN, pN, dN, rfl, HPR⟩
        · obtain ⟨Z2, hZ2⟩ : ∃ Z2, Z2 = Z1.alloc (.cells #[.int .i64 0, .slice none 0 0, .slice none 0 0, .int .i64 0] 29) := ⟨_, rfl⟩
          have hb : Below Z1.heap.size Z1 Z2 := by rw [hZ2]; exact nbel_alloc _ _
          have HV : Hid (Z2.rowIs Z1.heap.size 29 4 (rowN (toL 0 none 0 0 none 0 0 0))) := by show World.rowIs _ _ _ _ _; rw [hZ2]; exact rowN_alloc _ _ _
          obtain ⟨xb, hxb⟩ : ∃ xb, xb = Z1.heap.size := ⟨_, rfl⟩
          rw [← hxb] at HV
          have HXL : Hid (w2.heap.size ≤ xb) := by show _ ≤ _; rw [hxb]; exact hHeld.size
          have OW2 := Lib.hid (own_below OW.out hb)
          clear OW
          have OW := OW2
          clear OW2
          go_simp
          rw [← hZ2, ← hxb]
          clear hZ2
          refine hK.out _ _ (hHeld.trans (hb.mono hHeld.size)) (fun hHeld2 => ?_)
          clear hK hHeld hxb hb
          have hHeld := hHeld2
          clear hHeld2
          refine wpAnyH_ready (rs := [3]) (by kernel_rfl) (by simp) (AllReadyH.cons (at_drop (i := 3) rfl) (fun K2 hK => ?_) (AllReadyH.nil))
          refine step_append_owl rfl (.tmp 36) (.tmp 37) 23 rfl w2.heap.size 38 i1 _ 24 Tryd.underlying23 hi1 hy0 hy1 hy2 rfl _ rfl OW.out w.heap.size pa kp pl rfl (LS2.out.ps.below hHeld) (by unfold maxLen; omega) (by omega) hHeld.size ?_
          intro v5 Z3 hown hgrow
          have hb : Below w2.heap.size Z2 Z3 := (Below.refl _ _).grown hgrow hHeld.size (fun k e => (OW.out.lt k e).1)
          obtain ⟨aA, cA, ev5, how⟩ := owl_of hown
          subst ev5
          have HAP := Lib.hid how
          have HV2 : Hid (Z3.rowIs xb 29 4 (rowN (toL 0 none 0 0 none 0 0 0))) := HV.out.of_block (hgrow.block _ HV.out.lt (fun e => own_ne OW.out HV.out e.symm rfl))
          clear HV
          have HV := HV2
          clear HV2
          refine hK.out _ _ (hHeld.trans hb) (fun hHeld2 => ?_)
          clear hK hHeld hb hown hgrow how OW
          have hHeld := hHeld2
          clear hHeld2
          simp only [Act.put, List.setIfInBounds_toArray, List.set_cons_zero, List.set_cons_succ]
          refine wpAnyH_ready (rs := [5]) (by kernel_rfl) (by simp) (AllReadyH.cons (at_drop (i := 5) rfl) (fun K2 hK => ?_) (AllReadyH.nil))
          go_simp
          refine (IMPL.out aA cA _ (LS2.out.tl.below hHeld).at_ HAP.out.at_ (GLOB.out _ (LS2.out.bel.trans (hHeld.mono LS2.out.bel.size)))).mono ?_
          rintro e Z4 ⟨⟨aN, kN, pN, dN, rfl, htw⟩, hb⟩
          have HTW := Lib.hid (htw.low hHeld.size)
          clear htw HAP
          have HV2 := Lib.hid (nrow_below HV.out hb)
          clear HV
          have HV := HV2
          clear HV2
          go_wp2_with fail
          refine hK.out _ _ (hHeld.trans (hb.mono hHeld.size)) (fun hHeld2 => ?_)
          clear hK hHeld hb
          have hHeld := hHeld2
          clear hHeld2
          have zr := put4 HV.out (.int .i64 r) (.slice aN X.2.1.length kN) (.slice pN X.2.2.length dN) (.int .i64 X.1)
          have zk := fun (k : Nat) (hk : k ≠ xb) => blk4 Z4 hk (.int .i64 r) (.slice aN X.2.1.length kN) (.slice pN X.2.2.length dN) (.int .i64 X.1)
          have zb := bel4 (g := xb) hHeld HXL.out (.int .i64 r) (.slice aN X.2.1.length kN) (.slice pN X.2.2.length dN) (.int .i64 X.1)
          have zt : TwO w2.heap.size aN kN X.2.1 pN dN X.2.2 _ := ⟨HTW.out.x.keep (fun k e _ => zk k (owl_ne HTW.out.x HV.out e)), HTW.out.y.keep (fun k e _ => zk k (owl_ne HTW.out.y HV.out e)), HTW.out.ne⟩
          obtain ⟨⟨o0, o1, o2, o3⟩, z0, z1, z2, z3⟩ := rowN4 HV.out
          have hol := HV.out.lt
          refine take_call (i := 7) rfl (by kernel_rfl) (fun K2 hK => ?_)
          go_simp
          clear o0 o1 o2 o3 z0 z1 z2 z3
          generalize (((Z4.setCell ⟨xb, 0, none⟩ (.int .i64 r)).setCell ⟨xb, 1, none⟩ (.slice aN X.2.1.length kN)).setCell ⟨xb, 2, none⟩ (.slice pN X.2.2.length dN)).setCell ⟨xb, 3, none⟩ (.int .i64 X.1) = Y at zr zk zb zt ⊢
          refine hK.out _ _ zb (fun hHeld2 => ?_)
          clear hK hHeld hHeld2
          refine wpAnyH_done (by kernel_rfl) ?_ _
          have HPR : Hid (PrS w2 r X xb aN kN pN dN Y) := ⟨zb, zr, zt, HXL.out⟩
          clear zr zk zb zt
          go_wp2_with fail
          go_meet
          case rel => exact ⟨xb, aN, kN, pN, dN, rfl, HPR⟩
      · obtain ⟨Z1, hZ1⟩ : ∃ Z1, Z1 = Z.alloc (.cells #[.int .i64 0, .slice none 0 0, .slice none 0 0, .int .i64 0] 29) := ⟨_, rfl⟩
        have hb : Below Z.heap.size Z Z1 := by rw [hZ1]; exact nbel_alloc _ _
        have HV : Hid (Z1.rowIs Z.heap.size 29 4 (rowN (toL 0 none 0 0 none 0 0 0))) := by show World.rowIs _ _ _ _ _; rw [hZ1]; exact rowN_alloc _ _ _
        obtain ⟨xb, hxb⟩ : ∃ xb, xb = Z.heap.size := ⟨_, rfl⟩
        rw [← hxb] at HV
        have HXL : Hid (w2.heap.size ≤ xb) := by show _ ≤ _; rw [hxb]; exact hHeld.size
        go_simp
        rw [← hZ1, ← hxb]
        clear hZ1
        refine hK.out _ _ (hHeld.trans (hb.mono hHeld.size)) (fun hHeld2 => ?_)
        clear hK hHeld hxb hb
        have hHeld := hHeld2
        clear hHeld2
        refine wpAnyH_ready (rs := [1]) (by kernel_rfl) (by simp) (AllReadyH.cons (at_drop (i := 1) rfl) (fun K2 hK => ?_) (AllReadyH.nil))
        obtain ⟨Z2, hZ2⟩ : ∃ Z2, Z2 = Z1.alloc (.cells #[] 38) := ⟨_, rfl⟩
        have hb : Below Z1.heap.size Z1 Z2 := by rw [hZ2]; exact nbel_alloc _ _
        have OW : Hid (Z2.ownsRow w2.heap.size 38 3 (.slice (some ⟨Z1.heap.size, 0, none⟩) 0 0) 0 []) := by show World.ownsRow _ _ _ _ _ _ _; rw [hZ2]; exact World.ownsRow_made Z1 #[] 0 hHeld.size (Nat.zero_le _) rfl
        have HV2 := Lib.hid (nrow_below HV.out hb)
        clear HV
        have HV := HV2
        clear HV2
        go_simp
        rw [← hZ2]
        clear hZ2
        refine hK.out _ _ (hHeld.trans (hb.mono hHeld.size)) (fun hHeld2 => ?_)
        clear hK hHeld hb
        have hHeld := hHeld2
        clear hHeld2
        refine wpAnyH_ready (rs := [3]) (by kernel_rfl) (by simp) (AllReadyH.cons (at_drop (i := 3) rfl) (fun K2 hK => ?_) (AllReadyH.nil))
        refine step_append_owl rfl (.tmp 36) (.tmp 37) 23 rfl w2.heap.size 38 i1 _ 24 Tryd.underlying23 hi1 hy0 hy1 hy2 rfl _ rfl OW.out w.heap.size pa kp pl rfl (LS2.out.ps.below hHeld) (by unfold maxLen; omega) (by omega) hHeld.size ?_
        intro v5 Z3 hown hgrow
        have hb : Below w2.heap.size Z2 Z3 := (Below.refl _ _).grown hgrow hHeld.size (fun k e => (OW.out.lt k e).1)
        obtain ⟨aA, cA, ev5, how⟩ := owl_of hown
        subst ev5
        have HAP := Lib.hid how
        have HV2 : Hid (Z3.rowIs xb 29 4 (rowN (toL 0 none 0 0 none 0 0 0))) := HV.out.of_block (hgrow.block _ HV.out.lt (fun e => own_ne OW.out HV.out e.symm rfl))
        clear HV
        have HV := HV2
        clear HV2
        refine hK.out _ _ (hHeld.trans hb) (fun hHeld2 => ?_)
        clear hK hHeld hb hown hgrow how OW
        have hHeld := hHeld2
        clear hHeld2
        simp only [Act.put, List.setIfInBounds_toArray, List.set_cons_zero, List.set_cons_succ]
        refine wpAnyH_ready (rs := [5]) (by kernel_rfl) (by simp) (AllReadyH.cons (at_drop (i := 5) rfl) (fun K2 hK => ?_) (AllReadyH.nil))
        go_simp
        refine (IMPL.out aA cA _ (LS2.out.tl.below hHeld).at_ HAP.out.at_ (GLOB.out _ (LS2.out.bel.trans (hHeld.mono LS2.out.bel.size)))).mono ?_
        rintro e Z4 ⟨⟨aN, kN, pN, dN, rfl, htw⟩, hb⟩
        have HTW := Lib.hid (htw.low hHeld.size)
        clear htw HAP
        have HV2 := Lib.hid (nrow_below HV.out hb)
        clear HV
        have HV := HV2
        clear HV2
        go_wp2_with fail
        refine hK.out _ _ (hHeld.trans (hb.mono hHeld.size)) (fun hHeld2 => ?_)
        clear hK hHeld hb
        have hHeld := hHeld2
        clear hHeld2
        have zr := put4 HV.out (.int .i64 r) (.slice aN X.2.1.length kN) (.slice pN X.2.2.length dN) (.int .i64 X.1)
        have zk := fun (k : Nat) (hk : k ≠ xb) => blk4 Z4 hk (.int .i64 r) (.slice aN X.2.1.length kN) (.slice pN X.2.2.length dN) (.int .i64 X.1)
        have zb := bel4 (g := xb) hHeld HXL.out (.int .i64 r) (.slice aN X.2.1.length kN) (.slice pN X.2.2.length dN) (.int .i64 X.1)
        have zt : TwO w2.heap.size aN kN X.2.1 pN dN X.2.2 _ := ⟨HTW.out.x.keep (fun k e _ => zk k (owl_ne HTW.out.x HV.out e)), HTW.out.y.keep (fun k e _ => zk k (owl_ne HTW.out.y HV.out e)), HTW.out.ne⟩
        obtain ⟨⟨o0, o1, o2, o3⟩, z0, z1, z2, z3⟩ := rowN4 HV.out
        have hol := HV.out.lt
        refine take_call (i := 7) rfl (by kernel_rfl) (fun K2 hK => ?_)
        go_simp
        clear o0 o1 o2 o3 z0 z1 z2 z3
        generalize (((Z4.setCell ⟨xb, 0, none⟩ (.int .i64 r)).setCell ⟨xb, 1, none⟩ (.slice aN X.2.1.length kN)).setCell ⟨xb, 2, none⟩ (.slice pN X.2.2.length dN)).setCell ⟨xb, 3, none⟩ (.int .i64 X.1) = Y at zr zk zb zt ⊢
        refine hK.out _ _ zb (fun hHeld2 => ?_)
        clear hK hHeld hHeld2
        refine wpAnyH_done (by kernel_rfl) ?_ _
        have HPR : Hid (PrS w2 r X xb aN kN pN dN Y) := ⟨zb, zr, zt, HXL.out⟩
        clear zr zk zb zt
        go_wp2_with fail
        go_meet
        case rel => exact ⟨xb, aN, kN, pN, dN, rfl, HPR⟩
    case rest =>
      obtain ⟨xb, aN, kN, pN, dN, rfl, hPR⟩ := hcut
      obtain ⟨V3, hV⟩ : ∃ V, V = wc := ⟨_, rfl⟩
      rw [← hV] at hPR ⊢
      clear hV
      have LS3 : Hid (BkS tb r aT l c pa pl kp w V3) := LS2.out.below hPR.out.bel
      have R6 := Lib.hid hPR.out.row
      have T6 := Lib.hid hPR.out.two
      have hc := HC.out
      clear hPR LS2
      obtain ⟨⟨x0, x1⟩, _⟩ := rowN2 LS3.out.row
      obtain ⟨⟨y0, y1, y2, y3⟩, _⟩ := rowN4 R6.out
      go_wp2_with fail
      have hln := HLN.out
      refine (lwParcels_any pa pl kp _ LS3.out.ps.at_ (by omega) F.out.ps).mono ?_
      rintro e w3 ⟨rfl, hw⟩
      rw [hw]
      clear hw w3
      go_wp2_with fail
      refine (lwParcels_any pN X.2.2 dN _ T6.out.y.at_ (by omega) F.out.out).mono ?_
      rintro e w4 ⟨rfl, hw⟩
      rw [hw]
      clear hw w4
      rw [F.out.wat]
      go_wp2_with fail
      refine (implTRight_any r aN X.2.1 kN _ T6.out.x.at_).mono ?_
      rintro e w4 ⟨⟨b1, rfl, hb1⟩, hb⟩
      obtain rfl : b1 = true := hb1.2 F.out.rt
      have LS4 : Hid (BkS tb r aT l c pa pl kp w w4) := LS3.out.below hb
      have R64 := Lib.hid (nrow_below R6.out hb)
      clear hb hb1 x0 x1 y0 y1 y2 y3 R6 T6 LS3
      obtain ⟨⟨x0, x1⟩, _⟩ := rowN2 LS4.out.row
      obtain ⟨⟨y0, y1, y2, y3⟩, _⟩ := rowN4 R64.out
      go_wp2_with fail
      clear y0 y1 y2 y3 x0 x1 R64 HLN IMPL F hc HC hln
      obtain ⟨⟨x0, x1⟩, _⟩ := rowN2 LS4.out.row
      go_wp2_with fail
      clear x0 x1
      refine (sRun_any r aT l c pa pl kp 0 _ LS4.out.tl.at_ LS4.out.ps.at_ (by omega)).mono ?_
      rintro e w5 ⟨⟨a5, k5, p5, d5, rfl, _⟩, hb⟩
      have LS5 : Hid (BkS tb r aT l c pa pl kp w w5) := LS4.out.below hb
      clear hb LS4
      obtain ⟨XX, hX⟩ : ∃ XX, XX = runX 0 r l pl := ⟨_, rfl⟩
      rw [← hX]
      have HX := Lib.hid hX
      clear hX
      unfold toV
      go_wp2_with fail
      rw [to_code]
      by_cases hc : XX.1 = 0
      · have hX := HX.out
        clear HX
        have F : Hid (Tb.RunF 0 r l pl XX) := by show Tb.RunF _ _ _ _ _; rw [hX]; exact run_facts (by rw [← hX]; exact hc)
        have IMPL : Hid (∀ (a' : Option Addr) (c' : Nat) (W : World), IsAt aT (l.length * 3) (Tb.fl l) W → IsAt a' (pl.length * 3) (Tb.fl pl) W → Et W ∧ TabOk W → Calls Tryd.prog 9 #[tbV r aT l.length c, .slice a' pl.length c', .int .i64 0] W fun e w' => (∃ a k p d, e = .returned (toV r a XX.2.1.length k p XX.2.2.length d XX.1) ∧ TwO W.heap.size a k XX.2.1 p d XX.2.2 w') ∧ Below W.heap.size W w') := fun a' c' W h hp hg => implRun_ok hX hc a' c' W h hp hg
        have HLN : Hid (XX.2.1.length ≤ 60 ∧ XX.2.2.length ≤ 3660) := by show _ ∧ _; rw [hX]; exact runX_len 0 r l pl
        clear hX
        go_wp2_with fail
        have HC := Lib.hid hc
        clear hc
        go_cut [11] (fun q W => ∃ xb aN kN pN dN, q = .pointer (some ⟨xb, 0, none⟩) ∧ Hid (PrS w5 r XX xb aN kN pN dN W))
        case first =>
          refine wp_region_held_drew (S := fun V => Below w5.heap.size w5 V) (by kernel_rfl) (Below.refl _ _).drew (fun hHeld => ?_)
          obtain ⟨Z, hZ⟩ : ∃ Z, Z = w5.drew := ⟨_, rfl⟩
          rw [← hZ] at hHeld ⊢
          clear hZ
          refine take_do (i := 0) (v := tbV r aT l.length c) rfl (by kernel_rfl) (by kernel_rfl) (by kernel_rfl) (fun _ _ _ h => h) (by rfl) ?_ (by assumption) ?_
          · intro w hSw
            obtain ⟨⟨x0, x1⟩, _⟩ := rowN2 (nrow_below LS5.out.row hSw)
            go_simp
          simp only [Act.put, List.setIfInBounds_toArray, List.set_cons_zero, List.set_cons_succ]
          refine take_do (i := 2) (v := .slice pa pl.length kp) rfl (by kernel_rfl) (by kernel_rfl) (by kernel_rfl) (fun _ _ _ h => h) (by rfl) ?_ (by assumption) ?_
          · intro w hSw
            go_simp
          simp only [Act.put, List.setIfInBounds_toArray, List.set_cons_zero, List.set_cons_succ]
          refine wpAnyH_ready (rs := [1, 5]) (by kernel_rfl) (by simp) (AllReadyH.cons (at_drop (i := 1) rfl) (fun K2 hK => ?_) (AllReadyH.cons (at_drop (i := 5) rfl) (fun K2 hK => ?_) (AllReadyH.nil)))
          · obtain ⟨Z1, hZ1⟩ : ∃ Z1, Z1 = Z.alloc (.cells #[] 38) := ⟨_, rfl⟩
            have hb : Below Z.heap.size Z Z1 := by rw [hZ1]; exact nbel_alloc _ _
            have OW : Hid (Z1.ownsRow w5.heap.size 38 3 (.slice (some ⟨Z.heap.size, 0, none⟩) 0 0) 0 []) := by show World.ownsRow _ _ _ _ _ _ _; rw [hZ1]; exact World.ownsRow_made Z #[] 0 hHeld.size (Nat.zero_le _) rfl
            go_simp
            rw [← hZ1]
            clear hZ1
            refine hK.out _ _ (hHeld.trans (hb.mono hHeld.size)) (fun hHeld2 => ?_)
            clear hK hHeld hb
            have hHeld := hHeld2
            clear hHeld2
            refine wpAnyH_ready (rs := [3, 5]) (by kernel_rfl) (by simp) (AllReadyH.cons (at_drop (i := 3) rfl) (fun K2 hK => ?_) (AllReadyH.cons (at_drop (i := 5) rfl) (fun K2 hK => ?_) (AllReadyH.nil)))
            · refine step_append_owl rfl (.tmp 80) (.tmp 81) 23 rfl w5.heap.size 38 i1 _ 24 Tryd.underlying23 hi1 hy0 hy1 hy2 rfl _ rfl OW.out w.heap.size pa kp pl rfl (LS5.out.ps.below hHeld) (by unfold maxLen; omega) (by omega) hHeld.size ?_
              intro v5 Z2 hown hgrow
              have hb : Below w5.heap.size Z1 Z2 := (Below.refl _ _).grown hgrow hHeld.size (fun k e => (OW.out.lt k e).1)
              obtain ⟨aA, cA, ev5, how⟩ := owl_of hown
              subst ev5
              have HAP := Lib.hid how
              refine hK.out _ _ (hHeld.trans hb) (fun hHeld2 => ?_)
              clear hK hHeld hb hown hgrow how OW
              have hHeld := hHeld2
              clear hHeld2
              simp only [Act.put, List.setIfInBounds_toArray, List.set_cons_zero, List.set_cons_succ]
              refine wpAnyH_ready (rs := [4, 5]) (by kernel_rfl) (by simp) (AllReadyH.cons (at_drop (i := 4) rfl) (fun K2 hK => ?_) (AllReadyH.cons (at_drop (i := 5) rfl) (fun K2 hK => ?_) (AllReadyH.nil)))
              · go_simp
                refine (IMPL.out aA cA _ (LS5.out.tl.below hHeld).at_ HAP.out.at_ (GLOB.out _ (LS5.out.bel.trans (hHeld.mono LS5.out.bel.size)))).mono ?_
                rintro e Z3 ⟨⟨aN, kN, pN, dN, rfl, htw⟩, hb⟩
                have HTW := Lib.hid (htw.low hHeld.size)
                clear htw HAP
                go_wp2_with fail
                refine hK.out _ _ (hHeld.trans (hb.mono hHeld.size)) (fun hHeld2 => ?_)
                clear hK hHeld hb
                have hHeld := hHeld2
                clear hHeld2
                refine wpAnyH_ready (rs := [5]) (by kernel_rfl) (by simp) (AllReadyH.cons (at_drop (i := 5) rfl) (fun K2 hK => ?_) (AllReadyH.nil))
                obtain ⟨Z4, hZ4⟩ : ∃ Z4, Z4 = Z3.alloc (.cells #[.int .i64 0, .slice none 0 0, .slice none 0 0, .int .i64 0] 29) := ⟨_, rfl⟩
                have hb : Below Z3.heap.size Z3 Z4 := by rw [hZ4]; exact nbel_alloc _ _
                have HV : Hid (Z4.rowIs Z3.heap.size 29 4 (rowN (toL 0 none 0 0 none 0 0 0))) := by show World.rowIs _ _ _ _ _; rw [hZ4]; exact rowN_alloc _ _ _
                obtain ⟨xb, hxb⟩ : ∃ xb, xb = Z3.heap.size := ⟨_, rfl⟩
                rw [← hxb] at HV
                have HXL : Hid (w5.heap.size ≤ xb) := by show _ ≤ _; rw [hxb]; exact hHeld.size
                have HTW2 := Lib.hid (HTW.out.keep (fun k _ hk => hb.block k hk))
                clear HTW
                have HTW := HTW2
                clear HTW2
                go_simp
                rw [← hZ4, ← hxb]
                clear hZ4
                refine hK.out _ _ (hHeld.trans (hb.mono hHeld.size)) (fun hHeld2 => ?_)
                clear hK hHeld hxb hb
                have hHeld := hHeld2
                clear hHeld2
                have zr := put4 HV.out (.int .i64 r) (.slice aN XX.2.1.length kN) (.slice pN XX.2.2.length dN) (.int .i64 XX.1)
                have zk := fun (k : Nat) (hk : k ≠ xb) => blk4 Z4 hk (.int .i64 r) (.slice aN XX.2.1.length kN) (.slice pN XX.2.2.length dN) (.int .i64 XX.1)
                have zb := bel4 (g := xb) hHeld HXL.out (.int .i64 r) (.slice aN XX.2.1.length kN) (.slice pN XX.2.2.length dN) (.int .i64 XX.1)
                have zt : TwO w5.heap.size aN kN XX.2.1 pN dN XX.2.2 _ := ⟨HTW.out.x.keep (fun k e _ => zk k (owl_ne HTW.out.x HV.out e)), HTW.out.y.keep (fun k e _ => zk k (owl_ne HTW.out.y HV.out e)), HTW.out.ne⟩
                obtain ⟨⟨o0, o1, o2, o3⟩, z0, z1, z2, z3⟩ := rowN4 HV.out
                have hol := HV.out.lt
                refine take_call (i := 6) rfl (by kernel_rfl) (fun K2 hK => ?_)
                go_simp
                clear o0 o1 o2 o3 z0 z1 z2 z3
                generalize (((Z4.setCell ⟨xb, 0, none⟩ (.int .i64 r)).setCell ⟨xb, 1, none⟩ (.slice aN XX.2.1.length kN)).setCell ⟨xb, 2, none⟩ (.slice pN XX.2.2.length dN)).setCell ⟨xb, 3, none⟩ (.int .i64 XX.1) = Y at zr zk zb zt ⊢
                refine hK.out _ _ zb (fun hHeld2 => ?_)
                clear hK hHeld hHeld2
                refine wpAnyH_done (by kernel_rfl) ?_ _
                have HPR : Hid (PrS w5 r XX xb aN kN pN dN Y) := ⟨zb, zr, zt, HXL.out⟩
                clear zr zk zb zt
                go_wp2_with fail
                go_meet
                case rel => exact ⟨xb, aN, kN, pN, dN, rfl, HPR⟩
              · obtain ⟨Z3, hZ3⟩ : ∃ Z3, Z3 = Z2.alloc (.cells #[.int .i64 0, .slice none 0 0, .slice none 0 0, .int .i64 0] 29) := ⟨_, rfl⟩
                have hb : Below Z2.heap.size Z2 Z3 := by rw [hZ3]; exact nbel_alloc _ _
                have HV : Hid (Z3.rowIs Z2.heap.size 29 4 (rowN (toL 0 none 0 0 none 0 0 0))) := by show World.rowIs _ _ _ _ _; rw [hZ3]; exact rowN_alloc _ _ _
                obtain ⟨xb, hxb⟩ : ∃ xb, xb = Z2.heap.size := ⟨_, rfl⟩
                rw [← hxb] at HV
                have HXL : Hid (w5.heap.size ≤ xb) := by show _ ≤ _; rw [hxb]; exact hHeld.size
                have HAP2 := Lib.hid (HAP.out.below hb)
                clear HAP
                have HAP := HAP2
                clear HAP2
                go_simp
                rw [← hZ3, ← hxb]
                clear hZ3
                refine hK.out _ _ (hHeld.trans (hb.mono hHeld.size)) (fun hHeld2 => ?_)
                clear hK hHeld hxb hb
                have hHeld := hHeld2
                clear hHeld2
                refine wpAnyH_ready (rs := [4]) (by kernel_rfl) (by simp) (AllReadyH.cons (at_drop (i := 4) rfl) (fun K2 hK => ?_) (AllReadyH.nil))
                go_simp
                refine (IMPL.out aA cA _ (LS5.out.tl.below hHeld).at_ HAP.out.at_ (GLOB.out _ (LS5.out.bel.trans (hHeld.mono LS5.out.bel.size)))).mono ?_
                rintro e Z4 ⟨⟨aN, kN, pN, dN, rfl, htw⟩, hb⟩
                have HTW := Lib.hid (htw.low hHeld.size)
                clear htw HAP
                have HV2 := Lib.hid (nrow_below HV.out hb)
                clear HV
                have HV := HV2
                clear HV2
                go_wp2_with fail
                refine hK.out _ _ (hHeld.trans (hb.mono hHeld.size)) (fun hHeld2 => ?_)
                clear hK hHeld hb
                have hHeld := hHeld2
                clear hHeld2
                have zr := put4 HV.out (.int .i64 r) (.slice aN XX.2.1.length kN) (.slice pN XX.2.2.length dN) (.int .i64 XX.1)
                have zk := fun (k : Nat) (hk : k ≠ xb) => blk4 Z4 hk (.int .i64 r) (.slice aN XX.2.1.length kN) (.slice pN XX.2.2.length dN) (.int .i64 XX.1)
                have zb := bel4 (g := xb) hHeld HXL.out (.int .i64 r) (.slice aN XX.2.1.length kN) (.slice pN XX.2.2.length dN) (.int .i64 XX.1)
                have zt : TwO w5.heap.size aN kN XX.2.1 pN dN XX.2.2 _ := ⟨HTW.out.x.keep (fun k e _ => zk k (owl_ne HTW.out.x HV.out e)), HTW.out.y.keep (fun k e _ => zk k (owl_ne HTW.out.y HV.out e)), HTW.out.ne⟩
                obtain ⟨⟨o0, o1, o2, o3⟩, z0, z1, z2, z3⟩ := rowN4 HV.out
                have hol := HV.out.lt
                refine take_call (i := 6) rfl (by kernel_rfl) (fun K2 hK => ?_)
                go_simp
                clear o0 o1 o2 o3 z0 z1 z2 z3
                generalize (((Z4.setCell ⟨xb, 0, none⟩ (.int .i64 r)).setCell ⟨xb, 1, none⟩ (.slice aN XX.2.1.length kN)).setCell ⟨xb, 2, none⟩ (.slice pN XX.2.2.length dN)).setCell ⟨xb, 3, none⟩ (.int .i64 XX.1) = Y at zr zk zb zt ⊢
                refine hK.out _ _ zb (fun hHeld2 => ?_)
                clear hK hHeld hHeld2
                refine wpAnyH_done (by kernel_rfl) ?_ _
                have HPR : Hid (PrS w5 r XX xb aN kN pN dN Y) := ⟨zb, zr, zt, HXL.out⟩
                clear zr zk zb zt
                go_wp2_with fail
                go_meet
                case rel => exact ⟨xb, aN, kN, pN, dN, rfl, HPR⟩
            · obtain ⟨Z2, hZ2⟩ : ∃ Z2, Z2 = Z1.alloc (.cells #[.int .i64 0, .slice none 0 0, .slice none 0 0, .int .i64 0] 29) := ⟨_, rfl⟩
              have hb : Below Z1.heap.size Z1 Z2 := by rw [hZ2]; exact nbel_alloc _ _
              have HV : Hid (Z2.rowIs Z1.heap.size 29 4 (rowN (toL 0 none 0 0 none 0 0 0))) := by show World.rowIs _ _ _ _ _; rw [hZ2]; exact rowN_alloc _ _ _
              obtain ⟨xb, hxb⟩ : ∃ xb, xb = Z1.heap.size := ⟨_, rfl⟩
              rw [← hxb] at HV
              have HXL : Hid (w5.heap.size ≤ xb) := by show _ ≤ _; rw [hxb]; exact hHeld.size
              have OW2 := Lib.hid (own_below OW.out hb)
              clear OW
              have OW := OW2
              clear OW2
              go_simp
              rw [← hZ2, ← hxb]
              clear hZ2
              refine hK.out _ _ (hHeld.trans (hb.mono hHeld.size)) (fun hHeld2 => ?_)
              clear hK hHeld hxb hb
              have hHeld := hHeld2
              clear hHeld2
              refine wpAnyH_ready (rs := [3]) (by kernel_rfl) (by simp) (AllReadyH.cons (at_drop (i := 3) rfl) (fun K2 hK => ?_) (AllReadyH.nil))
              refine step_append_owl rfl (.tmp 80) (.tmp 81) 23 rfl w5.heap.size 38 i1 _ 24 Tryd.underlying23 hi1 hy0 hy1 hy2 rfl _ rfl OW.out w.heap.size pa kp pl rfl (LS5.out.ps.below hHeld) (by unfold maxLen; omega) (by omega) hHeld.size ?_
              intro v5 Z3 hown hgrow
              have hb : Below w5.heap.size Z2 Z3 := (Below.refl _ _).grown hgrow hHeld.size (fun k e => (OW.out.lt k e).1)
              obtain ⟨aA, cA, ev5, how⟩ := owl_of hown
              subst ev5
              have HAP := Lib.hid how
              have HV2 : Hid (Z3.rowIs xb 29 4 (rowN (toL 0 none 0 0 none 0 0 0))) := HV.out.of_block (hgrow.block _ HV.out.lt (fun e => own_ne OW.out HV.out e.symm rfl))
              clear HV
              have HV := HV2
              clear HV2
              refine hK.out _ _ (hHeld.trans hb) (fun hHeld2 => ?_)
              clear hK hHeld hb hown hgrow how OW
              have hHeld := hHeld2
              clear hHeld2
              simp only [Act.put, List.setIfInBounds_toArray, List.set_cons_zero, List.set_cons_succ]
              refine wpAnyH_ready (rs := [4]) (by kernel_rfl) (by simp) (AllReadyH.cons (at_drop (i := 4) rfl) (fun K2 hK => ?_) (AllReadyH.nil))
              go_simp
              refine (IMPL.out aA cA _ (LS5.out.tl.below hHeld).at_ HAP.out.at_ (GLOB.out _ (LS5.out.bel.trans (hHeld.mono LS5.out.bel.size)))).mono ?_
              rintro e Z4 ⟨⟨aN, kN, pN, dN, rfl, htw⟩, hb⟩
              have HTW := Lib.hid (htw.low hHeld.size)
              clear htw HAP
              have HV2 := Lib.hid (nrow_below HV.out hb)
              clear HV
              have HV := HV2
              clear HV2
              go_wp2_with fail
              refine hK.out _ _ (hHeld.trans (hb.mono hHeld.size)) (fun hHeld2 => ?_)
              clear hK hHeld hb
              have hHeld := hHeld2
              clear hHeld2
              have zr := put4 HV.out (.int .i64 r) (.slice aN XX.2.1.length kN) (.slice pN XX.2.2.length dN) (.int .i64 XX.1)
              have zk := fun (k : Nat) (hk : k ≠ xb) => blk4 Z4 hk (.int .i64 r) (.slice aN XX.2.1.length kN) (.slice pN XX.2.2.length dN) (.int .i64 XX.1)
              have zb := bel4 (g := xb) hHeld HXL.out (.int .i64 r) (.slice aN XX.2.1.length kN) (.slice pN XX.2.2.length dN) (.int .i64 XX.1)
              have zt : TwO w5.heap.size aN kN XX.2.1 pN dN XX.2.2 _ := ⟨HTW.out.x.keep (fun k e _ => zk k (owl_ne HTW.out.x HV.out e)), HTW.out.y.keep (fun k e _ => zk k (owl_ne HTW.out.y HV.out e)), HTW.out.ne⟩
              obtain ⟨⟨o0, o1, o2, o3⟩, z0, z1, z2, z3⟩ := rowN4 HV.out
              have hol := HV.out.lt
              refine take_call (i := 6) rfl (by kernel_rfl) (fun K2 hK => ?_)
              go_simp
              clear o0 o1 o2 o3 z0 z1 z2 z3
              generalize (((Z4.setCell ⟨xb, 0, none⟩ (.int .i64 r)).setCell ⟨xb, 1, none⟩ (.slice aN XX.2.1.length kN)).setCell ⟨xb, 2, none⟩ (.slice pN XX.2.2.length dN)).setCell ⟨xb, 3, none⟩ (.int .i64 XX.1) = Y at zr zk zb zt ⊢
              refine hK.out _ _ zb (fun hHeld2 => ?_)
              clear hK hHeld hHeld2
              refine wpAnyH_done (by kernel_rfl) ?_ _
              have HPR : Hid (PrS w5 r XX xb aN kN pN dN Y) := ⟨zb, zr, zt, HXL.out⟩
              clear zr zk zb zt
              go_wp2_with fail
              go_meet
              case rel => exact ⟨xb, aN, kN, pN, dN, rfl, HPR⟩
          · obtain ⟨Z1, hZ1⟩ : ∃ Z1, Z1 = Z.alloc (.cells #[.int .i64 0, .slice none 0 0, .slice none 0 0, .int .i64 0] 29) := ⟨_, rfl⟩
            have hb : Below Z.heap.size Z Z1 := by rw [hZ1]; exact nbel_alloc _ _
            have HV : Hid (Z1.rowIs Z.heap.size 29 4 (rowN (toL 0 none 0 0 none 0 0 0))) := by show World.rowIs _ _ _ _ _; rw [hZ1]; exact rowN_alloc _ _ _
            obtain ⟨xb, hxb⟩ : ∃ xb, xb = Z.heap.size := ⟨_, rfl⟩
            rw [← hxb] at HV
            have HXL : Hid (w5.heap.size ≤ xb) := by show _ ≤ _; rw [hxb]; exact hHeld.size
            go_simp
            rw [← hZ1, ← hxb]
            clear hZ1
            refine hK.out _ _ (hHeld.trans (hb.mono hHeld.size)) (fun hHeld2 => ?_)
            clear hK hHeld hxb hb
            have hHeld := hHeld2
            clear hHeld2
            refine wpAnyH_ready (rs := [1]) (by kernel_rfl) (by simp) (AllReadyH.cons (at_drop (i := 1) rfl) (fun K2 hK => ?_) (AllReadyH.nil))
            obtain ⟨Z2, hZ2⟩ : ∃ Z2, Z2 = Z1.alloc (.cells #[] 38) := ⟨_, rfl⟩
            have hb : Below Z1.heap.size Z1 Z2 := by rw [hZ2]; exact nbel_alloc _ _
            have OW : Hid (Z2.ownsRow w5.heap.size 38 3 (.slice (some ⟨Z1.heap.size, 0, none⟩) 0 0) 0 []) := by show World.ownsRow _ _ _ _ _ _ _; rw [hZ2]; exact World.ownsRow_made Z1 #[] 0 hHeld.size (Nat.zero_le _) rfl
            have HV2 := Lib.hid (nrow_below HV.out hb)
            clear HV
            have HV := HV2
            clear HV2
            go_simp
            rw [← hZ2]
            clear hZ2
            refine hK.out _ _ (hHeld.trans (hb.mono hHeld.size)) (fun hHeld2 => ?_)
            clear hK hHeld hb
            have hHeld := hHeld2
            clear hHeld2
            refine wpAnyH_ready (rs := [3]) (by kernel_rfl) (by simp) (AllReadyH.cons (at_drop (i := 3) rfl) (fun K2 hK => ?_) (AllReadyH.nil))
            refine step_append_owl rfl (.tmp 80) (.tmp 81) 23 rfl w5.heap.size 38 i1 _ 24 Tryd.underlying23 hi1 hy0 hy1 hy2 rfl _ rfl OW.out w.heap.size pa kp pl rfl (LS5.out.ps.below hHeld) (by unfold maxLen; omega) (by omega) hHeld.size ?_
            intro v5 Z3 hown hgrow
            have hb : Below w5.heap.size Z2 Z3 := (Below.refl _ _).grown hgrow hHeld.size (fun k e => (OW.out.lt k e).1)
            obtain ⟨aA, cA, ev5, how⟩ := owl_of hown
            subst ev5
            have HAP := Lib.hid how
            have HV2 : Hid (Z3.rowIs xb 29 4 (rowN (toL 0 none 0 0 none 0 0 0))) := HV.out.of_block (hgrow.block _ HV.out.lt (fun e => own_ne OW.out HV.out e.symm rfl))
            clear HV
            have HV := HV2
            clear HV2
            refine hK.out _ _ (hHeld.trans hb) (fun hHeld2 => ?_)
            clear hK hHeld hb hown hgrow how OW
            have hHeld := hHeld2
            clear hHeld2
            simp only [Act.put, List.setIfInBounds_toArray, List.set_cons_zero, List.set_cons_succ]
            refine wpAnyH_ready (rs := [4]) (by kernel_rfl) (by simp) (AllReadyH.cons (at_drop (i := 4) rfl) (fun K2 hK => ?_) (AllReadyH.nil))
            go_simp
            refine (IMPL.out aA cA _ (LS5.out.tl.below hHeld).at_ HAP.out.at_ (GLOB.out _ (LS5.out.bel.trans (hHeld.mono LS5.out.bel.size)))).mono ?_
            rintro e Z4 ⟨⟨aN, kN, pN, dN, rfl, htw⟩, hb⟩
            have HTW := Lib.hid (htw.low hHeld.size)
            clear htw HAP
            have HV2 := Lib.hid (nrow_below HV.out hb)
            clear HV
            have HV := HV2
            clear HV2
            go_wp2_with fail
            refine hK.out _ _ (hHeld.trans (hb.mono hHeld.size)) (fun hHeld2 => ?_)
            clear hK hHeld hb
            have hHeld := hHeld2
            clear hHeld2
            have zr := put4 HV.out (.int .i64 r) (.slice aN XX.2.1.length kN) (.slice pN XX.2.2.length dN) (.int .i64 XX.1)
            have zk := fun (k : Nat) (hk : k ≠ xb) => blk4 Z4 hk (.int .i64 r) (.slice aN XX.2.1.length kN) (.slice pN XX.2.2.length dN) (.int .i64 XX.1)
            have zb := bel4 (g := xb) hHeld HXL.out (.int .i64 r) (.slice aN XX.2.1.length kN) (.slice pN XX.2.2.length dN) (.int .i64 XX.1)
            have zt : TwO w5.heap.size aN kN XX.2.1 pN dN XX.2.2 _ := ⟨HTW.out.x.keep (fun k e _ => zk k (owl_ne HTW.out.x HV.out e)), HTW.out.y.keep (fun k e _ => zk k (owl_ne HTW.out.y HV.out e)), HTW.out.ne⟩
            obtain ⟨⟨o0, o1, o2, o3⟩, z0, z1, z2, z3⟩ := rowN4 HV.out
            have hol := HV.out.lt
            refine take_call (i := 6) rfl (by kernel_rfl) (fun K2 hK => ?_)
            go_simp
            clear o0 o1 o2 o3 z0 z1 z2 z3
            generalize (((Z4.setCell ⟨xb, 0, none⟩ (.int .i64 r)).setCell ⟨xb, 1, none⟩ (.slice aN XX.2.1.length kN)).setCell ⟨xb, 2, none⟩ (.slice pN XX.2.2.length dN)).setCell ⟨xb, 3, none⟩ (.int .i64 XX.1) = Y at zr zk zb zt ⊢
            refine hK.out _ _ zb (fun hHeld2 => ?_)
            clear hK hHeld hHeld2
            refine wpAnyH_done (by kernel_rfl) ?_ _
            have HPR : Hid (PrS w5 r XX xb aN kN pN dN Y) := ⟨zb, zr, zt, HXL.out⟩
            clear zr zk zb zt
            go_wp2_with fail
            go_meet
            case rel => exact ⟨xb, aN, kN, pN, dN, rfl, HPR⟩
        case rest =>
          obtain ⟨xb, aN, kN, pN, dN, rfl, hPR⟩ := hcut
          obtain ⟨V9, hV⟩ : ∃ V, V = wc := ⟨_, rfl⟩
          rw [← hV] at hPR ⊢
          clear hV
          have LS9 : Hid (BkS tb r aT l c pa pl kp w V9) := LS5.out.below hPR.out.bel
          have R6 := Lib.hid hPR.out.row
          have T6 := Lib.hid hPR.out.two
          have hc := HC.out
          clear hPR LS5
          obtain ⟨⟨x0, x1⟩, _⟩ := rowN2 LS9.out.row
          obtain ⟨⟨y0, y1, y2, y3⟩, _⟩ := rowN4 R6.out
          go_wp2_with fail
          have hln := HLN.out
          refine (lwParcels_any aT l c _ LS9.out.tl.at_ (by omega) F.out.tl).mono ?_
          rintro e w10 ⟨rfl, hw⟩
          rw [hw]
          clear hw w10
          go_wp2_with fail
          refine (lwParcels_any pa pl kp _ LS9.out.ps.at_ (by omega) F.out.ps).mono ?_
          rintro e w11 ⟨rfl, hw⟩
          rw [hw]
          clear hw w11
          go_wp2_with fail
          refine (lwParcels_any aN XX.2.1 kN _ T6.out.x.at_ (by omega) F.out.rt.2.1).mono ?_
          rintro e w12 ⟨rfl, hw⟩
          rw [hw]
          clear hw w12
          go_wp2_with fail
          refine (lwParcels_any pN XX.2.2 dN _ T6.out.y.at_ (by omega) F.out.out).mono ?_
          rintro e w13 ⟨rfl, hw⟩
          rw [hw]
          clear hw w13
          have hsum := F.out.gra rfl
          generalize Tb.gra l = g1 at *
          generalize Tb.gra pl = g2 at *
          generalize Tb.gra XX.2.1 = g3 at *
          generalize Tb.gra XX.2.2 = g4 at *
          go_wp2_with fail
          go_ret
          exact ⟨by simp, LS9.out.bel⟩
      · clear HX
        go_wp2_with fail
        go_ret
        exact ⟨rfl, LS5.out.bel⟩
  · clear HX
    obtain ⟨⟨x0, x1⟩, _⟩ := rowN2 LS2.out.row
    go_wp2_with fail
    clear x0 x1
    refine (sRun_any r aT l c pa pl kp 0 _ LS2.out.tl.at_ LS2.out.ps.at_ (by omega)).mono ?_
    rintro e w5 ⟨⟨a5, k5, p5, d5, rfl, _⟩, hb⟩
    have LS5 : Hid (BkS tb r aT l c pa pl kp w w5) := LS2.out.below hb
    clear hb LS2
    obtain ⟨X, hX⟩ : ∃ X, X = runX 0 r l pl := ⟨_, rfl⟩
    rw [← hX]
    have HX := Lib.hid hX
    clear hX
    unfold toV
    go_wp2_with fail
    rw [to_code]
    by_cases hc : X.1 = 0
    · have hX := HX.out
      clear HX
      have F : Hid (Tb.RunF 0 r l pl X) := by show Tb.RunF _ _ _ _ _; rw [hX]; exact run_facts (by rw [← hX]; exact hc)
      have IMPL : Hid (∀ (a' : Option Addr) (c' : Nat) (W : World), IsAt aT (l.length * 3) (Tb.fl l) W → IsAt a' (pl.length * 3) (Tb.fl pl) W → Et W ∧ TabOk W → Calls Tryd.prog 9 #[tbV r aT l.length c, .slice a' pl.length c', .int .i64 0] W fun e w' => (∃ a k p d, e = .returned (toV r a X.2.1.length k p X.2.2.length d X.1) ∧ TwO W.heap.size a k X.2.1 p d X.2.2 w') ∧ Below W.heap.size W w') := fun a' c' W h hp hg => implRun_ok hX hc a' c' W h hp hg
      have HLN : Hid (X.2.1.length ≤ 60 ∧ X.2.2.length ≤ 3660) := by show _ ∧ _; rw [hX]; exact runX_len 0 r l pl
      clear hX
      go_wp2_with fail
      have HC := Lib.hid hc
      clear hc
      go_cut [11] (fun q W => ∃ xb aN kN pN dN, q = .pointer (some ⟨xb, 0, none⟩) ∧ Hid (PrS w5 r X xb aN kN pN dN W))
      case first =>
        refine wp_region_held_drew (S := fun V => Below w5.heap.size w5 V) (by kernel_rfl) (Below.refl _ _).drew (fun hHeld => ?_)
        obtain ⟨Z, hZ⟩ : ∃ Z, Z = w5.drew := ⟨_, rfl⟩
        rw [← hZ] at hHeld ⊢
        clear hZ
        refine take_do (i := 0) (v := tbV r aT l.length c) rfl (by kernel_rfl) (by kernel_rfl) (by kernel_rfl) (fun _ _ _ h => h) (by rfl) ?_ (by assumption) ?_
        · intro w hSw
          obtain ⟨⟨x0, x1⟩, _⟩ := rowN2 (nrow_below LS5.out.row hSw)
          go_simp
        simp only [Act.put, List.setIfInBounds_toArray, List.set_cons_zero, List.set_cons_succ]
        refine take_do (i := 2) (v := .slice pa pl.length kp) rfl (by kernel_rfl) (by kernel_rfl) (by kernel_rfl) (fun _ _ _ h => h) (by rfl) ?_ (by assumption) ?_
        · intro w hSw
          go_simp
        simp only [Act.put, List.setIfInBounds_toArray, List.set_cons_zero, List.set_cons_succ]
        refine wpAnyH_ready (rs := [1, 5]) (by kernel_rfl) (by simp) (AllReadyH.cons (at_drop (i := 1) rfl) (fun K2 hK => ?_) (AllReadyH.cons (at_drop (i := 5) rfl) (fun K2 hK => ?_) (AllReadyH.nil)))
        · obtain ⟨Z1, hZ1⟩ : ∃ Z1, Z1 = Z.alloc (.cells #[] 38) := ⟨_, rfl⟩
          have hb : Below Z.heap.size Z Z1 := by rw [hZ1]; exact nbel_alloc _ _
          have OW : Hid (Z1.ownsRow w5.heap.size 38 3 (.slice (some ⟨Z.heap.size, 0, none⟩) 0 0) 0 []) := by show World.ownsRow _ _ _ _ _ _ _; rw [hZ1]; exact World.ownsRow_made Z #[] 0 hHeld.size (Nat.zero_le _) rfl
          go_simp
          rw [← hZ1]
          clear hZ1
          refine hK.out _ _ (hHeld.trans (hb.mono hHeld.size)) (fun hHeld2 => ?_)
          clear hK hHeld hb
          have hHeld := hHeld2
          clear hHeld2
          refine wpAnyH_ready (rs := [3, 5]) (by kernel_rfl) (by simp) (AllReadyH.cons (at_drop (i := 3) rfl) (fun K2 hK => ?_) (AllReadyH.cons (at_drop (i := 5) rfl) (fun K2 hK => ?_) (AllReadyH.nil)))
          · refine step_append_owl rfl (.tmp 80) (.tmp 81) 23 rfl w5.heap.size 38 i1 _ 24 Tryd.underlying23 hi1 hy0 hy1 hy2 rfl _ rfl OW.out w.heap.size pa kp pl rfl (LS5.out.ps.below hHeld) (by unfold maxLen; omega) (by omega) hHeld.size ?_
            intro v5 Z2 hown hgrow
            have hb : Below w5.heap.size Z1 Z2 := (Below.refl _ _).grown hgrow hHeld.size (fun k e => (OW.out.lt k e).1)
            obtain ⟨aA, cA, ev5, how⟩ := owl_of hown
            subst ev5
            have HAP := Lib.hid how
            refine hK.out _ _ (hHeld.trans hb) (fun hHeld2 => ?_)
            clear hK hHeld hb hown hgrow how OW
            have hHeld := hHeld2
            clear hHeld2
            simp only [Act.put, List.setIfInBounds_toArray, List.set_cons_zero, List.set_cons_succ]
            refine wpAnyH_ready (rs := [4, 5]) (by kernel_rfl) (by simp) (AllReadyH.cons (at_drop (i := 4) rfl) (fun K2 hK => ?_) (AllReadyH.cons (at_drop (i := 5) rfl) (fun K2 hK => ?_) (AllReadyH.nil)))
            · go_simp
              refine (IMPL.out aA cA _ (LS5.out.tl.below hHeld).at_ HAP.out.at_ (GLOB.out _ (LS5.out.bel.trans (hHeld.mono LS5.out.bel.size)))).mono ?_
              rintro e Z3 ⟨⟨aN, kN, pN, dN, rfl, htw⟩, hb⟩
              have HTW := Lib.hid (htw.low hHeld.size)
              clear htw HAP
              go_wp2_with fail
              refine hK.out _ _ (hHeld.trans (hb.mono hHeld.size)) (fun hHeld2 => ?_)
              clear hK hHeld hb
              have hHeld := hHeld2
              clear hHeld2
              refine wpAnyH_ready (rs := [5]) (by kernel_rfl) (by simp) (AllReadyH.cons (at_drop (i := 5) rfl) (fun K2 hK => ?_) (AllReadyH.nil))
              obtain ⟨Z4, hZ4⟩ : ∃ Z4, Z4 = Z3.alloc (.cells #[.int .i64 0, .slice none 0 0, .slice none 0 0, .int .i64 0] 29) := ⟨_, rfl⟩
              have hb : Below Z3.heap.size Z3 Z4 := by rw [hZ4]; exact nbel_alloc _ _
              have HV : Hid (Z4.rowIs Z3.heap.size 29 4 (rowN (toL 0 none 0 0 none 0 0 0))) := by show World.rowIs _ _ _ _ _; rw [hZ4]; exact rowN_alloc _ _ _
              obtain ⟨xb, hxb⟩ : ∃ xb, xb = Z3.heap.size := ⟨_, rfl⟩
              rw [← hxb] at HV
              have HXL : Hid (w5.heap.size ≤ xb) := by show _ ≤ _; rw [hxb]; exact hHeld.size
              have HTW2 := Lib.hid (HTW.out.keep (fun k _ hk => hb.block k hk))
              clear HTW
              have HTW := HTW2
              clear HTW2
              go_simp
              rw [← hZ4, ← hxb]
              clear hZ4
              refine hK.out _ _ (hHeld.trans (hb.mono hHeld.size)) (fun hHeld2 => ?_)
              clear hK hHeld hxb hb
              have hHeld := hHeld2
              clear hHeld2
              have zr := put4 HV.out (.int .i64 r) (.slice aN X.2.1.length kN) (.slice pN X.2.2.length dN) (.int .i64 X.1)
              have zk := fun (k : Nat) (hk : k ≠ xb) => blk4 Z4 hk (.int .i64 r) (.slice aN X.2.1.length kN) (.slice pN X.2.2.length dN) (.int .i64 X.1)
              have zb := bel4 (g := xb) hHeld HXL.out (.int .i64 r) (.slice aN X.2.1.length kN) (.slice pN X.2.2.length dN) (.int .i64 X.1)
              have zt : TwO w5.heap.size aN kN X.2.1 pN dN X.2.2 _ := ⟨HTW.out.x.keep (fun k e _ => zk k (owl_ne HTW.out.x HV.out e)), HTW.out.y.keep (fun k e _ => zk k (owl_ne HTW.out.y HV.out e)), HTW.out.ne⟩
              obtain ⟨⟨o0, o1, o2, o3⟩, z0, z1, z2, z3⟩ := rowN4 HV.out
              have hol := HV.out.lt
              refine take_call (i := 6) rfl (by kernel_rfl) (fun K2 hK => ?_)
              go_simp
              clear o0 o1 o2 o3 z0 z1 z2 z3
              generalize (((Z4.setCell ⟨xb, 0, none⟩ (.int .i64 r)).setCell ⟨xb, 1, none⟩ (.slice aN X.2.1.length kN)).setCell ⟨xb, 2, none⟩ (.slice pN X.2.2.length dN)).setCell ⟨xb, 3, none⟩ (.int .i64 X.1) = Y at zr zk zb zt ⊢
              refine hK.out _ _ zb (fun hHeld2 => ?_)
              clear hK hHeld hHeld2
              refine wpAnyH_done (by kernel_rfl) ?_ _
              have HPR : Hid (PrS w5 r X xb aN kN pN dN Y) := ⟨zb, zr, zt, HXL.out⟩
              clear zr zk zb zt
              go_wp2_with fail
              go_meet
              case rel => exact ⟨xb, aN, kN, pN, dN, rfl, HPR⟩
            · obtain ⟨Z3, hZ3⟩ : ∃ Z3, Z3 = Z2.alloc (.cells #[.int .i64 0, .slice none 0 0, .slice none 0 0, .int .i64 0] 29) := ⟨_, rfl⟩
              have hb : Below Z2.heap.size Z2 Z3 := by rw [hZ3]; exact nbel_alloc _ _
              have HV : Hid (Z3.rowIs Z2.heap.size 29 4 (rowN (toL 0 none 0 0 none 0 0 0))) := by show World.rowIs _ _ _ _ _; rw [hZ3]; exact rowN_alloc _ _ _
              obtain ⟨xb, hxb⟩ : ∃ xb, xb = Z2.heap.size := ⟨_, rfl⟩
              rw [← hxb] at HV
              have HXL : Hid (w5.heap.size ≤ xb) := by show _ ≤ _; rw [hxb]; exact hHeld.size
              have HAP2 := Lib.hid (HAP.out.below hb)
              clear HAP
              have HAP := HAP2
              clear HAP2
              go_simp
              rw [← hZ3, ← hxb]
              clear hZ3
              refine hK.out _ _ (hHeld.trans (hb.mono hHeld.size)) (fun hHeld2 => ?_)
              clear hK hHeld hxb hb
              have hHeld := hHeld2
              clear hHeld2
              refine wpAnyH_ready (rs := [4]) (by kernel_rfl) (by simp) (AllReadyH.cons (at_drop (i := 4) rfl) (fun K2 hK => ?_) (AllReadyH.nil))
              go_simp
              refine (IMPL.out aA cA _ (LS5.out.tl.below hHeld).at_ HAP.out.at_ (GLOB.out _ (LS5.out.bel.trans (hHeld.mono LS5.out.bel.size)))).mono ?_
              rintro e Z4 ⟨⟨aN, kN, pN, dN, rfl, htw⟩, hb⟩
              have HTW := Lib.hid (htw.low hHeld.size)
              clear htw HAP
              have HV2 := Lib.hid (nrow_below HV.out hb)
              clear HV
              have HV := HV2
              clear HV2
              go_wp2_with fail
              refine hK.out _ _ (hHeld.trans (hb.mono hHeld.size)) (fun hHeld2 => ?_)
              clear hK hHeld hb
              have hHeld := hHeld2
              clear hHeld2
              have zr := put4 HV.out (.int .i64 r) (.slice aN X.2.1.length kN) (.slice pN X.2.2.length dN) (.int .i64 X.1)
              have zk := fun (k : Nat) (hk : k ≠ xb) => blk4 Z4 hk (.int .i64 r) (.slice aN X.2.1.length kN) (.slice pN X.2.2.length dN) (.int .i64 X.1)
              have zb := bel4 (g := xb) hHeld HXL.out (.int .i64 r) (.slice aN X.2.1.length kN) (.slice pN X.2.2.length dN) (.int .i64 X.1)
              have zt : TwO w5.heap.size aN kN X.2.1 pN dN X.2.2 _ := ⟨HTW.out.x.keep (fun k e _ => zk k (owl_ne HTW.out.x HV.out e)), HTW.out.y.keep (fun k e _ => zk k (owl_ne HTW.out.y HV.out e)), HTW.out.ne⟩
              obtain ⟨⟨o0, o1, o2, o3⟩, z0, z1, z2, z3⟩ := rowN4 HV.out
              have hol := HV.out.lt
              refine take_call (i := 6) rfl (by kernel_rfl) (fun K2 hK => ?_)
              go_simp
              clear o0 o1 o2 o3 z0 z1 z2 z3
              generalize (((Z4.setCell ⟨xb, 0, none⟩ (.int .i64 r)).setCell ⟨xb, 1, none⟩ (.slice aN X.2.1.length kN)).setCell ⟨xb, 2, none⟩ (.slice pN X.2.2.length dN)).setCell ⟨xb, 3, none⟩ (.int .i64 X.1) = Y at zr zk zb zt ⊢
              refine hK.out _ _ zb (fun hHeld2 => ?_)
              clear hK hHeld hHeld2
              refine wpAnyH_done (by kernel_rfl) ?_ _
              have HPR : Hid (PrS w5 r X xb aN kN pN dN Y) := ⟨zb, zr, zt, HXL.out⟩
              clear zr zk zb zt
              go_wp2_with fail
              go_meet
              case rel => exact ⟨xb, aN, kN, pN, dN, rfl, HPR⟩
          · obtain ⟨Z2, hZ2⟩ : ∃ Z2, Z2 = Z1.alloc (.cells #[.int .i64 0, .slice none 0 0, .slice none 0 0, .int .i64 0] 29) := ⟨_, rfl⟩
            have hb : Below Z1.heap.size Z1 Z2 := by rw [hZ2]; exact nbel_alloc _ _
            have HV : Hid (Z2.rowIs Z1.heap.size 29 4 (rowN (toL 0 none 0 0 none 0 0 0))) := by show World.rowIs _ _ _ _ _; rw [hZ2]; exact rowN_alloc _ _ _
            obtain ⟨xb, hxb⟩ : ∃ xb, xb = Z1.heap.size := ⟨_, rfl⟩
            rw [← hxb] at HV
            have HXL : Hid (w5.heap.size ≤ xb) := by show _ ≤ _; rw [hxb]; exact hHeld.size
            have OW2 := Lib.hid (own_below OW.out hb)
            clear OW
            have OW := OW2
            clear OW2
            go_simp
            rw [← hZ2, ← hxb]
            clear hZ2
            refine hK.out _ _ (hHeld.trans (hb.mono hHeld.size)) (fun hHeld2 => ?_)
            clear hK hHeld hxb hb
            have hHeld := hHeld2
            clear hHeld2
            refine wpAnyH_ready (rs := [3]) (by kernel_rfl) (by simp) (AllReadyH.cons (at_drop (i := 3) rfl) (fun K2 hK => ?_) (AllReadyH.nil))
            refine step_append_owl rfl (.tmp 80) (.tmp 81) 23 rfl w5.heap.size 38 i1 _ 24 Tryd.underlying23 hi1 hy0 hy1 hy2 rfl _ rfl OW.out w.heap.size pa kp pl rfl (LS5.out.ps.below hHeld) (by unfold maxLen; omega) (by omega) hHeld.size ?_
            intro v5 Z3 hown hgrow
            have hb : Below w5.heap.size Z2 Z3 := (Below.refl _ _).grown hgrow hHeld.size (fun k e => (OW.out.lt k e).1)
            obtain ⟨aA, cA, ev5, how⟩ := owl_of hown
            subst ev5
            have HAP := Lib.hid how
            have HV2 : Hid (Z3.rowIs xb 29 4 (rowN (toL 0 none 0 0 none 0 0 0))) := HV.out.of_block (hgrow.block _ HV.out.lt (fun e => own_ne OW.out HV.out e.symm rfl))
            clear HV
            have HV := HV2
            clear HV2
            refine hK.out _ _ (hHeld.trans hb) (fun hHeld2 => ?_)
            clear hK hHeld hb hown hgrow how OW
            have hHeld := hHeld2
            clear hHeld2
            simp only [Act.put, List.setIfInBounds_toArray, List.set_cons_zero, List.set_cons_succ]
            refine wpAnyH_ready (rs := [4]) (by kernel_rfl) (by simp) (AllReadyH.cons (at_drop (i := 4) rfl) (fun K2 hK => ?_) (AllReadyH.nil))
            go_simp
            refine (IMPL.out aA cA _ (LS5.out.tl.below hHeld).at_ HAP.out.at_ (GLOB.out _ (LS5.out.bel.trans (hHeld.mono LS5.out.bel.size)))).mono ?_
            rintro e Z4 ⟨⟨aN, kN, pN, dN, rfl, htw⟩, hb⟩
            have HTW := Lib.hid (htw.low hHeld.size)
            clear htw HAP
            have HV2 := Lib.hid (nrow_below HV.out hb)
            clear HV
            have HV := HV2
            clear HV2
            go_wp2_with fail
            refine hK.out _ _ (hHeld.trans (hb.mono hHeld.size)) (fun hHeld2 => ?_)
            clear hK hHeld hb
            have hHeld := hHeld2
            clear hHeld2
            have zr := put4 HV.out (.int .i64 r) (.slice aN X.2.1.length kN) (.slice pN X.2.2.length dN) (.int .i64 X.1)
            have zk := fun (k : Nat) (hk : k ≠ xb) => blk4 Z4 hk (.int .i64 r) (.slice aN X.2.1.length kN) (.slice pN X.2.2.length dN) (.int .i64 X.1)
            have zb := bel4 (g := xb) hHeld HXL.out (.int .i64 r) (.slice aN X.2.1.length kN) (.slice pN X.2.2.length dN) (.int .i64 X.1)
            have zt : TwO w5.heap.size aN kN X.2.1 pN dN X.2.2 _ := ⟨HTW.out.x.keep (fun k e _ => zk k (owl_ne HTW.out.x HV.out e)), HTW.out.y.keep (fun k e _ => zk k (owl_ne HTW.out.y HV.out e)), HTW.out.ne⟩
            obtain ⟨⟨o0, o1, o2, o3⟩, z0, z1, z2, z3⟩ := rowN4 HV.out
            have hol := HV.out.lt
            refine take_call (i := 6) rfl (by kernel_rfl) (fun K2 hK => ?_)
            go_simp
            clear o0 o1 o2 o3 z0 z1 z2 z3
            generalize (((Z4.setCell ⟨xb, 0, none⟩ (.int .i64 r)).setCell ⟨xb, 1, none⟩ (.slice aN X.2.1.length kN)).setCell ⟨xb, 2, none⟩ (.slice pN X.2.2.length dN)).setCell ⟨xb, 3, none⟩ (.int .i64 X.1) = Y at zr zk zb zt ⊢
            refine hK.out _ _ zb (fun hHeld2 => ?_)
            clear hK hHeld hHeld2
            refine wpAnyH_done (by kernel_rfl) ?_ _
            have HPR : Hid (PrS w5 r X xb aN kN pN dN Y) := ⟨zb, zr, zt, HXL.out⟩
            clear zr zk zb zt
            go_wp2_with fail
            go_meet
            case rel => exact ⟨xb, aN, kN, pN, dN, rfl, HPR⟩
        · obtain ⟨Z1, hZ1⟩ : ∃ Z1, Z1 = Z.alloc (.cells #[.int .i64 0, .slice none 0 0, .slice none 0 0, .int .i64 0] 29) := ⟨_, rfl⟩
          have hb : Below Z.heap.size Z Z1 := by rw [hZ1]; exact nbel_alloc _ _
          have HV : Hid (Z1.rowIs Z.heap.size 29 4 (rowN (toL 0 none 0 0 none 0 0 0))) := by show World.rowIs _ _ _ _ _; rw [hZ1]; exact rowN_alloc _ _ _
          obtain ⟨xb, hxb⟩ : ∃ xb, xb = Z.heap.size := ⟨_, rfl⟩
          rw [← hxb] at HV
          have HXL : Hid (w5.heap.size ≤ xb) := by show _ ≤ _; rw [hxb]; exact hHeld.size
          go_simp
          rw [← hZ1, ← hxb]
          clear hZ1
          refine hK.out _ _ (hHeld.trans (hb.mono hHeld.size)) (fun hHeld2 => ?_)
          clear hK hHeld hxb hb
          have hHeld := hHeld2
          clear hHeld2
          refine wpAnyH_ready (rs := [1]) (by kernel_rfl) (by simp) (AllReadyH.cons (at_drop (i := 1) rfl) (fun K2 hK => ?_) (AllReadyH.nil))
          obtain ⟨Z2, hZ2⟩ : ∃ Z2, Z2 = Z1.alloc (.cells #[] 38) := ⟨_, rfl⟩
          have hb : Below Z1.heap.size Z1 Z2 := by rw [hZ2]; exact nbel_alloc _ _
          have OW : Hid (Z2.ownsRow w5.heap.size 38 3 (.slice (some ⟨Z1.heap.size, 0, none⟩) 0 0) 0 []) := by show World.ownsRow _ _ _ _ _ _ _; rw [hZ2]; exact World.ownsRow_made Z1 #[] 0 hHeld.size (Nat.zero_le _) rfl
          have HV2 := Lib.hid (nrow_below HV.out hb)
          clear HV
          have HV := HV2
          clear HV2
          go_simp
          rw [← hZ2]
          clear hZ2
          refine hK.out _ _ (hHeld.trans (hb.mono hHeld.size)) (fun hHeld2 => ?_)
          clear hK hHeld hb
          have hHeld := hHeld2
          clear hHeld2
          refine wpAnyH_ready (rs := [3]) (by kernel_rfl) (by simp) (AllReadyH.cons (at_drop (i := 3) rfl) (fun K2 hK => ?_) (AllReadyH.nil))
          refine step_append_owl rfl (.tmp 80) (.tmp 81) 23 rfl w5.heap.size 38 i1 _ 24 Tryd.underlying23 hi1 hy0 hy1 hy2 rfl _ rfl OW.out w.heap.size pa kp pl rfl (LS5.out.ps.below hHeld) (by unfold maxLen; omega) (by omega) hHeld.size ?_
          intro v5 Z3 hown hgrow
          have hb : Below w5.heap.size Z2 Z3 := (Below.refl _ _).grown hgrow hHeld.size (fun k e => (OW.out.lt k e).1)
          obtain ⟨aA, cA, ev5, how⟩ := owl_of hown
          subst ev5
          have HAP := Lib.hid how
          have HV2 : Hid (Z3.rowIs xb 29 4 (rowN (toL 0 none 0 0 none 0 0 0))) := HV.out.of_block (hgrow.block _ HV.out.lt (fun e => own_ne OW.out HV.out e.symm rfl))
          clear HV
          have HV := HV2
          clear HV2
          refine hK.out _ _ (hHeld.trans hb) (fun hHeld2 => ?_)
          clear hK hHeld hb hown hgrow how OW
          have hHeld := hHeld2
          clear hHeld2
          simp only [Act.put, List.setIfInBounds_toArray, List.set_cons_zero, List.set_cons_succ]
          refine wpAnyH_ready (rs := [4]) (by kernel_rfl) (by simp) (AllReadyH.cons (at_drop (i := 4) rfl) (fun K2 hK => ?_) (AllReadyH.nil))
          go_simp
          refine (IMPL.out aA cA _ (LS5.out.tl.below hHeld).at_ HAP.out.at_ (GLOB.out _ (LS5.out.bel.trans (hHeld.mono LS5.out.bel.size)))).mono ?_
          rintro e Z4 ⟨⟨aN, kN, pN, dN, rfl, htw⟩, hb⟩
          have HTW := Lib.hid (htw.low hHeld.size)
          clear htw HAP
          have HV2 := Lib.hid (nrow_below HV.out hb)
          clear HV
          have HV := HV2
          clear HV2
          go_wp2_with fail
          refine hK.out _ _ (hHeld.trans (hb.mono hHeld.size)) (fun hHeld2 => ?_)
          clear hK hHeld hb
          have hHeld := hHeld2
          clear hHeld2
          have zr := put4 HV.out (.int .i64 r) (.slice aN X.2.1.length kN) (.slice pN X.2.2.length dN) (.int .i64 X.1)
          have zk := fun (k : Nat) (hk : k ≠ xb) => blk4 Z4 hk (.int .i64 r) (.slice aN X.2.1.length kN) (.slice pN X.2.2.length dN) (.int .i64 X.1)
          have zb := bel4 (g := xb) hHeld HXL.out (.int .i64 r) (.slice aN X.2.1.length kN) (.slice pN X.2.2.length dN) (.int .i64 X.1)
          have zt : TwO w5.heap.size aN kN X.2.1 pN dN X.2.2 _ := ⟨HTW.out.x.keep (fun k e _ => zk k (owl_ne HTW.out.x HV.out e)), HTW.out.y.keep (fun k e _ => zk k (owl_ne HTW.out.y HV.out e)), HTW.out.ne⟩
          obtain ⟨⟨o0, o1, o2, o3⟩, z0, z1, z2, z3⟩ := rowN4 HV.out
          have hol := HV.out.lt
          refine take_call (i := 6) rfl (by kernel_rfl) (fun K2 hK => ?_)
          go_simp
          clear o0 o1 o2 o3 z0 z1 z2 z3
          generalize (((Z4.setCell ⟨xb, 0, none⟩ (.int .i64 r)).setCell ⟨xb, 1, none⟩ (.slice aN X.2.1.length kN)).setCell ⟨xb, 2, none⟩ (.slice pN X.2.2.length dN)).setCell ⟨xb, 3, none⟩ (.int .i64 X.1) = Y at zr zk zb zt ⊢
          refine hK.out _ _ zb (fun hHeld2 => ?_)
          clear hK hHeld hHeld2
          refine wpAnyH_done (by kernel_rfl) ?_ _
          have HPR : Hid (PrS w5 r X xb aN kN pN dN Y) := ⟨zb, zr, zt, HXL.out⟩
          clear zr zk zb zt
          go_wp2_with fail
          go_meet
          case rel => exact ⟨xb, aN, kN, pN, dN, rfl, HPR⟩
      case rest =>
        obtain ⟨xb, aN, kN, pN, dN, rfl, hPR⟩ := hcut
        obtain ⟨V9, hV⟩ : ∃ V, V = wc := ⟨_, rfl⟩
        rw [← hV] at hPR ⊢
        clear hV
        have LS9 : Hid (BkS tb r aT l c pa pl kp w V9) := LS5.out.below hPR.out.bel
        have R6 := Lib.hid hPR.out.row
        have T6 := Lib.hid hPR.out.two
        have hc := HC.out
        clear hPR LS5
        obtain ⟨⟨x0, x1⟩, _⟩ := rowN2 LS9.out.row
        obtain ⟨⟨y0, y1, y2, y3⟩, _⟩ := rowN4 R6.out
        go_wp2_with fail
        have hln := HLN.out
        refine (lwParcels_any aT l c _ LS9.out.tl.at_ (by omega) F.out.tl).mono ?_
        rintro e w10 ⟨rfl, hw⟩
        rw [hw]
        clear hw w10
        go_wp2_with fail
        refine (lwParcels_any pa pl kp _ LS9.out.ps.at_ (by omega) F.out.ps).mono ?_
        rintro e w11 ⟨rfl, hw⟩
        rw [hw]
        clear hw w11
        go_wp2_with fail
        refine (lwParcels_any aN X.2.1 kN _ T6.out.x.at_ (by omega) F.out.rt.2.1).mono ?_
        rintro e w12 ⟨rfl, hw⟩
        rw [hw]
        clear hw w12
        go_wp2_with fail
        refine (lwParcels_any pN X.2.2 dN _ T6.out.y.at_ (by omega) F.out.out).mono ?_
        rintro e w13 ⟨rfl, hw⟩
        rw [hw]
        clear hw w13
        have hsum := F.out.gra rfl
        generalize Tb.gra l = g1 at *
        generalize Tb.gra pl = g2 at *
        generalize Tb.gra X.2.1 = g3 at *
        generalize Tb.gra X.2.2 = g4 at *
        go_wp2_with fail
        go_ret
        exact ⟨by simp, LS9.out.bel⟩
    · clear HX
      go_wp2_with fail
      go_ret
      exact ⟨rfl, LS5.out.bel⟩
end Go.Proofs.YtjmnehlgefpheaaDoor
