/-
  The program's cost of a plan of a day.
-/
import Derived.Test.YtmfokilpfbcicaaDoorDyTl
import Derived.Test.YtmfokilpfbcicaaDoorReg
import Derived.Deep.DeepCutAuto
namespace Go.Proofs.YtmfokilpfbcicaaDoor
open Go.RowKit Go.Deep

/-- What the inner function hands back. -/
def DdEnd (B : Nat) (n : Dy.Day) (k : Nat) (f : Nat → Int) (e : Ending) (W : World) : Prop :=
  (Dy.codeC n k f ≠ 0 ∧ ∃ ev, e = .returned (.tuple #[doV none 0 0 0 0 0, ev]) ∧ ErrIs ev (Dy.codeC n k f)) ∨
  (Dy.codeC n k f = 0 ∧ 1 ≤ k ∧ k ≤ 400 ∧ ∃ g c, e = .returned (.tuple #[doV (some ⟨g, 0, none⟩) k c (Dy.costA n f k) (Dy.endA n f k) 0, .nilIface]) ∧ B ≤ g ∧ IsBlk 2 g k f W)
/-- What stands from slot to slot: the answer's block, the copy of the modes, the old memory. -/
structure DcS (n : Dy.Day) (k : Nat) (f : Nat → Int) (w0 : World) (gb g c i : Nat) (V : World) : Prop where
  row : V.rowIs gb 28 4 (rowN (doL (some ⟨g, 0, none⟩) k c (Dy.costA n f i) (Dy.endA n f i) 0))
  own : IsBlk 2 g k f V
  old : Below w0.heap.size w0 V
  lo : w0.heap.size ≤ gb ∧ w0.heap.size ≤ g ∧ g ≠ gb
theorem DcS.below {n : Dy.Day} {k : Nat} {f : Nat → Int} {w0 : World} {gb g c i : Nat} {V V' : World} (h : DcS n k f w0 gb g c i V) (hb : Below V.heap.size V V') : DcS n k f w0 gb g c i V' := ⟨nrow_below h.row hb, h.own.below hb, h.old.trans (hb.mono h.old.size), h.lo⟩
set_option maxRecDepth 100000 in
set_option maxHeartbeats 16000000 in
theorem dayCost_any (n : Dy.Day) (la : Option Addr) (lk : Nat) (fa : Option Addr) (fk : Nat) (wa : Option Addr) (wk : Nat) (am : Option Addr) (k ck : Nat) (f : Nat → Int) (w : World) (h : DyAt n la fa wa w) (hs : DySmall n) (hm : IsAt am k f w) (hk : k ≤ 1048576) (ht : TabOk w) :
    Calls Tryd.prog 22 #[dyV n la lk fa fk wa wk, .slice am k ck] w fun e w' => DdEnd w.heap.size n k f e w' ∧ Below w.heap.size w w' := by
  obtain ⟨W, hW⟩ : ∃ W, W = (w.alloc (.cells #[.slice la n.mn lk, .slice fa n.wn fk, .slice wa n.pn wk, .int .i64 n.tank, .int .i64 n.low, .int .i64 n.high] 32)).alloc (.cells #[.slice none 0 0, .int .i64 0, .int .i64 0, .int .i64 0] 28) := ⟨_, rfl⟩
  have HB : Hid (Below w.heap.size w W) := by show Below _ _ _; rw [hW]; exact (nbel_alloc _ _).alloc (by simp) _
  have HR : Hid (W.rowIs w.heap.size 32 6 (rowN (dyL n la lk fa fk wa wk))) := by show W.rowIs _ _ _ _; rw [hW]; exact nrow_below (rowN_alloc w _ _) (nbel_alloc _ _)
  have HO : Hid (W.rowIs (w.heap.size + 1) 28 4 (rowN (doL none 0 0 0 0 0))) := by show W.rowIs _ _ _ _; rw [hW]; exact rowN_alloc' (by simp) _ _
  have HW := Lib.hid hW
  have H := Lib.hid (h.below HB.out)
  have HM := Lib.hid (hm.below HB.out)
  have HT := Lib.hid (tab_below ht HB.out)
  have HS := Lib.hid hs
  obtain ⟨⟨o0, o1, o2, o3⟩, z0, z1, z2, z3⟩ := rowN4 HO.out
  have hol := HO.out.lt
  rw [hW] at o0 o1 o2 o3 z0 z1 z2 z3 hol
  clear hW h hm ht hs
  by_cases q0 : (400 : Int) < (k : Int)
  · have HC : Hid (Dy.codeC n k f = 2) := Dy.codeC_size (by omega)
    go_enter Tryd.func22, Tryd.ntmps22
    go_wp2_with fail
    rw [← HW.out]
    obtain ⟨⟨c0, c1, c2, c3⟩, _⟩ := rowN4 HO.out
    exact bodyPost_ret (v := .tuple #[doV none 0 0 0 0 0, errV ⟨#[116, 104, 101, 32, 109, 111, 100, 101, 115, 32, 111, 102, 32, 97, 32, 100, 97, 121]⟩ 2]) (by simp only [results, Tryd.results22]; simp [go_sem, c0, c1, c2, c3]) rfl ⟨Or.inl ⟨by rw [HC.out]; simp, _, rfl, by rw [HC.out]; exact errIs_one _ _⟩, HB.out⟩
  have hk4 : ¬ 400 < k := by omega
  go_enter Tryd.func22, Tryd.ntmps22
  go_wp2_with fail
  rw [← HW.out]
  clear HW o0 o1 o2 o3 z0 z1 z2 z3 hol
  refine (dayRight_any n la lk fa fk wa wk _ H.out HS.out).mono ?_
  rintro e w1 ⟨rfl, hb⟩
  have HR1 := Lib.hid (nrow_below HR.out hb)
  have HO1 := Lib.hid (nrow_below HO.out hb)
  have H1 := Lib.hid (H.out.below hb)
  have HM1 := Lib.hid (HM.out.below hb)
  have HT1 := Lib.hid (tab_below HT.out hb)
  have HB1 : Hid (Below w.heap.size w w1) := HB.out.trans (hb.mono HB.out.size)
  clear hb HR HO H HM HT HB
  obtain ⟨⟨p0, p1, p2, p3, p4, p5⟩, _⟩ := rowN6 HR1.out
  obtain ⟨⟨o0, o1, o2, o3⟩, z0, z1, z2, z3⟩ := rowN4 HO1.out
  have hol := HO1.out.lt
  by_cases q1 : Dy.Right n
  case neg =>
    rw [dB_ff q1]
    have HC : Hid (Dy.codeC n k f = 1) := Dy.codeC_form hk4 (fun x => q1 x.1)
    clear q1
    go_wp2_with fail
    have zr := dput4 HO1.out (.slice none 0 0) (.int .i64 0) (.int .i64 0) (.int .i64 0)
    have zb := dbel4 (g := w.heap.size + 1) HB1.out (by omega) (.slice none 0 0) (.int .i64 0) (.int .i64 0) (.int .i64 0)
    generalize (((w1.setCell ⟨w.heap.size + 1, 0, none⟩ (.slice none 0 0)).setCell ⟨w.heap.size + 1, 1, none⟩ (.int .i64 0)).setCell ⟨w.heap.size + 1, 2, none⟩ (.int .i64 0)).setCell ⟨w.heap.size + 1, 3, none⟩ (.int .i64 0) = Z at zr zb ⊢
    obtain ⟨⟨c0, c1, c2, c3⟩, _⟩ := rowN4 zr
    exact bodyPost_ret (v := .tuple #[doV none 0 0 0 0 0, errV ⟨#[97, 32, 100, 97, 121, 32, 97, 110, 100, 32, 105, 116, 115, 32, 109, 111, 100, 101, 115]⟩ 1]) (by simp only [results, Tryd.results22]; simp [go_sem, c0, c1, c2, c3]) rfl ⟨Or.inl ⟨by rw [HC.out]; simp, _, rfl, by rw [HC.out]; exact errIs_one _ _⟩, zb⟩
  rw [dB_tt q1]
  have HRT := Lib.hid q1
  clear q1
  by_cases q2 : k ≠ n.wn
  · have HC : Hid (Dy.codeC n k f = 1) := Dy.codeC_form hk4 (fun x => q2 x.2.1)
    have q2' : ((k : Int) != (n.wn : Int)) = true := by simp; omega
    clear q2
    go_wp2_with fail
    have zr := dput4 HO1.out (.slice none 0 0) (.int .i64 0) (.int .i64 0) (.int .i64 0)
    have zb := dbel4 (g := w.heap.size + 1) HB1.out (by omega) (.slice none 0 0) (.int .i64 0) (.int .i64 0) (.int .i64 0)
    generalize (((w1.setCell ⟨w.heap.size + 1, 0, none⟩ (.slice none 0 0)).setCell ⟨w.heap.size + 1, 1, none⟩ (.int .i64 0)).setCell ⟨w.heap.size + 1, 2, none⟩ (.int .i64 0)).setCell ⟨w.heap.size + 1, 3, none⟩ (.int .i64 0) = Z at zr zb ⊢
    obtain ⟨⟨c0, c1, c2, c3⟩, _⟩ := rowN4 zr
    exact bodyPost_ret (v := .tuple #[doV none 0 0 0 0 0, errV ⟨#[97, 32, 100, 97, 121, 32, 97, 110, 100, 32, 105, 116, 115, 32, 109, 111, 100, 101, 115]⟩ 1]) (by simp only [results, Tryd.results22]; simp [go_sem, c0, c1, c2, c3]) rfl ⟨Or.inl ⟨by rw [HC.out]; simp, _, rfl, by rw [HC.out]; exact errIs_one _ _⟩, zb⟩
  have q2' : ((k : Int) != (n.wn : Int)) = false := by simp; omega
  have HKW : Hid (k = n.wn) := by show k = n.wn; omega
  have hm6 : (1 : Int) ≤ (n.mn : Int) ∧ (n.mn : Int) ≤ 6 := by have := HRT.out.2.1.m1; have := HRT.out.2.1.m2; omega
  clear q2
  go_wp2_with fail
  refine (dyin_any am k ck f ((n.mn : Int) - 1) _ HM1.out (by omega)).mono ?_
  rintro e w2 ⟨rfl, rfl⟩
  by_cases q3 : Dy.AllIn k f ((n.mn : Int) - 1)
  case neg =>
    rw [dB_ff q3]
    have HC : Hid (Dy.codeC n k f = 1) := Dy.codeC_form hk4 (fun x => q3 x.2.2)
    clear q3
    go_wp2_with fail
    have zr := dput4 HO1.out (.slice none 0 0) (.int .i64 0) (.int .i64 0) (.int .i64 0)
    have zb := dbel4 (g := w.heap.size + 1) HB1.out (by omega) (.slice none 0 0) (.int .i64 0) (.int .i64 0) (.int .i64 0)
    generalize (((w2.setCell ⟨w.heap.size + 1, 0, none⟩ (.slice none 0 0)).setCell ⟨w.heap.size + 1, 1, none⟩ (.int .i64 0)).setCell ⟨w.heap.size + 1, 2, none⟩ (.int .i64 0)).setCell ⟨w.heap.size + 1, 3, none⟩ (.int .i64 0) = Z at zr zb ⊢
    obtain ⟨⟨c0, c1, c2, c3⟩, _⟩ := rowN4 zr
    exact bodyPost_ret (v := .tuple #[doV none 0 0 0 0 0, errV ⟨#[97, 32, 100, 97, 121, 32, 97, 110, 100, 32, 105, 116, 115, 32, 109, 111, 100, 101, 115]⟩ 1]) (by simp only [results, Tryd.results22]; simp [go_sem, c0, c1, c2, c3]) rfl ⟨Or.inl ⟨by rw [HC.out]; simp, _, rfl, by rw [HC.out]; exact errIs_one _ _⟩, zb⟩
  rw [dB_tt q3]
  have HF : Hid (Dy.FormC n k f) := ⟨HRT.out, HKW.out, q3⟩
  have hk1 : 1 ≤ k := by have := HRT.out.1.w1; have := HKW.out; omega
  clear q3 p0 p1 p2 p3 p4 p5 o0 o1 o2 o3 z0 z1 z2 z3 hol q2'
  obtain ⟨bm, e, _⟩ := HM1.out.at1 (i := 0) (by omega)
  subst e
  go_wp2_with fail
  go_cut [6] (fun p V => ∃ gb g c, p = .pointer (some ⟨gb, 0, none⟩) ∧ Hid (DcS n k f w2 gb g c 0 V))
  case first =>
    refine wp_region_held_drew (S := fun V => Below w2.heap.size w2 V) (by kernel_rfl) (Below.refl _ _).drew (fun hHeld => ?_)
    obtain ⟨Z, hZ⟩ : ∃ Z, Z = w2.drew := ⟨_, rfl⟩
    rw [← hZ] at hHeld ⊢
    clear hZ
    refine take_do (i := 0) (v := (.slice (some ⟨bm, 0, none⟩) k ck)) rfl (by kernel_rfl) (by kernel_rfl) (by kernel_rfl) (fun _ _ _ h => h) (by rfl) ?_ (by assumption) ?_
    · intro w hSw
      skip
      go_simp
    simp only [Act.put, List.setIfInBounds_toArray, List.set_cons_zero, List.set_cons_succ]
    refine take_do (i := 2) (v := (.pointer (some ⟨w.heap.size, 3, none⟩))) rfl (by kernel_rfl) (by kernel_rfl) (by kernel_rfl) (fun _ _ _ h => h) (by rfl) ?_ (by assumption) ?_
    · intro w hSw
      skip
      go_simp
    simp only [Act.put, List.setIfInBounds_toArray, List.set_cons_zero, List.set_cons_succ]
    refine take_do (i := 3) (v := (.int .i64 n.tank)) rfl (by kernel_rfl) (by kernel_rfl) (by kernel_rfl) (fun _ _ _ h => h) (by rfl) ?_ (by assumption) ?_
    · intro w hSw
      obtain ⟨⟨p0, p1, p2, p3, p4, p5⟩, _⟩ := rowN6 (nrow_below HR1.out hSw)
      go_simp
    simp only [Act.put, List.setIfInBounds_toArray, List.set_cons_zero, List.set_cons_succ]
    refine wpAnyH_ready (rs := [1, 5]) (by kernel_rfl) (by simp) (AllReadyH.cons (at_drop (i := 1) rfl) (fun K2 hK => ?_) (AllReadyH.cons (at_drop (i := 5) rfl) (fun K2 hK => ?_) (AllReadyH.nil)))
    · go_simp
      refine (dyclone_any bm k ck f _ (fun i hi => by obtain ⟨b, e, c⟩ := (HM1.out.below hHeld).at1 hi; cases e; exact c) (by omega) hk1).mono ?_
      rintro e Z1 ⟨⟨g, c, rfl, hg, hk2⟩, hb⟩
      have HK2 := Lib.hid hk2
      have HG2 : Hid (w2.heap.size ≤ g) := Nat.le_trans hHeld.size hg
      go_wp2_with fail
      refine hK.out _ _ (hHeld.trans (hb.mono hHeld.size)) (fun hHeld2 => ?_)
      clear hK hHeld
      have hHeld := hHeld2
      clear hHeld2
      clear hb hk2 hg
      refine take_do (i := 4) (v := (doV (some ⟨g, 0, none⟩) k c 0 n.tank 0)) rfl (by kernel_rfl) (by kernel_rfl) (by kernel_rfl) (fun _ _ _ h => h) (by rfl) ?_ (by assumption) ?_
      · intro w hSw
        skip
        go_simp
      simp only [Act.put, List.setIfInBounds_toArray, List.set_cons_zero, List.set_cons_succ]
      refine take_call (i := 5) rfl (by kernel_rfl) (fun K2 hK => ?_)
      obtain ⟨Z2, hZ2⟩ : ∃ Z2, Z2 = Z1.alloc (.cells #[.slice none 0 0, .int .i64 0, .int .i64 0, .int .i64 0] 28) := ⟨_, rfl⟩
      have hb : Below Z1.heap.size Z1 Z2 := by rw [hZ2]; exact nbel_alloc _ _
      obtain ⟨gb, hgb⟩ : ∃ gb, gb = Z1.heap.size := ⟨_, rfl⟩
      have RZ : Hid (Z2.rowIs gb 28 4 (rowN (doL none 0 0 0 0 0))) := by show World.rowIs _ _ _ _ _; rw [hZ2, hgb]; exact rowN_alloc _ _ _
      have HGB : Hid (w2.heap.size ≤ gb) := by show _ ≤ _; rw [hgb]; exact hHeld.size
      have HNE : Hid (g ≠ gb) := by have := HK2.out.lt; show g ≠ gb; omega
      replace HK2 := Lib.hid (HK2.out.below hb)
      go_simp
      rw [← hZ2, ← hgb]
      refine hK.out _ _ (hHeld.trans (hb.mono hHeld.size)) (fun hHeld2 => ?_)
      clear hK hHeld
      have hHeld := hHeld2
      clear hHeld2
      clear hb hZ2 hgb
      obtain ⟨⟨o0, o1, o2, o3⟩, z0, z1, z2, z3⟩ := rowN4 RZ.out
      have l0 := RZ.out.lt
      obtain ⟨WZ, hWZ⟩ : ∃ WZ, WZ = (((Z2.setCell ⟨gb, 0, none⟩ (.slice (some ⟨g, 0, none⟩) k c)).setCell ⟨gb, 1, none⟩ (.int .i64 0)).setCell ⟨gb, 2, none⟩ (.int .i64 n.tank)).setCell ⟨gb, 3, none⟩ (.int .i64 0) := ⟨_, rfl⟩
      have hbZ : Below w2.heap.size w2 WZ := by rw [hWZ]; exact dbel4 hHeld HGB.out _ _ _ _
      have HFM : Hid (DcS n k f w2 gb g c 0 WZ) := by
        refine ⟨?_, ?_, hbZ, HGB.out, HG2.out, HNE.out⟩
        · rw [hWZ]; exact dput4 RZ.out _ _ _ _
        · rw [hWZ]; exact HK2.out.block (dblk4 _ HNE.out _ _ _ _)
      have HWZ := Lib.hid hWZ
      have HBZ := Lib.hid hbZ
      clear hWZ hbZ
      refine take_call (i := 6) rfl (by kernel_rfl) (fun K2 hK => ?_)
      go_simp
      rw [← HWZ.out]
      refine hK.out _ _ HBZ.out (fun hHeld2 => ?_)
      clear hK hHeld hHeld2 HWZ o0 o1 o2 o3 z0 z1 z2 z3 l0
      refine wpAnyH_done (by kernel_rfl) ?_ _
      go_wp2_with fail
      go_meet
      case rel => exact ⟨gb, g, c, rfl, HFM⟩
    · obtain ⟨Z1, hZ1⟩ : ∃ Z1, Z1 = Z.alloc (.cells #[.slice none 0 0, .int .i64 0, .int .i64 0, .int .i64 0] 28) := ⟨_, rfl⟩
      have hb : Below Z.heap.size Z Z1 := by rw [hZ1]; exact nbel_alloc _ _
      obtain ⟨gb, hgb⟩ : ∃ gb, gb = Z.heap.size := ⟨_, rfl⟩
      have RZ : Hid (Z1.rowIs gb 28 4 (rowN (doL none 0 0 0 0 0))) := by show World.rowIs _ _ _ _ _; rw [hZ1, hgb]; exact rowN_alloc _ _ _
      have HGB : Hid (w2.heap.size ≤ gb) := by show _ ≤ _; rw [hgb]; exact hHeld.size
      go_simp
      rw [← hZ1, ← hgb]
      refine hK.out _ _ (hHeld.trans (hb.mono hHeld.size)) (fun hHeld2 => ?_)
      clear hK hHeld
      have hHeld := hHeld2
      clear hHeld2
      clear hb hZ1 hgb
      refine take_call (i := 1) rfl (by kernel_rfl) (fun K2 hK => ?_)
      go_simp
      refine (dyclone_any bm k ck f _ (fun i hi => by obtain ⟨b, e, c⟩ := (HM1.out.below hHeld).at1 hi; cases e; exact c) (by omega) hk1).mono ?_
      rintro e Z2 ⟨⟨g, c, rfl, hg, hk2⟩, hb⟩
      have HK2 := Lib.hid hk2
      have HG2 : Hid (w2.heap.size ≤ g) := Nat.le_trans hHeld.size hg
      have HNE : Hid (g ≠ gb) := by have := RZ.out.lt; show g ≠ gb; omega
      replace RZ := Lib.hid (nrow_below RZ.out hb)
      go_wp2_with fail
      refine hK.out _ _ (hHeld.trans (hb.mono hHeld.size)) (fun hHeld2 => ?_)
      clear hK hHeld
      have hHeld := hHeld2
      clear hHeld2
      clear hb hk2 hg
      refine take_do (i := 4) (v := (doV (some ⟨g, 0, none⟩) k c 0 n.tank 0)) rfl (by kernel_rfl) (by kernel_rfl) (by kernel_rfl) (fun _ _ _ h => h) (by rfl) ?_ (by assumption) ?_
      · intro w hSw
        skip
        go_simp
      simp only [Act.put, List.setIfInBounds_toArray, List.set_cons_zero, List.set_cons_succ]
      obtain ⟨⟨o0, o1, o2, o3⟩, z0, z1, z2, z3⟩ := rowN4 RZ.out
      have l0 := RZ.out.lt
      obtain ⟨WZ, hWZ⟩ : ∃ WZ, WZ = (((Z2.setCell ⟨gb, 0, none⟩ (.slice (some ⟨g, 0, none⟩) k c)).setCell ⟨gb, 1, none⟩ (.int .i64 0)).setCell ⟨gb, 2, none⟩ (.int .i64 n.tank)).setCell ⟨gb, 3, none⟩ (.int .i64 0) := ⟨_, rfl⟩
      have hbZ : Below w2.heap.size w2 WZ := by rw [hWZ]; exact dbel4 hHeld HGB.out _ _ _ _
      have HFM : Hid (DcS n k f w2 gb g c 0 WZ) := by
        refine ⟨?_, ?_, hbZ, HGB.out, HG2.out, HNE.out⟩
        · rw [hWZ]; exact dput4 RZ.out _ _ _ _
        · rw [hWZ]; exact HK2.out.block (dblk4 _ HNE.out _ _ _ _)
      have HWZ := Lib.hid hWZ
      have HBZ := Lib.hid hbZ
      clear hWZ hbZ
      refine take_call (i := 6) rfl (by kernel_rfl) (fun K2 hK => ?_)
      go_simp
      rw [← HWZ.out]
      refine hK.out _ _ HBZ.out (fun hHeld2 => ?_)
      clear hK hHeld hHeld2 HWZ o0 o1 o2 o3 z0 z1 z2 z3 l0
      refine wpAnyH_done (by kernel_rfl) ?_ _
      go_wp2_with fail
      go_meet
      case rel => exact ⟨gb, g, c, rfl, HFM⟩
  case rest =>
  obtain ⟨gb, g, c, rfl, HS0⟩ := hcut
  go_wp2_with fail
  go_loopw [51] (fun iv wr => ∃ (i : Nat), i ≤ k ∧ iv = .int .i64 i ∧ Hid (DcS n k f w2 gb g c i wr) ∧ Hid (∀ j, j < i → Dy.Fits n (Dy.endA n f (j + 1)))) (fun iv _ => k - (intOf iv).toNat)
  case atStart => exact ⟨0, Nat.zero_le _, rfl, HS0, fun j hj => absurd hj (Nat.not_lt_zero _)⟩
  case round =>
    obtain ⟨i, hi, rfl, hS, hP⟩ := hrel
    clear HS0
    by_cases hlt : i < k
    · have hltz : (i : Int) < (k : Int) := by omega
      obtain ⟨m, hfm, hmn, hmo⟩ := HF.out.mode hlt
      obtain ⟨b, e, c0⟩ := (HM1.out.below hS.out.old).at1 hlt
      cases e
      rw [hfm] at c0
      have HFM := Lib.hid hfm
      have HMO := Lib.hid hmo
      obtain ⟨⟨p0, p1, p2, p3, p4, p5⟩, _⟩ := rowN6 (nrow_below HR1.out hS.out.old)
      obtain ⟨⟨o0, o1, o2, o3⟩, z0, z1, z2, z3⟩ := rowN4 hS.out.row
      have HIW : Hid (i < n.wn) := by have := HKW.out; show i < n.wn; omega
      have HX : Hid (0 ≤ Dy.endA n f i ∧ Dy.endA n f i ≤ 300) := by
        have t := HRT.out.2.2
        by_cases e : i = 0
        · subst e; exact ⟨Int.le_trans t.1 t.2.1, Int.le_trans t.2.2.1 t.2.2.2⟩
        · have := hP.out (i - 1) (by omega)
          rw [show i - 1 + 1 = i by omega] at this
          exact ⟨Int.le_trans t.1 this.1, Int.le_trans this.2 t.2.2.2⟩
      clear hfm hmo
      go_wp2_with fail
      refine (behind_any n la lk fa fk wa wk i m _ _ (H1.out.below hS.out.old) HRT.out HIW.out hmn HX.out).mono ?_
      rintro e w3 ⟨rfl, hb⟩
      have HS3 := Lib.hid (hS.out.below hb)
      clear hb hS p0 p1 p2 p3 p4 p5 o0 o1 o2 o3 z0 z1 z2 z3 c0
      have HEN : Hid (Dy.endA n f (i + 1) = Dy.endA n f i + (n.M (m * 2) - n.W i)) := by
        show Dy.endA n f i + (n.M ((f i).toNat * 2) - n.W i) = _
        rw [HFM.out, Int.toNat_natCast]
      rw [← HEN.out]
      by_cases qf : Dy.Fits n (Dy.endA n f (i + 1))
      case neg =>
        rw [dB_ff qf]
        have HC : Hid (Dy.codeC n k f = 6) := Dy.codeC_short hk4 HF.out (fun x => qf (x i hlt))
        clear qf
        go_wp2_with fail
        refine (itoaS_any i (by omega) _ (tab_below HT1.out HS3.out.old)).mono ?_
        rintro e w4 ⟨⟨si, rfl, hsi⟩, hb4⟩
        have HS4 := Lib.hid (HS3.out.below hb4)
        have HO4 := Lib.hid (nrow_below HO1.out HS4.out.old)
        have HB4 : Hid (Below w.heap.size w w4) := HB1.out.trans (HS4.out.old.mono HB1.out.size)
        clear hb4 HS3 HS4
        obtain ⟨⟨o0, o1, o2, o3⟩, z0, z1, z2, z3⟩ := rowN4 HO4.out
        have hol := HO4.out.lt
        go_wp2_with fail
        have zr := dput4 HO4.out (.slice none 0 0) (.int .i64 0) (.int .i64 0) (.int .i64 0)
        have zb := dbel4 (g := w.heap.size + 1) HB4.out (by omega) (.slice none 0 0) (.int .i64 0) (.int .i64 0) (.int .i64 0)
        generalize (((w4.setCell ⟨w.heap.size + 1, 0, none⟩ (.slice none 0 0)).setCell ⟨w.heap.size + 1, 1, none⟩ (.int .i64 0)).setCell ⟨w.heap.size + 1, 2, none⟩ (.int .i64 0)).setCell ⟨w.heap.size + 1, 3, none⟩ (.int .i64 0) = Z at zr zb ⊢
        obtain ⟨⟨c0, c1, c2, c3⟩, _⟩ := rowN4 zr
        exact bodyPost_ret (v := .tuple #[doV none 0 0 0 0 0, errV ((⟨#[116, 104, 101, 32, 116, 97, 110, 107, 32, 98, 101, 104, 105, 110, 100, 32, 115, 108, 111, 116, 32]⟩ : ByteArray) ++ si) 6]) (by simp only [results, Tryd.results22]; simp [go_sem, c0, c1, c2, c3]) rfl ⟨Or.inl ⟨by rw [HC.out]; simp, _, rfl, by rw [HC.out]; exact errIs_one _ _⟩, zb⟩
      rw [dB_tt qf]
      have HQF := Lib.hid qf
      clear qf
      obtain ⟨y, hy⟩ : ∃ y, y = Dy.endA n f (i + 1) := ⟨_, rfl⟩
      rw [← hy]
      have HY := Lib.hid hy
      clear hy
      obtain ⟨⟨o0, o1, o2, o3⟩, z0, z1, z2, z3⟩ := rowN4 HS3.out.row
      have hol := HS3.out.row.lt
      obtain ⟨W4, hW4⟩ : ∃ W4, W4 = w3.setCell ⟨gb, 2, none⟩ (.int .i64 y) := ⟨_, rfl⟩
      have HW4 := Lib.hid hW4
      have HR4 : Hid (W4.rowIs gb 28 4 (rowN (doL (some ⟨g, 0, none⟩) k c (Dy.costA n f i) y 0))) := by show World.rowIs _ _ _ _ _; rw [hW4]; exact rowN_put HS3.out.row 2 _ (by simp)
      have HK4 : Hid (IsBlk 2 g k f W4) := by show IsBlk _ _ _ _ _; rw [hW4]; exact HS3.out.own.block (Below.heap_setCell _ _ _ _ HS3.out.lo.2.2)
      have HB4 : Hid (Below w2.heap.size w2 W4) := by show Below _ _ _; rw [hW4]; exact HS3.out.old.setCell (p := ⟨gb, 2, none⟩) HS3.out.lo.1 _
      have HLO := Lib.hid HS3.out.lo
      clear hW4 HS3
      go_wp2_with fail
      rw [← HW4.out]
      clear HW4 o0 o1 o2 o3 z0 z1 z2 z3 hol
      obtain ⟨C, hC⟩ : ∃ C, C = Dy.costA n f i := ⟨_, rfl⟩
      obtain ⟨X, hX⟩ : ∃ X, X = n.M (m * 2 + 1) * n.P i := ⟨_, rfl⟩
      have HCB : Hid (0 ≤ C ∧ C ≤ 400000000) := by
        have := Dy.cost_bd HF.out.1 (by have := HKW.out; omega) HF.out.2.2 i hi
        show 0 ≤ C ∧ C ≤ 400000000
        rw [hC]; omega
      have HXB : Hid (0 ≤ X ∧ X ≤ 1000000) := by
        have p1 := HMO.out.2
        have p2 := HRT.out.1.ps i (by have := HRT.out.1.p; have := HIW.out; omega)
        show 0 ≤ X ∧ X ≤ 1000000
        rw [hX]
        exact ⟨Int.mul_nonneg p1.1 p2.1, Int.le_trans (Int.mul_le_mul p1.2 p2.2 p2.1 (by omega)) (by omega)⟩
      have HCX : Hid (Dy.costA n f (i + 1) = C + X) := by
        show Dy.costA n f i + n.M ((f i).toNat * 2 + 1) * n.P i = _
        rw [HFM.out, Int.toNat_natCast, hC, hX]
      rw [← hC] at HR4
      have HXX := Lib.hid hX
      clear hC hX
      refine wp_region_held_drew (S := fun V => Below w2.heap.size w2 V) (by kernel_rfl) HB4.out.drew (fun hHeld => ?_)
      obtain ⟨Z, hZ⟩ : ∃ Z, Z = W4.drew := ⟨_, rfl⟩
      have RZ : Hid (Z.rowIs gb 28 4 (rowN (doL (some ⟨g, 0, none⟩) k c C y 0))) := by show World.rowIs _ _ _ _ _; rw [hZ]; exact nrow_below HR4.out (Below.refl _ _).drew
      have KZ : Hid (IsBlk 2 g k f Z) := by show IsBlk _ _ _ _ _; rw [hZ]; exact HK4.out.below (Below.refl _ _).drew
      rw [← hZ] at hHeld ⊢
      clear hZ HR4 HK4 HB4
      refine take_do (i := 0) (v := (.pointer (some ⟨gb, 1, none⟩))) rfl (by kernel_rfl) (by kernel_rfl) (by kernel_rfl) (fun _ _ _ h => h) (by rfl) ?_ (by assumption) ?_
      · intro w hSw
        skip
        go_simp
      simp only [Act.put, List.setIfInBounds_toArray, List.set_cons_zero, List.set_cons_succ]
      refine take_do (i := 2) (v := (dyV n la lk fa fk wa wk)) rfl (by kernel_rfl) (by kernel_rfl) (by kernel_rfl) (fun _ _ _ h => h) (by rfl) ?_ (by assumption) ?_
      · intro w hSw
        obtain ⟨⟨p0, p1, p2, p3, p4, p5⟩, _⟩ := rowN6 (nrow_below HR1.out hSw)
        go_simp
      simp only [Act.put, List.setIfInBounds_toArray, List.set_cons_zero, List.set_cons_succ]
      refine take_do (i := 3) (v := (.int .i64 i)) rfl (by kernel_rfl) (by kernel_rfl) (by kernel_rfl) (fun _ _ _ h => h) (by rfl) ?_ (by assumption) ?_
      · intro w hSw
        skip
        go_simp
      simp only [Act.put, List.setIfInBounds_toArray, List.set_cons_zero, List.set_cons_succ]
      refine take_do (i := 4) (v := (.int .i64 m)) rfl (by kernel_rfl) (by kernel_rfl) (by kernel_rfl) (fun _ _ _ h => h) (by rfl) ?_ (by assumption) ?_
      · intro w hSw
        skip
        go_simp
      simp only [Act.put, List.setIfInBounds_toArray, List.set_cons_zero, List.set_cons_succ]
      refine wpAnyH_ready (rs := [1, 5]) (by kernel_rfl) (by simp) (AllReadyH.cons (at_drop (i := 1) rfl) (fun K2 hK => ?_) (AllReadyH.cons (at_drop (i := 5) rfl) (fun K2 hK => ?_) (AllReadyH.nil)))
      · obtain ⟨⟨o0, o1, o2, o3⟩, _⟩ := rowN4 RZ.out
        go_simp
        refine hK.out _ _ hHeld (fun hHeld2 => ?_)
        clear hK hHeld
        have hHeld := hHeld2
        clear hHeld2
        clear o0 o1 o2 o3
        refine take_call (i := 5) rfl (by kernel_rfl) (fun K2 hK => ?_)
        go_simp
        refine (paid_any n la lk fa fk wa wk i m _ (H1.out.below hHeld) HRT.out HIW.out hmn).mono ?_
        rintro e Z1 ⟨rfl, hb⟩
        replace RZ := Lib.hid (nrow_below RZ.out hb)
        replace KZ := Lib.hid (KZ.out.below hb)
        rw [← HXX.out]
        go_wp2_with fail
        refine hK.out _ _ (hHeld.trans (hb.mono hHeld.size)) (fun hHeld2 => ?_)
        clear hK hHeld
        have hHeld := hHeld2
        clear hHeld2 hb
        have hcx := HCB.out
        have hxx := HXB.out
        refine take_do (i := 6) (v := (.int .i64 (C + X))) rfl (by kernel_rfl) (by kernel_rfl) (by kernel_rfl) (fun _ _ _ h => h) (by rfl) ?_ (by assumption) ?_
        · intro w hSw
          skip
          go_simp
          exact dywrap (by omega) (by omega)
        simp only [Act.put, List.setIfInBounds_toArray, List.set_cons_zero, List.set_cons_succ]
        refine take_do (i := 7) (v := (.pointer (some ⟨gb, 1, none⟩))) rfl (by kernel_rfl) (by kernel_rfl) (by kernel_rfl) (fun _ _ _ h => h) (by rfl) ?_ (by assumption) ?_
        · intro w hSw
          skip
          go_simp
        simp only [Act.put, List.setIfInBounds_toArray, List.set_cons_zero, List.set_cons_succ]
        clear hcx hxx
        obtain ⟨⟨o0, o1, o2, o3⟩, z0, z1, z2, z3⟩ := rowN4 RZ.out
        have l0 := RZ.out.lt
        obtain ⟨WZ, hWZ⟩ : ∃ WZ, WZ = Z1.setCell ⟨gb, 1, none⟩ (.int .i64 (C + X)) := ⟨_, rfl⟩
        have hbZ : Below w2.heap.size w2 WZ := by rw [hWZ]; exact hHeld.setCell (p := ⟨gb, 1, none⟩) HLO.out.1 _
        have HFN : Hid (DcS n k f w2 gb g c (i + 1) WZ) := by
          refine ⟨?_, ?_, hbZ, HLO.out⟩
          · rw [HCX.out, ← HY.out, hWZ]; exact rowN_put RZ.out 1 _ (by simp)
          · rw [hWZ]; exact KZ.out.block (Below.heap_setCell _ _ _ _ HLO.out.2.2)
        have HWZ := Lib.hid hWZ
        have HBZ := Lib.hid hbZ
        clear hWZ hbZ
        refine take_call (i := 8) rfl (by kernel_rfl) (fun K2 hK => ?_)
        go_simp
        rw [← HWZ.out]
        refine hK.out _ _ HBZ.out (fun hHeld2 => ?_)
        clear hK hHeld hHeld2 HWZ o0 o1 o2 o3 z0 z1 z2 z3 l0
        refine wpAnyH_done (by kernel_rfl) ?_ _
        go_wp2_with fail
        go_roundw
        case rel =>
          refine ⟨i + 1, by omega, by go_num, HFN, fun j hj => ?_⟩
          by_cases ej : j = i
          · subst ej; exact HQF.out
          · exact hP.out j (by omega)
        case measure => simp [intOf]; omega
      · go_simp
        refine (paid_any n la lk fa fk wa wk i m _ (H1.out.below hHeld) HRT.out HIW.out hmn).mono ?_
        rintro e Z1 ⟨rfl, hb⟩
        replace RZ := Lib.hid (nrow_below RZ.out hb)
        replace KZ := Lib.hid (KZ.out.below hb)
        rw [← HXX.out]
        go_wp2_with fail
        refine hK.out _ _ (hHeld.trans (hb.mono hHeld.size)) (fun hHeld2 => ?_)
        clear hK hHeld
        have hHeld := hHeld2
        clear hHeld2 hb
        refine take_call (i := 1) rfl (by kernel_rfl) (fun K2 hK => ?_)
        obtain ⟨⟨o0, o1, o2, o3⟩, _⟩ := rowN4 RZ.out
        go_simp
        refine hK.out _ _ hHeld (fun hHeld2 => ?_)
        clear hK hHeld
        have hHeld := hHeld2
        clear hHeld2
        clear o0 o1 o2 o3
        have hcx := HCB.out
        have hxx := HXB.out
        refine take_do (i := 6) (v := (.int .i64 (C + X))) rfl (by kernel_rfl) (by kernel_rfl) (by kernel_rfl) (fun _ _ _ h => h) (by rfl) ?_ (by assumption) ?_
        · intro w hSw
          skip
          go_simp
          exact dywrap (by omega) (by omega)
        simp only [Act.put, List.setIfInBounds_toArray, List.set_cons_zero, List.set_cons_succ]
        refine take_do (i := 7) (v := (.pointer (some ⟨gb, 1, none⟩))) rfl (by kernel_rfl) (by kernel_rfl) (by kernel_rfl) (fun _ _ _ h => h) (by rfl) ?_ (by assumption) ?_
        · intro w hSw
          skip
          go_simp
        simp only [Act.put, List.setIfInBounds_toArray, List.set_cons_zero, List.set_cons_succ]
        clear hcx hxx
        obtain ⟨⟨o0, o1, o2, o3⟩, z0, z1, z2, z3⟩ := rowN4 RZ.out
        have l0 := RZ.out.lt
        obtain ⟨WZ, hWZ⟩ : ∃ WZ, WZ = Z1.setCell ⟨gb, 1, none⟩ (.int .i64 (C + X)) := ⟨_, rfl⟩
        have hbZ : Below w2.heap.size w2 WZ := by rw [hWZ]; exact hHeld.setCell (p := ⟨gb, 1, none⟩) HLO.out.1 _
        have HFN : Hid (DcS n k f w2 gb g c (i + 1) WZ) := by
          refine ⟨?_, ?_, hbZ, HLO.out⟩
          · rw [HCX.out, ← HY.out, hWZ]; exact rowN_put RZ.out 1 _ (by simp)
          · rw [hWZ]; exact KZ.out.block (Below.heap_setCell _ _ _ _ HLO.out.2.2)
        have HWZ := Lib.hid hWZ
        have HBZ := Lib.hid hbZ
        clear hWZ hbZ
        refine take_call (i := 8) rfl (by kernel_rfl) (fun K2 hK => ?_)
        go_simp
        rw [← HWZ.out]
        refine hK.out _ _ HBZ.out (fun hHeld2 => ?_)
        clear hK hHeld hHeld2 HWZ o0 o1 o2 o3 z0 z1 z2 z3 l0
        refine wpAnyH_done (by kernel_rfl) ?_ _
        go_wp2_with fail
        go_roundw
        case rel =>
          refine ⟨i + 1, by omega, by go_num, HFN, fun j hj => ?_⟩
          by_cases ej : j = i
          · subst ej; exact HQF.out
          · exact hP.out j (by omega)
        case measure => simp [intOf]; omega
    · obtain rfl : i = k := by omega
      have HC : Hid (Dy.codeC n i f = 0) := Dy.codeC_ok hk4 HF.out hP.out
      have HO4 := Lib.hid (nrow_below HO1.out hS.out.old)
      have HB4 : Hid (Below w.heap.size w wr) := HB1.out.trans (hS.out.old.mono HB1.out.size)
      obtain ⟨⟨p0, p1, p2, p3⟩, _⟩ := rowN4 hS.out.row
      obtain ⟨⟨o0, o1, o2, o3⟩, z0, z1, z2, z3⟩ := rowN4 HO4.out
      have hol := HO4.out.lt
      have HKK := Lib.hid hS.out.own
      have HGG : Hid (w.heap.size ≤ g ∧ g ≠ w.heap.size + 1) := by
        have h1 := hS.out.lo.2.1
        have h2 := HB1.out.size
        have h3 := HO1.out.lt
        exact ⟨by omega, by omega⟩
      clear hS
      go_wp2_with fail
      have zr := dput4 HO4.out (.slice (some ⟨g, 0, none⟩) i c) (.int .i64 (Dy.costA n f i)) (.int .i64 (Dy.endA n f i)) (.int .i64 0)
      have zb := dbel4 (g := w.heap.size + 1) HB4.out (by omega) (.slice (some ⟨g, 0, none⟩) i c) (.int .i64 (Dy.costA n f i)) (.int .i64 (Dy.endA n f i)) (.int .i64 0)
      have zk : IsBlk 2 g i f _ := HKK.out.block (dblk4 wr HGG.out.2 (.slice (some ⟨g, 0, none⟩) i c) (.int .i64 (Dy.costA n f i)) (.int .i64 (Dy.endA n f i)) (.int .i64 0))
      generalize (((wr.setCell ⟨w.heap.size + 1, 0, none⟩ (.slice (some ⟨g, 0, none⟩) i c)).setCell ⟨w.heap.size + 1, 1, none⟩ (.int .i64 (Dy.costA n f i))).setCell ⟨w.heap.size + 1, 2, none⟩ (.int .i64 (Dy.endA n f i))).setCell ⟨w.heap.size + 1, 3, none⟩ (.int .i64 0) = Z at zr zb zk ⊢
      obtain ⟨⟨c0, c1, c2, c3⟩, _⟩ := rowN4 zr
      exact bodyPost_ret (v := .tuple #[doV (some ⟨g, 0, none⟩) i c (Dy.costA n f i) (Dy.endA n f i) 0, .nilIface]) (by simp only [results, Tryd.results22]; simp [go_sem, c0, c1, c2, c3]) rfl ⟨Or.inr ⟨HC.out, hk1, by omega, g, c, rfl, HGG.out.1, zk⟩, zb⟩
end Go.Proofs.YtmfokilpfbcicaaDoor
