/-
  The program's DayCost.
-/
import Derived.Test.YtmfokilpfbcicaaDoorDyC2
namespace Go.Proofs.YtmfokilpfbcicaaDoor
open Go.RowKit Go.Deep

set_option maxRecDepth 100000 in
set_option maxHeartbeats 8000000 in
theorem implCost_any (n : Dy.Day) (la : Option Addr) (lk : Nat) (fa : Option Addr) (fk : Nat) (wa : Option Addr) (wk : Nat) (am : Option Addr) (k ck : Nat) (f : Nat → Int) (w : World) (h : DyAt n la fa wa w) (hs : DySmall n) (hm : IsAt am k f w) (hk : k ≤ 1048576) (hg : Et w ∧ TabOk w) :
    Calls Tryd.prog 8 #[dyV n la lk fa fk wa wk, .slice am k ck] w fun e w' => DcEnd w.heap.size n k f e w' ∧ Below w.heap.size w w' := by
  obtain ⟨W, hW⟩ : ∃ W, W = (w.alloc (.cells #[.slice la n.mn lk, .slice fa n.wn fk, .slice wa n.pn wk, .int .i64 n.tank, .int .i64 n.low, .int .i64 n.high] 32)).alloc (.cells #[.slice none 0 0, .int .i64 0, .int .i64 0, .int .i64 0] 28) := ⟨_, rfl⟩
  have HB : Hid (Below w.heap.size w W) := by show Below _ _ _; rw [hW]; exact (nbel_alloc _ _).alloc (by simp) _
  have HR : Hid (W.rowIs w.heap.size 32 6 (rowN (dyL n la lk fa fk wa wk))) := by show W.rowIs _ _ _ _; rw [hW]; exact nrow_below (rowN_alloc w _ _) (nbel_alloc _ _)
  have HO : Hid (W.rowIs (w.heap.size + 1) 28 4 (rowN (doL none 0 0 0 0 0))) := by show W.rowIs _ _ _ _; rw [hW]; exact rowN_alloc' (by simp) _ _
  have HW := Lib.hid hW
  have H := Lib.hid (h.below HB.out)
  have HM := Lib.hid (hm.below HB.out)
  have HT := Lib.hid (tab_below hg.2 HB.out)
  have HET := Lib.hid (hg.1.below HB.out)
  have HS := Lib.hid hs
  clear hW h hm hg hs
  go_enter Tryd.func8, Tryd.ntmps8
  go_wp2_with fail
  rw [← HW.out]
  clear HW
  refine (dayCost_any n la lk fa fk wa wk am k ck f _ H.out HS.out HM.out hk HT.out).mono ?_
  rintro e w2 ⟨hru, hb⟩
  have HO2 := Lib.hid (nrow_below HO.out hb)
  have HB2 : Hid (Below w.heap.size w w2) := HB.out.trans (hb.mono HB.out.size)
  have HET2 := Lib.hid (HET.out.below hb)
  have HSZ : Hid (w.heap.size + 1 < W.heap.size) := HO.out.lt
  clear hb
  obtain ⟨cd, hcd⟩ : ∃ cd, cd = Dy.codeC n k f := ⟨_, rfl⟩
  unfold DdEnd at hru
  rw [← hcd] at hru
  have HCD := Lib.hid hcd
  clear hcd
  rcases hru with ⟨hc, ev, rfl, hev⟩ | ⟨hc, hk1, hk4, g, c, rfl, hgw, hbk⟩
  · have HC := Lib.hid hc
    have HEV := Lib.hid hev
    clear hc hev
    go_wp2_with fail
    refine (tellDay_bad none 0 0 0 0 0 ev _ _ HEV.out HET2.out).mono ?_
    rintro e w3 ⟨rfl, hb⟩
    have HO3 := Lib.hid (nrow_below HO2.out hb)
    have HB3 : Hid (Below w.heap.size w w3) := HB2.out.trans (hb.mono HB2.out.size)
    clear hb
    obtain ⟨⟨o0, o1, o2, o3⟩, z0, z1, z2, z3⟩ := rowN4 HO3.out
    have hol := HO3.out.lt
    go_wp2_with fail
    have zr := dput4 HO3.out (.slice none 0 0) (.int .i64 (0)) (.int .i64 (0)) (.int .i64 (cd))
    have zb := dbel4 (g := w.heap.size + 1) HB3.out (by omega) (.slice none 0 0) (.int .i64 (0)) (.int .i64 (0)) (.int .i64 (cd))
    generalize (((w3.setCell ⟨w.heap.size + 1, 0, none⟩ (.slice none 0 0)).setCell ⟨w.heap.size + 1, 1, none⟩ (.int .i64 (0))).setCell ⟨w.heap.size + 1, 2, none⟩ (.int .i64 (0))).setCell ⟨w.heap.size + 1, 3, none⟩ (.int .i64 (cd)) = Z at zr zb ⊢
    obtain ⟨⟨c0, c1, c2, c3⟩, _⟩ := rowN4 zr
    exact bodyPost_ret (v := .agg #[.slice none 0 0, .int .i64 (0), .int .i64 (0), .int .i64 (cd)]) (by simp only [results, Tryd.results8]; simp [go_sem, c0, c1, c2, c3]) rfl ⟨Or.inl ⟨by rw [← HCD.out]; exact HC.out, by rw [← HCD.out]⟩, zb⟩
  · have HBK := Lib.hid hbk
    have HGG : Hid (w.heap.size ≤ g ∧ g ≠ w.heap.size + 1) := by have := HSZ.out; exact ⟨by omega, by omega⟩
    have HC0 : Hid (Dy.codeC n k f = 0) := by show _ = _; rw [← HCD.out, hc]
    clear hbk hc hgw
    obtain ⟨X, hX⟩ : ∃ X, X = Dy.costA n f k := ⟨_, rfl⟩
    obtain ⟨Y, hY⟩ : ∃ Y, Y = Dy.endA n f k := ⟨_, rfl⟩
    rw [← hX, ← hY]
    have HXX := Lib.hid hX
    have HYY := Lib.hid hY
    clear hX hY
    go_wp2_with fail
    refine (tellDay_ok (some ⟨g, 0, none⟩) k c X Y 0 _).mono ?_
    rintro e w3 ⟨rfl, hb⟩
    have HO3 := Lib.hid (nrow_below HO2.out hb)
    have HB3 : Hid (Below w.heap.size w w3) := HB2.out.trans (hb.mono HB2.out.size)
    have HK3 := Lib.hid (HBK.out.below hb)
    clear hb
    obtain ⟨⟨o0, o1, o2, o3⟩, z0, z1, z2, z3⟩ := rowN4 HO3.out
    have hol := HO3.out.lt
    go_wp2_with fail
    have zr := dput4 HO3.out (.slice (some ⟨g, 0, none⟩) k c) (.int .i64 (X)) (.int .i64 (Y)) (.int .i64 (0))
    have zb := dbel4 (g := w.heap.size + 1) HB3.out (by omega) (.slice (some ⟨g, 0, none⟩) k c) (.int .i64 (X)) (.int .i64 (Y)) (.int .i64 (0))
    have zk : IsBlk 2 g k f _ := HK3.out.block (dblk4 w3 HGG.out.2 (.slice (some ⟨g, 0, none⟩) k c) (.int .i64 (X)) (.int .i64 (Y)) (.int .i64 (0)))
    generalize (((w3.setCell ⟨w.heap.size + 1, 0, none⟩ (.slice (some ⟨g, 0, none⟩) k c)).setCell ⟨w.heap.size + 1, 1, none⟩ (.int .i64 (X))).setCell ⟨w.heap.size + 1, 2, none⟩ (.int .i64 (Y))).setCell ⟨w.heap.size + 1, 3, none⟩ (.int .i64 (0)) = Z at zr zb zk ⊢
    obtain ⟨⟨c0, c1, c2, c3⟩, _⟩ := rowN4 zr
    exact bodyPost_ret (v := .agg #[.slice (some ⟨g, 0, none⟩) k c, .int .i64 (X), .int .i64 (Y), .int .i64 (0)]) (by simp only [results, Tryd.results8]; simp [go_sem, c0, c1, c2, c3]) rfl ⟨Or.inr ⟨HC0.out, hk1, hk4, g, c, by rw [HXX.out, HYY.out], HGG.out.1, zk⟩, zb⟩
end Go.Proofs.YtmfokilpfbcicaaDoor
