/-
  What the program tells of a day's cost or of why not.
-/
import Derived.Test.YtmfokilpfbcicaaDoorDyC1
import Derived.Test.YtmfokilpfbcicaaDoorWkErr
import Derived.Test.YtmfokilpfbcicaaDoorTbTab
namespace Go.Proofs.YtmfokilpfbcicaaDoor
open Go.RowKit Go.Deep

set_option maxRecDepth 100000 in
set_option maxHeartbeats 4000000 in
theorem tellDay_ok (a : Option Addr) (k d : Nat) (x y c : Int) (w : World) :
    Calls Tryd.prog 21 #[doV a k d x y c, .nilIface] w fun e w' => e = .returned (doV a k d x y c) ∧ Below w.heap.size w w' := by
  obtain ⟨W, hW⟩ : ∃ W, W = (w.alloc (.cells #[.slice a k d, .int .i64 x, .int .i64 y, .int .i64 c] 28)).alloc (.cells #[.slice none 0 0, .int .i64 0, .int .i64 0, .int .i64 0] 28) := ⟨_, rfl⟩
  have HB : Hid (Below w.heap.size w W) := by show Below _ _ _; rw [hW]; exact (nbel_alloc _ _).alloc (by simp) _
  have HR : Hid (W.rowIs w.heap.size 28 4 (rowN (doL a k d x y c))) := by show W.rowIs _ _ _ _; rw [hW]; exact nrow_below (rowN_alloc w _ _) (nbel_alloc _ _)
  have HO : Hid (W.rowIs (w.heap.size + 1) 28 4 (rowN (doL none 0 0 0 0 0))) := by show W.rowIs _ _ _ _; rw [hW]; exact rowN_alloc' (by simp) _ _
  obtain ⟨⟨x0, x1, x2, x3⟩, _⟩ := rowN4 HR.out
  obtain ⟨⟨o0, o1, o2, o3⟩, z0, z1, z2, z3⟩ := rowN4 HO.out
  have hol := HO.out.lt
  rw [hW] at x0 x1 x2 x3 o0 o1 o2 o3 z0 z1 z2 z3 hol
  have HW := Lib.hid hW
  clear hW
  go_enter Tryd.func21, Tryd.ntmps21
  go_wp2_with fail
  exact bodyPost_ret (v := doV a k d x y c) (by simp only [results, Tryd.results21]; simp [go_sem]) rfl ⟨rfl, (nbel_alloc _ _).alloc (by simp) _⟩
set_option maxRecDepth 100000 in
set_option maxHeartbeats 4000000 in
theorem tellDay_bad (a : Option Addr) (k d : Nat) (x y c : Int) (ev : Value) (c' : Int) (w : World) (he : ErrIs ev c') (hg : Et w) :
    Calls Tryd.prog 21 #[doV a k d x y c, ev] w fun e w' => e = .returned (doV none 0 0 0 0 c') ∧ Below w.heap.size w w' := by
  obtain ⟨yy, rfl, hy⟩ := he
  obtain ⟨W, hW⟩ : ∃ W, W = (w.alloc (.cells #[.slice a k d, .int .i64 x, .int .i64 y, .int .i64 c] 28)).alloc (.cells #[.slice none 0 0, .int .i64 0, .int .i64 0, .int .i64 0] 28) := ⟨_, rfl⟩
  have HB : Hid (Below w.heap.size w W) := by show Below _ _ _; rw [hW]; exact (nbel_alloc _ _).alloc (by simp) _
  have HO : Hid (W.rowIs (w.heap.size + 1) 28 4 (rowN (doL none 0 0 0 0 0))) := by show W.rowIs _ _ _ _; rw [hW]; exact rowN_alloc' (by simp) _ _
  have HW := Lib.hid hW
  have HET := Lib.hid (hg.below HB.out)
  have HY := Lib.hid hy
  clear hW hg hy
  go_enter Tryd.func21, Tryd.ntmps21
  go_wp2_with fail
  rw [← HW.out]
  clear HW
  refine (codeOf_any yy c' HY.out _ HET.out).mono ?_
  rintro e w1 ⟨rfl, hb⟩
  have HO1 := Lib.hid (nrow_below HO.out hb)
  have HB1 : Hid (Below w.heap.size w w1) := HB.out.trans (hb.mono HB.out.size)
  clear hb HO HB
  obtain ⟨⟨o0, o1, o2, o3⟩, z0, z1, z2, z3⟩ := rowN4 HO1.out
  have hol := HO1.out.lt
  go_wp2_with fail
  have zr := dput4 HO1.out (.slice none 0 0) (.int .i64 0) (.int .i64 0) (.int .i64 c')
  have zb := dbel4 (g := w.heap.size + 1) HB1.out (by omega) (.slice none 0 0) (.int .i64 0) (.int .i64 0) (.int .i64 c')
  generalize (((w1.setCell ⟨w.heap.size + 1, 0, none⟩ (.slice none 0 0)).setCell ⟨w.heap.size + 1, 1, none⟩ (.int .i64 0)).setCell ⟨w.heap.size + 1, 2, none⟩ (.int .i64 0)).setCell ⟨w.heap.size + 1, 3, none⟩ (.int .i64 c') = Z at zr zb ⊢
  obtain ⟨⟨c0, c1, c2, c3⟩, _⟩ := rowN4 zr
  exact bodyPost_ret (v := doV none 0 0 0 0 c') (by simp only [results, Tryd.results21]; simp [go_sem, c0, c1, c2, c3]) rfl ⟨rfl, zb⟩
end Go.Proofs.YtmfokilpfbcicaaDoor
