/-
  The program's DistrictBook and the model's.
-/
import Derived.Test.YtdpghhmcibiplaaDoorLkD2
namespace Go.Proofs.YtdpghhmcibiplaaDoor
open Go.RowKit Go.Deep

namespace Di
theorem bad_zero {d : D} (h : code d ≠ 0) : lostA d = 0 ∧ worstA d = 0 := by unfold lostA worstA; rw [if_neg h, if_neg h]; exact ⟨rfl, rfl⟩
theorem ok_zero {d : D} (h : code d = 0) : lostA d = sum d d.n ∧ worstA d = (worst d d.n).1 := by unfold lostA worstA; rw [if_pos h, if_pos h]; exact ⟨rfl, rfl⟩
end Di
set_option maxRecDepth 100000 in
set_option maxHeartbeats 2000000 in
theorem tellDi_err (er : Value) (k : Int) (w : World) (he : ErrIs er k) (hg : Et w) :
    Calls Tryd.prog 96 #[doV 0 0 0, er] w fun e w' => e = .returned (doV 0 0 k) ∧ Below w.heap.size w w' := by
  obtain ⟨y, rfl, hy⟩ := he
  obtain ⟨W, hW⟩ : ∃ W, W = (w.alloc (.cells #[.int .i64 0, .int .i64 0, .int .i64 0] 83)).alloc (.cells #[.int .i64 0, .int .i64 0, .int .i64 0] 83) := ⟨_, rfl⟩
  have HB : Hid (Below w.heap.size w W) := by show Below _ _ _; rw [hW]; exact (nbel_alloc _ _).alloc (by simp) _
  have HR : Hid (W.rowIs (w.heap.size + 1) 83 3 (rowN (doL 0 0 0))) := by show World.rowIs _ _ _ _ _; rw [hW]; exact rowN_alloc' (by simp) (doL 0 0 0) _
  have HW := Lib.hid hW
  have HG := Lib.hid hg
  have HY := Lib.hid hy
  clear hW hg hy
  go_enter Tryd.func96, Tryd.ntmps96
  go_wp2_with fail
  rw [← HW.out]
  clear HW
  refine (codeOf_any y k HY.out _ (HG.out.below HB.out)).mono ?_
  rintro e w1 ⟨rfl, hb⟩
  replace HR := Lib.hid (nrow_below HR.out hb)
  replace HB : Hid (Below w.heap.size w w1) := HB.out.trans (hb.mono HB.out.size)
  clear hb
  obtain ⟨⟨o0, o1, o2⟩, z0, z1, z2⟩ := rowN3 HR.out
  have l0 := HR.out.lt
  go_wp2_with fail
  exact bodyPost_ret (v := doV 0 0 k) (by simp [results, Tryd.results96, go_sem, o0, o1, o2]) rfl ⟨rfl, nbelow_set3 HB.out (by omega) _ _ _⟩
set_option maxHeartbeats 2000000 in
theorem tellDi_ok (x y : Int) (w : World) :
    Calls Tryd.prog 96 #[doV x y 0, .nilIface] w fun e w' => e = .returned (doV x y 0) ∧ Below w.heap.size w w' := by
  go_enter Tryd.func96, Tryd.ntmps96
  go_wp2_with fail
  exact bodyPost_ret (v := doV x y 0) (by simp [results, Tryd.results96, go_sem]) rfl ⟨rfl, (nbel_alloc _ _).alloc (by simp) _⟩
set_option maxRecDepth 100000 in
set_option maxHeartbeats 4000000 in
theorem iDistrict_any (a : Option Addr) (ka : Nat) (b : Option Addr) (kb : Nat) (c : Option Addr) (kc : Nat) (d : Di.D) (w : World) (h : DiAt a b c d w) (u1 : d.n ≤ 1048576) (u2 : d.m ≤ 1048576) (u3 : d.q ≤ 1048576) (hg : Et w) :
    Calls Tryd.prog 53 #[diV a d.n ka b d.m kb c d.q kc] w fun e w' => e = .returned (doV (Di.lostA d) (Di.worstA d) (Di.code d)) ∧ Below w.heap.size w w' := by
  obtain ⟨W, hW⟩ : ∃ W, W = (w.alloc (.cells #[.slice a d.n ka, .slice b d.m kb, .slice c d.q kc] 85)).alloc (.cells #[.int .i64 0, .int .i64 0, .int .i64 0] 83) := ⟨_, rfl⟩
  have HB : Hid (Below w.heap.size w W) := by show Below _ _ _; rw [hW]; exact (nbel_alloc _ _).alloc (by simp) _
  have HR : Hid (W.rowIs (w.heap.size + 1) 83 3 (rowN (doL 0 0 0))) := by show World.rowIs _ _ _ _ _; rw [hW]; exact rowN_alloc' (by simp) (doL 0 0 0) _
  have HW := Lib.hid hW
  have HG := Lib.hid hg
  have H := Lib.hid h
  clear hW hg h
  go_enter Tryd.func53, Tryd.ntmps53
  go_wp2_with fail
  rw [← HW.out]
  clear HW
  refine (book_any a ka b kb c kc d _ (H.out.below HB.out) u1 u2 u3).mono ?_
  rintro e w1 ⟨hE, hb⟩
  replace HR := Lib.hid (nrow_below HR.out hb)
  replace HB : Hid (Below w.heap.size w w1) := HB.out.trans (hb.mono HB.out.size)
  clear hb
  rcases hE with ⟨hc, rfl⟩ | ⟨hc, er, hE, rfl⟩
  · go_wp2_with fail
    refine (tellDi_ok _ _ _).mono ?_
    rintro e w2 ⟨rfl, hb⟩
    replace HR := Lib.hid (nrow_below HR.out hb)
    replace HB : Hid (Below w.heap.size w w2) := HB.out.trans (hb.mono HB.out.size)
    clear hb
    have HC := Lib.hid hc
    clear hc
    obtain ⟨⟨o0, o1, o2⟩, z0, z1, z2⟩ := rowN3 HR.out
    have l0 := HR.out.lt
    go_wp2_with fail
    exact bodyPost_ret (v := doV (Di.lostA d) (Di.worstA d) 0) (by simp [results, Tryd.results53, go_sem, o0, o1, o2]) rfl ⟨by rw [HC.out], nbelow_set3 HB.out (by omega) _ _ _⟩
  · have HZ := Lib.hid (Di.bad_zero hc)
    obtain ⟨y, rfl, hy⟩ := hE
    have HY : Hid (ErrIs (.iface 101 y) (Di.code d)) := ⟨y, rfl, hy⟩
    clear hc hy
    go_wp2_with fail
    refine (tellDi_err _ _ _ HY.out (HG.out.below HB.out)).mono ?_
    rintro e w2 ⟨rfl, hb⟩
    replace HR := Lib.hid (nrow_below HR.out hb)
    replace HB : Hid (Below w.heap.size w w2) := HB.out.trans (hb.mono HB.out.size)
    clear hb
    obtain ⟨⟨o0, o1, o2⟩, z0, z1, z2⟩ := rowN3 HR.out
    have l0 := HR.out.lt
    go_wp2_with fail
    exact bodyPost_ret (v := doV 0 0 (Di.code d)) (by simp [results, Tryd.results53, go_sem, o0, o1, o2]) rfl ⟨by rw [HZ.out.1, HZ.out.2], nbelow_set3 HB.out (by omega) _ _ _⟩
end Go.Proofs.YtdpghhmcibiplaaDoor
