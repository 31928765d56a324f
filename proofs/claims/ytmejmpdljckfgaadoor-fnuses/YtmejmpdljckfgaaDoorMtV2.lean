/-
  The program's MeterRun.
-/
import Derived.Test.YtmejmpdljckfgaaDoorMtV1
namespace Go.Proofs.YtmejmpdljckfgaaDoor
open Go.RowKit Go.Deep

def Mt.runC (n : Nat) : Int := if 60 < n then 2 else 1
theorem Mt.runC_big {n : Nat} (h : 60 < n) : Mt.runC n = 2 := by unfold Mt.runC; rw [if_pos h]
theorem Mt.runC_no {n : Nat} (h : ¬ 60 < n) : Mt.runC n = 1 := by unfold Mt.runC; rw [if_neg h]
set_option maxRecDepth 100000 in
set_option maxHeartbeats 8000000 in
theorem implMRun_any (m : Mt.M) (la : Option Addr) (n cap : Nat) (R : Nat → Int) (w : World) (h : IsAt la (n * 2) R w) (hn : n ≤ 1048576) (hg : Et w ∧ TabOk w) :
    Calls Tryd.prog 8 #[mtV m, .slice la n cap] w fun e w' => MuEnd w.heap.size (n ≤ 60 ∧ Mt.RunOk m R n) (Mt.runC n) (Mt.mAt m R n) n (Mt.use m R) e w' ∧ Below w.heap.size w w' := by
  obtain ⟨W, hW⟩ : ∃ W, W = (w.alloc (.cells #[.int .i64 m.d, .int .i64 m.u, .int .i64 m.day, .int .i64 m.s] 24)).alloc (.cells #[.int .i64 0, .int .i64 0, .int .i64 0, .int .i64 0, .slice none 0 0, .int .i64 0] 30) := ⟨_, rfl⟩
  have HM : Hid (W.rowIs w.heap.size 24 4 (rowN (mtL m))) := by show World.rowIs _ _ _ _ _; rw [hW]; exact nrow_below (rowN_alloc w _ _) (nbel_alloc _ _)
  have HO : Hid (W.rowIs (w.heap.size + 1) 30 6 (rowN (muL Mt.none none 0 0 0))) := by show World.rowIs _ _ _ _ _; rw [hW]; exact rowN_alloc' (by simp) _ _
  have HB : Hid (Below w.heap.size w W) := by show Below _ _ _; rw [hW]; exact (nbel_alloc _ _).alloc (by simp) _
  have HW := Lib.hid hW
  have H := Lib.hid (h.below HB.out)
  have HT := Lib.hid (tab_below hg.2 HB.out)
  have HE := Lib.hid (hg.1.below HB.out)
  clear hW h hg
  by_cases hbig : (60 : Int) < (n : Int)
  · have HNO : Hid (¬ (n ≤ 60 ∧ Mt.RunOk m R n)) := fun h => by have := h.1; omega
    have HC : Hid (Mt.runC n = 2) := Mt.runC_big (by omega)
    go_enter Tryd.func8, Tryd.ntmps8
    go_wp2_with fail
    rw [← HW.out]
    clear HW
    refine (tellMt_bad Mt.none none 0 0 0 _ 2 _ (AsF.one _ _) HE.out).mono ?_
    rintro e w2 ⟨rfl, hb⟩
    have HO2 := Lib.hid (nrow_below HO.out hb)
    have HB2 : Hid (Below w.heap.size w w2) := HB.out.trans (hb.mono HB.out.size)
    clear hb HO HB HM
    obtain ⟨⟨o0, o1, o2, o3, o4, o5⟩, z0, z1, z2, z3, z4, z5⟩ := rowN6 HO2.out
    obtain ⟨Z, hZ⟩ : ∃ Z, Z = ((((((w2).setCell ⟨w.heap.size + 1, 0, none⟩ (.int .i64 Mt.none.d)).setCell ⟨w.heap.size + 1, 1, none⟩ (.int .i64 Mt.none.u)).setCell ⟨w.heap.size + 1, 2, none⟩ (.int .i64 Mt.none.day)).setCell ⟨w.heap.size + 1, 3, none⟩ (.int .i64 Mt.none.s)).setCell ⟨w.heap.size + 1, 4, none⟩ (.slice none 0 0)).setCell ⟨w.heap.size + 1, 5, none⟩ (.int .i64 2) := ⟨_, rfl⟩
    have HZR : Hid (Z.rowIs (w.heap.size + 1) 30 6 (rowN (muL Mt.none none 0 0 2))) := by show Z.rowIs _ _ _ _; rw [hZ]; exact mput6 HO2.out rfl (.int .i64 Mt.none.d) (.int .i64 Mt.none.u) (.int .i64 Mt.none.day) (.int .i64 Mt.none.s) (.slice none 0 0) (.int .i64 2)
    have HZB : Hid (Below w.heap.size w Z) := by show Below _ _ _; rw [hZ]; exact mbel6 (g := w.heap.size + 1) HB2.out (by omega) (.int .i64 Mt.none.d) (.int .i64 Mt.none.u) (.int .i64 Mt.none.day) (.int .i64 Mt.none.s) (.slice none 0 0) (.int .i64 2)
    have HZ := Lib.hid hZ
    clear hZ
    go_wp2_with fail
    rw [← HZ.out]
    obtain ⟨⟨p0, p1, p2, p3, p4, p5⟩, _⟩ := rowN6 HZR.out
    exact bodyPost_ret (v := muV Mt.none none 0 0 2) (by simp only [results, Tryd.results8]; simp [go_sem, p0, p1, p2, p3, p4, p5, Mt.none]) rfl ⟨Or.inl ⟨HNO.out, by rw [HC.out]⟩, HZB.out⟩
  have HN6 : Hid (n ≤ 60) := by show n ≤ 60; omega
  have HC : Hid (Mt.runC n = 1) := Mt.runC_no (by omega)
  go_enter Tryd.func8, Tryd.ntmps8
  go_wp2_with fail
  rw [← HW.out]
  clear HW
  refine (runMt_any m la n cap R _ H.out HN6.out HT.out).mono ?_
  rintro e w1 ⟨he, hb⟩
  have HO1 := Lib.hid (nrow_below HO.out hb)
  have HB1 : Hid (Below w.heap.size w w1) := HB.out.trans (hb.mono HB.out.size)
  have HE1 := Lib.hid (HE.out.below hb)
  have HS1 : Hid (w.heap.size ≤ W.heap.size) := HB.out.size
  clear hb HO HB HM HE
  rcases he with ⟨hk, y, rfl, hy⟩ | ⟨hk, a, c, rfl, hown⟩
  · have HNO : Hid (¬ (n ≤ 60 ∧ Mt.RunOk m R n)) := fun h => hk h.2
    have HY := Lib.hid hy
    clear hk hy
    go_wp2_with fail
    refine (tellMt_bad Mt.none none 0 0 0 y 1 _ HY.out HE1.out).mono ?_
    rintro e w2 ⟨rfl, hb⟩
    have HO2 := Lib.hid (nrow_below HO1.out hb)
    have HB2 : Hid (Below w.heap.size w w2) := HB1.out.trans (hb.mono HB1.out.size)
    clear hb HO1 HB1
    obtain ⟨⟨o0, o1, o2, o3, o4, o5⟩, z0, z1, z2, z3, z4, z5⟩ := rowN6 HO2.out
    obtain ⟨Z, hZ⟩ : ∃ Z, Z = ((((((w2).setCell ⟨w.heap.size + 1, 0, none⟩ (.int .i64 Mt.none.d)).setCell ⟨w.heap.size + 1, 1, none⟩ (.int .i64 Mt.none.u)).setCell ⟨w.heap.size + 1, 2, none⟩ (.int .i64 Mt.none.day)).setCell ⟨w.heap.size + 1, 3, none⟩ (.int .i64 Mt.none.s)).setCell ⟨w.heap.size + 1, 4, none⟩ (.slice none 0 0)).setCell ⟨w.heap.size + 1, 5, none⟩ (.int .i64 1) := ⟨_, rfl⟩
    have HZR : Hid (Z.rowIs (w.heap.size + 1) 30 6 (rowN (muL Mt.none none 0 0 1))) := by show Z.rowIs _ _ _ _; rw [hZ]; exact mput6 HO2.out rfl (.int .i64 Mt.none.d) (.int .i64 Mt.none.u) (.int .i64 Mt.none.day) (.int .i64 Mt.none.s) (.slice none 0 0) (.int .i64 1)
    have HZB : Hid (Below w.heap.size w Z) := by show Below _ _ _; rw [hZ]; exact mbel6 (g := w.heap.size + 1) HB2.out (by omega) (.int .i64 Mt.none.d) (.int .i64 Mt.none.u) (.int .i64 Mt.none.day) (.int .i64 Mt.none.s) (.slice none 0 0) (.int .i64 1)
    have HZ := Lib.hid hZ
    clear hZ
    go_wp2_with fail
    rw [← HZ.out]
    obtain ⟨⟨p0, p1, p2, p3, p4, p5⟩, _⟩ := rowN6 HZR.out
    exact bodyPost_ret (v := muV Mt.none none 0 0 1) (by simp only [results, Tryd.results8]; simp [go_sem, p0, p1, p2, p3, p4, p5, Mt.none]) rfl ⟨Or.inl ⟨HNO.out, by rw [HC.out]⟩, HZB.out⟩
  · have HK : Hid (n ≤ 60 ∧ Mt.RunOk m R n) := ⟨HN6.out, hk⟩
    have HOW := Lib.hid (hown.low HS1.out)
    obtain ⟨X, hX⟩ : ∃ X, X = Mt.mAt m R n := ⟨_, rfl⟩
    rw [← hX]
    have HX := Lib.hid hX
    clear hk hown hX
    go_wp2_with fail
    refine (tellMt_ok X a n c 0 _).mono ?_
    rintro e w2 ⟨rfl, hb⟩
    have HO2 := Lib.hid (nrow_below HO1.out hb)
    have HB2 : Hid (Below w.heap.size w w2) := HB1.out.trans (hb.mono HB1.out.size)
    have HG2 := Lib.hid (HOW.out.below hb)
    clear hb HO1 HB1 HOW
    obtain ⟨⟨o0, o1, o2, o3, o4, o5⟩, z0, z1, z2, z3, z4, z5⟩ := rowN6 HO2.out
    obtain ⟨Z, hZ⟩ : ∃ Z, Z = ((((((w2).setCell ⟨w.heap.size + 1, 0, none⟩ (.int .i64 X.d)).setCell ⟨w.heap.size + 1, 1, none⟩ (.int .i64 X.u)).setCell ⟨w.heap.size + 1, 2, none⟩ (.int .i64 X.day)).setCell ⟨w.heap.size + 1, 3, none⟩ (.int .i64 X.s)).setCell ⟨w.heap.size + 1, 4, none⟩ (.slice a n c)).setCell ⟨w.heap.size + 1, 5, none⟩ (.int .i64 0) := ⟨_, rfl⟩
    have HZR : Hid (Z.rowIs (w.heap.size + 1) 30 6 (rowN (muL X a n c 0))) := by show Z.rowIs _ _ _ _; rw [hZ]; exact mput6 HO2.out rfl (.int .i64 X.d) (.int .i64 X.u) (.int .i64 X.day) (.int .i64 X.s) (.slice a n c) (.int .i64 0)
    have HZB : Hid (Below w.heap.size w Z) := by show Below _ _ _; rw [hZ]; exact mbel6 (g := w.heap.size + 1) HB2.out (by omega) (.int .i64 X.d) (.int .i64 X.u) (.int .i64 X.day) (.int .i64 X.s) (.slice a n c) (.int .i64 0)
    have HZG : Hid (UsOwn w.heap.size n a c (Mt.use m R) Z) := by
      show UsOwn _ _ _ _ _ _
      rw [hZ]
      exact HG2.out.same (fun k e _ => mblk6 (HG2.out.ne HO2.out e) (.int .i64 X.d) (.int .i64 X.u) (.int .i64 X.day) (.int .i64 X.s) (.slice a n c) (.int .i64 0))
    have HZ := Lib.hid hZ
    clear hZ
    go_wp2_with fail
    rw [← HZ.out]
    obtain ⟨⟨p0, p1, p2, p3, p4, p5⟩, _⟩ := rowN6 HZR.out
    exact bodyPost_ret (v := muV X a n c 0) (by simp only [results, Tryd.results8]; simp [go_sem, p0, p1, p2, p3, p4, p5]) rfl ⟨Or.inr ⟨HK.out, a, c, by rw [HX.out], HZG.out⟩, HZB.out⟩
end Go.Proofs.YtmejmpdljckfgaaDoor
