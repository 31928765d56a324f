/-
  The laws' conversions, comparisons and marks of days.
-/
import Derived.Test.YtmfokilpfbcicaaDoorDyEx1
import Derived.Test.YtmfokilpfbcicaaDoorDyMem
namespace Go.Proofs.YtmfokilpfbcicaaDoor
open Go.RowKit Go.Deep

theorem dyhs (w : World) (p g : Nat) (hp : g ≠ p) (i : Nat) (a : Value) : (w.setCell ⟨p, i, none⟩ a).heap[g]? = w.heap[g]? := Below.heap_setCell _ _ _ _ hp
set_option maxRecDepth 100000 in
set_option maxHeartbeats 8000000 in
theorem toDay_any (n : Dy.Day) (la : Option Addr) (lk : Nat) (fa : Option Addr) (fk : Nat) (wa : Option Addr) (wk : Nat) (w : World) (h : DyIn n la fa wa w) (hs : DySmall n) :
    Calls Tryd.prog 6 #[dyV n la lk fa fk wa wk] w fun e w' => (∃ gl gf gw, e = .returned (dyV n (some ⟨gl, 0, none⟩) n.mn (some ⟨gf, 0, none⟩) n.wn (some ⟨gw, 0, none⟩) n.pn) ∧ DyBlk n w.heap.size gl gf gw w') ∧ Below w.heap.size w w' := by
  obtain ⟨W, hW⟩ : ∃ W, W = ((w.alloc (.cells #[.slice la n.mn lk, .slice fa n.wn fk, .slice wa n.pn wk, .int .i64 n.tank, .int .i64 n.low, .int .i64 n.high] 25)).alloc (.cells #[.slice none 0 0, .slice none 0 0, .slice none 0 0, .int .i64 0, .int .i64 0, .int .i64 0] 32)).alloc (.cells #[.slice none 0 0, .slice none 0 0, .slice none 0 0, .int .i64 0, .int .i64 0, .int .i64 0] 32) := ⟨_, rfl⟩
  have hsz : W.heap.size = w.heap.size + 3 := by rw [hW]; simp
  have hB : Below w.heap.size w W := by rw [hW]; exact (((Below.refl _ _).alloc (Nat.le_refl _) _).alloc (by simp) _).alloc (by simp; omega) _
  have RA : W.rowIs w.heap.size 25 6 (rowN (dyL n la lk fa fk wa wk)) := by
    rw [hW]; exact nrow_below (nrow_below (rowN_alloc w _ _) (nbel_alloc _ _)) (nbel_alloc _ _)
  have RO : W.rowIs (w.heap.size + 1) 32 6 (rowN [.slice none 0 0, .slice none 0 0, .slice none 0 0, .int .i64 0, .int .i64 0, .int .i64 0]) := by
    rw [hW]; exact nrow_below (rowN_alloc' (by simp) _ _) (nbel_alloc _ _)
  have RP : W.rowIs (w.heap.size + 1 + 1) 32 6 (rowN [.slice none 0 0, .slice none 0 0, .slice none 0 0, .int .i64 0, .int .i64 0, .int .i64 0]) := by
    rw [hW]; exact rowN_alloc' (by simp) _ _
  have HW := Lib.hid hW
  have HB := Lib.hid hB
  have H := Lib.hid h
  have HS := Lib.hid hs
  have HRA := Lib.hid RA
  have HRO := Lib.hid RO
  have HRP := Lib.hid RP
  have HSZ := Lib.hid hsz
  clear hW hB h hs RA RO RP hsz
  go_enter Tryd.func6, Tryd.ntmps6
  go_wp2_with fail
  rw [← HW.out]
  refine (ntoModeS_any la n.mn lk n.M _ (H.out.l.below HB.out) HS.out.1).mono ?_
  rintro e w1 ⟨⟨rfl, hk1⟩, hb1⟩
  have RA1 := nrow_below HRA.out hb1
  have RO1 := nrow_below HRO.out hb1
  have RP1 := nrow_below HRP.out hb1
  have HB1 : Hid (Below w.heap.size w w1) := HB.out.trans (hb1.mono HB.out.size)
  have HK1 := Lib.hid hk1
  obtain ⟨⟨a0, a1, a2, a3, a4, a5⟩, _⟩ := rowN6 RA1
  obtain ⟨⟨p0, p1, p2, p3, p4, p5⟩, z0, z1, z2, z3, z4, z5⟩ := rowN6 RP1
  have hl1 : w.heap.size + 1 + 1 < w1.heap.size := RP1.lt
  obtain ⟨W2, hW2⟩ : ∃ W2, W2 = w1.setCell ⟨w.heap.size + 1 + 1, 0, none⟩ (.slice (some ⟨W.heap.size, 0, none⟩) n.mn n.mn) := ⟨_, rfl⟩
  have HW2 := Lib.hid hW2
  have HRA2 : Hid (W2.rowIs w.heap.size 25 6 (rowN (dyL n la lk fa fk wa wk))) := by
    show W2.rowIs _ _ _ _
    rw [hW2]; exact nrow_set RA1 (p := ⟨w.heap.size + 1 + 1, 0, none⟩) (by show w.heap.size ≠ w.heap.size + 1 + 1; omega) _
  have HRO2 : Hid (W2.rowIs (w.heap.size + 1) 32 6 (rowN [.slice none 0 0, .slice none 0 0, .slice none 0 0, .int .i64 0, .int .i64 0, .int .i64 0])) := by
    show W2.rowIs _ _ _ _
    rw [hW2]; exact nrow_set RO1 (p := ⟨w.heap.size + 1 + 1, 0, none⟩) (by show w.heap.size + 1 ≠ w.heap.size + 1 + 1; omega) _
  have HRP2 : Hid (W2.rowIs (w.heap.size + 1 + 1) 32 6 (rowN [.slice (some ⟨W.heap.size, 0, none⟩) n.mn n.mn, .slice none 0 0, .slice none 0 0, .int .i64 0, .int .i64 0, .int .i64 0])) := by
    show W2.rowIs _ _ _ _
    rw [hW2]; exact rowN_put RP1 0 _ (by simp)
  have HB2 : Hid (Below w.heap.size w W2) := by
    show Below _ _ _
    rw [hW2]; exact HB1.out.setCell (p := ⟨w.heap.size + 1 + 1, 0, none⟩) (by show w.heap.size ≤ w.heap.size + 1 + 1; omega) _
  have HK2 : Hid (IsBlk 46 W.heap.size (n.mn * 2) n.M W2) := by
    show IsBlk _ _ _ _ _
    rw [hW2]; exact HK1.out.block (dyhs _ _ _ (by have := HSZ.out; omega) _ _)
  clear hW2 RA1 RO1 RP1 hb1 hk1 HK1 HB1
  go_wp2_with fail
  rw [← HW2.out]
  refine (ntoInt64S_any fa n.wn fk n.W _ (H.out.f.below HB2.out) HS.out.2.1).mono ?_
  rintro e w2 ⟨⟨rfl, hk2⟩, hb2⟩
  clear a0 a1 a2 a3 a4 a5 p0 p1 p2 p3 p4 p5 z0 z1 z2 z3 z4 z5 hl1
  have RA1 := nrow_below HRA2.out hb2
  have RO1 := nrow_below HRO2.out hb2
  have RP1 := nrow_below HRP2.out hb2
  have HB3 : Hid (Below w.heap.size w w2) := HB2.out.trans (hb2.mono HB2.out.size)
  have HKA : Hid (IsBlk 46 W.heap.size (n.mn * 2) n.M w2) := HK2.out.below hb2
  have HKB := Lib.hid hk2
  have HLW : Hid (W.heap.size < W2.heap.size) := HK2.out.lt
  obtain ⟨⟨a0, a1, a2, a3, a4, a5⟩, _⟩ := rowN6 RA1
  obtain ⟨⟨p0, p1, p2, p3, p4, p5⟩, z0, z1, z2, z3, z4, z5⟩ := rowN6 RP1
  have hl1 : w.heap.size + 1 + 1 < w2.heap.size := RP1.lt
  obtain ⟨W3, hW3⟩ : ∃ W3, W3 = w2.setCell ⟨w.heap.size + 1 + 1, 1, none⟩ (.slice (some ⟨W2.heap.size, 0, none⟩) n.wn n.wn) := ⟨_, rfl⟩
  have HW3 := Lib.hid hW3
  have HRA3 : Hid (W3.rowIs w.heap.size 25 6 (rowN (dyL n la lk fa fk wa wk))) := by
    show W3.rowIs _ _ _ _
    rw [hW3]; exact nrow_set RA1 (p := ⟨w.heap.size + 1 + 1, 1, none⟩) (by show w.heap.size ≠ w.heap.size + 1 + 1; omega) _
  have HRO3 : Hid (W3.rowIs (w.heap.size + 1) 32 6 (rowN [.slice none 0 0, .slice none 0 0, .slice none 0 0, .int .i64 0, .int .i64 0, .int .i64 0])) := by
    show W3.rowIs _ _ _ _
    rw [hW3]; exact nrow_set RO1 (p := ⟨w.heap.size + 1 + 1, 1, none⟩) (by show w.heap.size + 1 ≠ w.heap.size + 1 + 1; omega) _
  have HRP3 : Hid (W3.rowIs (w.heap.size + 1 + 1) 32 6 (rowN [.slice (some ⟨W.heap.size, 0, none⟩) n.mn n.mn, .slice (some ⟨W2.heap.size, 0, none⟩) n.wn n.wn, .slice none 0 0, .int .i64 0, .int .i64 0, .int .i64 0])) := by
    show W3.rowIs _ _ _ _
    rw [hW3]; exact rowN_put RP1 1 _ (by simp)
  have HB4 : Hid (Below w.heap.size w W3) := by
    show Below _ _ _
    rw [hW3]; exact HB3.out.setCell (p := ⟨w.heap.size + 1 + 1, 1, none⟩) (by show w.heap.size ≤ w.heap.size + 1 + 1; omega) _
  have HKA3 : Hid (IsBlk 46 W.heap.size (n.mn * 2) n.M W3) := by
    show IsBlk _ _ _ _ _
    rw [hW3]; exact HKA.out.block (dyhs _ _ _ (by have := HSZ.out; omega) _ _)
  have HKB3 : Hid (IsBlk 2 W2.heap.size (n.wn) n.W W3) := by
    show IsBlk _ _ _ _ _
    rw [hW3]; exact HKB.out.block (dyhs _ _ _ (by have := HSZ.out; have := HLW.out; omega) _ _)
  clear hW3 RA1 RO1 RP1 hb2 hk2 HK2 HB2 HKA HKB HB3 HRA2 HRO2 HRP2
  go_wp2_with fail
  rw [← HW3.out]
  refine (ntoInt64S_any wa n.pn wk n.P _ (H.out.w.below HB4.out) HS.out.2.2).mono ?_
  rintro e w3 ⟨⟨rfl, hk3⟩, hb3⟩
  clear a0 a1 a2 a3 a4 a5 p0 p1 p2 p3 p4 p5 z0 z1 z2 z3 z4 z5 hl1
  have RA1 := nrow_below HRA3.out hb3
  obtain ⟨⟨a0, a1, a2, a3, a4, a5⟩, _⟩ := rowN6 RA1
  have RO1 := nrow_below HRO3.out hb3
  have RP1 := nrow_below HRP3.out hb3
  have HB5 : Hid (Below w.heap.size w w3) := HB4.out.trans (hb3.mono HB4.out.size)
  have HKA5 := Lib.hid (HKA3.out.below hb3)
  have HKB5 := Lib.hid (HKB3.out.below hb3)
  have HKC5 := Lib.hid hk3
  have HLW2 : Hid (W2.heap.size < W3.heap.size) := HKB3.out.lt
  obtain ⟨⟨p0, p1, p2, p3, p4, p5⟩, z0, z1, z2, z3, z4, z5⟩ := rowN6 RP1
  obtain ⟨⟨o0, o1, o2, o3, o4, o5⟩, y0, y1, y2, y3, y4, y5⟩ := rowN6 RO1
  have hl2 : w.heap.size + 1 + 1 < w3.heap.size := RP1.lt
  have HRO5 := Lib.hid RO1
  clear RA1 RO1 RP1 hb3 hk3 HKA3 HKB3 HB4 HRA3 HRO3 HRP3
  go_wp2_with fail
  have s3 := HSZ.out
  have s4 := HLW.out
  have s5 := HLW2.out
  refine bodyPost_ret (v := dyV n (some ⟨W.heap.size, 0, none⟩) n.mn (some ⟨W2.heap.size, 0, none⟩) n.wn (some ⟨W3.heap.size, 0, none⟩) n.pn) ?_ rfl ⟨⟨_, _, _, rfl, ⟨HKA5.out.block ?_, HKB5.out.block ?_, HKC5.out.block ?_, ⟨by omega, by omega, by omega⟩, by omega, by omega, by omega⟩⟩, ?_⟩
  · obtain ⟨⟨x0, x1, x2, x3, x4, x5⟩, _⟩ := rowN6 (rowN_put (rowN_put (rowN_put (rowN_put (rowN_put (rowN_put (nrow_set (nrow_set (nrow_set (nrow_set HRO5.out (p := ⟨w.heap.size + 1 + 1, 2, none⟩) (by show w.heap.size + 1 ≠ w.heap.size + 1 + 1; omega) (.slice (some ⟨W3.heap.size, 0, none⟩) n.pn n.pn)) (p := ⟨w.heap.size + 1 + 1, 3, none⟩) (by show w.heap.size + 1 ≠ w.heap.size + 1 + 1; omega) (.int .i64 n.tank)) (p := ⟨w.heap.size + 1 + 1, 4, none⟩) (by show w.heap.size + 1 ≠ w.heap.size + 1 + 1; omega) (.int .i64 n.low)) (p := ⟨w.heap.size + 1 + 1, 5, none⟩) (by show w.heap.size + 1 ≠ w.heap.size + 1 + 1; omega) (.int .i64 n.high)) 0 (.slice (some ⟨W.heap.size, 0, none⟩) n.mn n.mn) (by simp)) 1 (.slice (some ⟨W2.heap.size, 0, none⟩) n.wn n.wn) (by simp)) 2 (.slice (some ⟨W3.heap.size, 0, none⟩) n.pn n.pn) (by simp)) 3 (.int .i64 n.tank) (by simp)) 4 (.int .i64 n.low) (by simp)) 5 (.int .i64 n.high) (by simp))
    simp only [results, Tryd.results6]
    simp [go_sem, x0, x1, x2, x3, x4, x5]
  · repeat rw [dyhs _ _ _ (by omega)]
  · repeat rw [dyhs _ _ _ (by omega)]
  · repeat rw [dyhs _ _ _ (by omega)]
  · exact ((((((((((HB5.out.setCell (p := ⟨w.heap.size + 1 + 1, 2, none⟩) (by show w.heap.size ≤ w.heap.size + 1 + 1; omega) _).setCell (p := ⟨w.heap.size + 1 + 1, 3, none⟩) (by show w.heap.size ≤ w.heap.size + 1 + 1; omega) _).setCell (p := ⟨w.heap.size + 1 + 1, 4, none⟩) (by show w.heap.size ≤ w.heap.size + 1 + 1; omega) _).setCell (p := ⟨w.heap.size + 1 + 1, 5, none⟩) (by show w.heap.size ≤ w.heap.size + 1 + 1; omega) _).setCell (p := ⟨w.heap.size + 1, 0, none⟩) (by show w.heap.size ≤ w.heap.size + 1; omega) _).setCell (p := ⟨w.heap.size + 1, 1, none⟩) (by show w.heap.size ≤ w.heap.size + 1; omega) _).setCell (p := ⟨w.heap.size + 1, 2, none⟩) (by show w.heap.size ≤ w.heap.size + 1; omega) _).setCell (p := ⟨w.heap.size + 1, 3, none⟩) (by show w.heap.size ≤ w.heap.size + 1; omega) _).setCell (p := ⟨w.heap.size + 1, 4, none⟩) (by show w.heap.size ≤ w.heap.size + 1; omega) _).setCell (p := ⟨w.heap.size + 1, 5, none⟩) (by show w.heap.size ≤ w.heap.size + 1; omega) _)
set_option maxRecDepth 100000 in
set_option maxHeartbeats 4000000 in
theorem eqDay_same (n : Dy.Day) (la fa wa la' fa' wa' : Option Addr) (lk fk wk lk' fk' wk' : Nat) (w : World) (h1 : DyAt n la fa wa w) (h2 : DyAt n la' fa' wa' w) (hs : DySmall n) :
    Calls Tryd.prog 10 #[dyV n la lk fa fk wa wk, dyV n la' lk' fa' fk' wa' wk'] w fun e w' => e = .returned (.bool true) ∧ Below w.heap.size w w' := by
  obtain ⟨W, hW⟩ : ∃ W, W = (w.alloc (.cells #[.slice la n.mn lk, .slice fa n.wn fk, .slice wa n.pn wk, .int .i64 n.tank, .int .i64 n.low, .int .i64 n.high] 32)).alloc (.cells #[.slice la' n.mn lk', .slice fa' n.wn fk', .slice wa' n.pn wk', .int .i64 n.tank, .int .i64 n.low, .int .i64 n.high] 32) := ⟨_, rfl⟩
  have hB : Below w.heap.size w W := by rw [hW]; exact ((Below.refl _ _).alloc (Nat.le_refl _) _).alloc (by simp) _
  have RA : W.rowIs w.heap.size 32 6 (rowN (dyL n la lk fa fk wa wk)) := by
    rw [hW]; exact nrow_below (rowN_alloc w _ _) (nbel_alloc _ _)
  have RO : W.rowIs (w.heap.size + 1) 32 6 (rowN (dyL n la' lk' fa' fk' wa' wk')) := by
    rw [hW]; exact rowN_alloc' (by simp) _ _
  have HW := Lib.hid hW
  have HB := Lib.hid hB
  have H1 := Lib.hid h1
  have H2 := Lib.hid h2
  have HS := Lib.hid hs
  have HRA := Lib.hid RA
  have HRO := Lib.hid RO
  clear hW hB h1 h2 hs RA RO
  go_enter Tryd.func10, Tryd.ntmps10
  go_wp2_with fail
  rw [← HW.out]
  refine (neqModeS_same la la' n.mn lk lk' n.M _ (H1.out.below HB.out).l (H2.out.below HB.out).l HS.out.1).mono ?_
  rintro e w1 ⟨rfl, hb1⟩
  obtain ⟨⟨x0, x1, x2, x3, x4, x5⟩, _⟩ := rowN6 (nrow_below HRA.out hb1)
  obtain ⟨⟨y0, y1, y2, y3, y4, y5⟩, _⟩ := rowN6 (nrow_below HRO.out hb1)
  have HB1 : Hid (Below w.heap.size w w1) := HB.out.trans (hb1.mono HB.out.size)
  have HRA1 := Lib.hid (nrow_below HRA.out hb1)
  have HRO1 := Lib.hid (nrow_below HRO.out hb1)
  clear hb1 HRA HRO
  go_wp2_with fail
  refine (neqInt64S_same fa fa' n.wn fk fk' n.W _ (H1.out.below HB1.out).f (H2.out.below HB1.out).f HS.out.2.1).mono ?_
  rintro e w2 ⟨rfl, hb2⟩
  clear x0 x1 x2 x3 x4 x5 y0 y1 y2 y3 y4 y5
  obtain ⟨⟨x0, x1, x2, x3, x4, x5⟩, _⟩ := rowN6 (nrow_below HRA1.out hb2)
  obtain ⟨⟨y0, y1, y2, y3, y4, y5⟩, _⟩ := rowN6 (nrow_below HRO1.out hb2)
  have HB2 : Hid (Below w.heap.size w w2) := HB1.out.trans (hb2.mono HB1.out.size)
  have HRA2 := Lib.hid (nrow_below HRA1.out hb2)
  have HRO2 := Lib.hid (nrow_below HRO1.out hb2)
  clear hb2
  go_wp2_with fail
  refine (neqInt64S_same wa wa' n.pn wk wk' n.P _ (H1.out.below HB2.out).w (H2.out.below HB2.out).w HS.out.2.2).mono ?_
  rintro e w3 ⟨rfl, hb3⟩
  have HB3 : Hid (Below w.heap.size w w3) := HB2.out.trans (hb3.mono HB2.out.size)
  clear x0 x1 x2 x3 x4 x5 y0 y1 y2 y3 y4 y5
  obtain ⟨⟨x0, x1, x2, x3, x4, x5⟩, _⟩ := rowN6 (nrow_below HRA2.out hb3)
  obtain ⟨⟨y0, y1, y2, y3, y4, y5⟩, _⟩ := rowN6 (nrow_below HRO2.out hb3)
  clear hb3
  go_wp2_with fail
  go_ret
  exact ⟨rfl, HB3.out⟩
/-- What is left: below nought, or all is small. -/
def DySz (n : Dy.Day) (e : Ending) : Prop := ∃ z : Int, e = .returned (.int .i64 z) ∧ (z < 0 ∨ ((0 ≤ z ∧ z ≤ 1048576) ∧ DySmall n))
set_option maxRecDepth 100000 in
set_option maxHeartbeats 2000000 in
theorem szDay_any (n : Dy.Day) (la : Option Addr) (lk : Nat) (fa : Option Addr) (fk : Nat) (wa : Option Addr) (wk : Nat) (w : World) (h1 : n.mn ≤ 9223372036854775807) (h2 : n.wn ≤ 9223372036854775807) (h3 : n.pn ≤ 9223372036854775807) :
    Calls Tryd.prog 4 #[dyV n la lk fa fk wa wk, .int .i64 1048576] w fun e w' => DySz n e ∧ Below w.heap.size w w' := by
  have hB := Lib.hid (nbel_alloc w (.cells #[.slice la n.mn lk, .slice fa n.wn fk, .slice wa n.pn wk, .int .i64 n.tank, .int .i64 n.low, .int .i64 n.high] 25))
  by_cases k1 : n.mn ≤ 1048576
  · have z1 : ¬ ((1048576 - n.mn : Nat) : Int) < 0 := by omega
    by_cases k2 : n.wn ≤ 1048576 - n.mn
    · have z2 : ¬ ((1048576 - n.mn - n.wn : Nat) : Int) < 0 := by omega
      by_cases k3 : n.pn ≤ 1048576 - n.mn - n.wn
      · have z3 : ¬ ((1048576 - n.mn - n.wn - n.pn : Nat) : Int) < 0 := by omega
        go_enter Tryd.func4, Tryd.ntmps4
        go_wp2_with fail
        refine (nszMode_in la n.mn lk 1048576 _ k1 (by omega)).mono ?_
        rintro e w1 ⟨rfl, rfl⟩
        go_wp2_with fail
        refine (nszInt64_in fa n.wn fk (1048576 - n.mn) _ k2 (by omega)).mono ?_
        rintro e w1 ⟨rfl, rfl⟩
        go_wp2_with fail
        refine (nszInt64_in wa n.pn wk (1048576 - n.mn - n.wn) _ k3 (by omega)).mono ?_
        rintro e w1 ⟨rfl, rfl⟩
        go_wp2_with fail
        go_ret
        exact ⟨⟨_, rfl, Or.inr ⟨by omega, k1, by omega, by omega⟩⟩, hB.out⟩
      · go_enter Tryd.func4, Tryd.ntmps4
        go_wp2_with fail
        refine (nszMode_in la n.mn lk 1048576 _ k1 (by omega)).mono ?_
        rintro e w1 ⟨rfl, rfl⟩
        go_wp2_with fail
        refine (nszInt64_in fa n.wn fk (1048576 - n.mn) _ k2 (by omega)).mono ?_
        rintro e w1 ⟨rfl, rfl⟩
        go_wp2_with fail
        refine (nszInt64_over wa n.pn wk (1048576 - n.mn - n.wn) _ (by omega) (by omega) h3).mono ?_
        rintro e w1 ⟨rfl, rfl⟩
        go_wp2_with fail
        go_ret
        exact ⟨⟨_, rfl, Or.inl (by omega)⟩, hB.out⟩
    · go_enter Tryd.func4, Tryd.ntmps4
      go_wp2_with fail
      refine (nszMode_in la n.mn lk 1048576 _ k1 (by omega)).mono ?_
      rintro e w1 ⟨rfl, rfl⟩
      go_wp2_with fail
      refine (nszInt64_over fa n.wn fk (1048576 - n.mn) _ (by omega) (by omega) h2).mono ?_
      rintro e w1 ⟨rfl, rfl⟩
      go_wp2_with fail
      go_ret
      exact ⟨⟨_, rfl, Or.inl (by omega)⟩, hB.out⟩
  · go_enter Tryd.func4, Tryd.ntmps4
    go_wp2_with fail
    refine (nszMode_over la n.mn lk 1048576 _ (by omega) (by omega) h1).mono ?_
    rintro e w1 ⟨rfl, rfl⟩
    go_wp2_with fail
    go_ret
    exact ⟨⟨_, rfl, Or.inl (by omega)⟩, hB.out⟩
/-- Three blocks alone may have changed. -/
structure OnlyD (gl gf gw : Nat) (w w' : World) : Prop where
  os : w'.os = w.os
  tape : w'.tape = w.tape
  output : w'.output = w.output
  size : w.heap.size ≤ w'.heap.size
  block : ∀ k, k < w.heap.size → k ≠ gl → k ≠ gf → k ≠ gw → w'.heap[k]? = w.heap[k]?
set_option maxRecDepth 100000 in
set_option maxHeartbeats 2000000 in
theorem markDay_any (n : Dy.Day) (B gl gf gw : Nat) (lk fk wk : Nat) (w : World) (h : DyBlk n B gl gf gw w) (hs : DySmall n) :
    Calls Tryd.prog 12 #[dyV n (some ⟨gl, 0, none⟩) lk (some ⟨gf, 0, none⟩) fk (some ⟨gw, 0, none⟩) wk, .int .i64 1] w fun e w' => (∃ M : Nat, e = .returned (.int .i64 M) ∧ M ≤ 16777216) ∧ OnlyD gl gf gw w w' := by
  obtain ⟨W, hW⟩ : ∃ W, W = w.alloc (.cells #[.slice (some ⟨gl, 0, none⟩) n.mn lk, .slice (some ⟨gf, 0, none⟩) n.wn fk, .slice (some ⟨gw, 0, none⟩) n.pn wk, .int .i64 n.tank, .int .i64 n.low, .int .i64 n.high] 32) := ⟨_, rfl⟩
  have RA : W.rowIs w.heap.size 32 6 (rowN (dyL n (some ⟨gl, 0, none⟩) lk (some ⟨gf, 0, none⟩) fk (some ⟨gw, 0, none⟩) wk)) := by rw [hW]; exact rowN_alloc w _ _
  have hB : Below w.heap.size w W := by rw [hW]; exact nbel_alloc _ _
  have HW := Lib.hid hW
  have H0 := Lib.hid h
  have H := Lib.hid (h.below hB)
  have HB := Lib.hid hB
  have HS := Lib.hid hs
  have HRA := Lib.hid RA
  clear hW h hs RA hB
  go_enter Tryd.func12, Tryd.ntmps12
  go_wp2_with fail
  rw [← HW.out]
  refine (nmarkModeS_any gl n.mn lk 1 n.M _ H.out.l HS.out.1 (by omega)).mono ?_
  rintro e w1 ⟨rfl, _, ho1⟩
  have RA1 : w1.rowIs w.heap.size 32 6 _ := HRA.out.of_block (ho1.block _ HRA.out.lt (by have := H0.out.l.lt; omega))
  have K1 : Hid (IsBlk 2 gf (n.wn) n.W w1) := H.out.f.block (ho1.block _ H.out.f.lt (Ne.symm H.out.ne.1))
  have K2 : Hid (IsBlk 2 gw n.pn n.P w1) := H.out.w.block (ho1.block _ H.out.w.lt (Ne.symm H.out.ne.2.1))
  have HO1 := Lib.hid ho1
  obtain ⟨⟨x0, x1, x2, x3, x4, x5⟩, _⟩ := rowN6 RA1
  have HRA1 := Lib.hid RA1
  clear ho1 RA1
  obtain ⟨M1, hM1⟩ : ∃ M : Nat, M = 1 + n.mn * 2 := ⟨_, rfl⟩
  rw [← hM1]
  have q1 : M1 ≤ 4194304 := by have := HS.out.1; omega
  clear hM1
  go_wp2_with fail
  refine (nmarkInt64S_any gf n.wn fk M1 n.W _ K1.out HS.out.2.1 (by omega)).mono ?_
  rintro e w2 ⟨rfl, _, ho2⟩
  have RA2 : w2.rowIs w.heap.size 32 6 _ := HRA1.out.of_block (ho2.block _ HRA1.out.lt (by have := H0.out.f.lt; omega))
  have K3 : Hid (IsBlk 2 gw n.pn n.P w2) := K2.out.block (ho2.block _ K2.out.lt (Ne.symm H.out.ne.2.2))
  have HO2 := Lib.hid ho2
  clear x0 x1 x2 x3 x4 x5
  obtain ⟨⟨x0, x1, x2, x3, x4, x5⟩, _⟩ := rowN6 RA2
  clear ho2 RA2 K1 K2
  obtain ⟨M2, hM2⟩ : ∃ M : Nat, M = M1 + n.wn := ⟨_, rfl⟩
  rw [← hM2]
  have q2 : M2 ≤ 8388608 := by have := HS.out.2.1; omega
  clear hM2
  go_wp2_with fail
  refine (nmarkInt64S_any gw n.pn wk M2 n.P _ K3.out HS.out.2.2 (by omega)).mono ?_
  rintro e w3 ⟨rfl, _, ho3⟩
  have HO3 := Lib.hid ho3
  clear ho3 K3 x0 x1 x2 x3 x4 x5
  go_wp2_with fail
  go_ret
  have o1 := HO1.out
  have o2 := HO2.out
  have o3 := HO3.out
  have b0 := HB.out
  refine ⟨⟨_, rfl, by have := HS.out.2.2; omega⟩, o3.os.trans (o2.os.trans (o1.os.trans b0.os)), o3.tape.trans (o2.tape.trans (o1.tape.trans b0.tape)), o3.output.trans (o2.output.trans (o1.output.trans b0.output)), Nat.le_trans b0.size (Nat.le_trans o1.size (Nat.le_trans o2.size o3.size)), fun k hk e1 e2 e3 => ?_⟩
  have s0 := b0.size
  have s1 := o1.size
  have s2 := o2.size
  rw [o3.block k (by omega) e3, o2.block k (by omega) e2, o1.block k (by omega) e1, b0.block k hk]
end Go.Proofs.YtmfokilpfbcicaaDoor
