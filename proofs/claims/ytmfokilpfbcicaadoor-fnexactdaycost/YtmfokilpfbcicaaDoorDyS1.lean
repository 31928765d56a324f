/-
  The model's test of days.
-/
import Derived.Test.YtmfokilpfbcicaaDoorDyMath
import Derived.Deep.QuietTactic
namespace Go.Proofs.YtmfokilpfbcicaaDoor
open Go.RowKit Go.Deep

set_option maxRecDepth 100000 in
set_option maxHeartbeats 2000000 in
theorem dyall_any (a : Option Addr) (m cap : Nat) (f : Nat → Int) (top : Int) (w : World) (h : IsAt a m f w) (hm : m ≤ 1048576) :
    Calls Tryd.prog 19 #[.slice a m cap, .int .i64 0, .int .i64 top] w fun e w' => e = .returned (.bool (dB (Dy.AllIn m f top))) ∧ Below w.heap.size w w' := by
  have H := Lib.hid h
  clear h
  go_enter Tryd.func19, Tryd.ntmps19
  go_wp2_with fail
  go_loopw [7] (fun iv wr => ∃ (i : Nat), i ≤ m ∧ iv = .int .i64 i ∧ Hid (Below w.heap.size w wr) ∧ Hid (∀ j, j < i → 0 ≤ f j ∧ f j ≤ top)) (fun iv _ => m - (intOf iv).toNat)
  case atStart => exact ⟨0, Nat.zero_le _, rfl, Below.refl _ _, fun j hj => absurd hj (Nat.not_lt_zero _)⟩
  case round =>
    obtain ⟨i, hi, rfl, hB, hP⟩ := hrel
    by_cases hlt : i < m
    · have hltz : (i : Int) < (m : Int) := by omega
      obtain ⟨b, e, c0⟩ := (H.out.below hB.out).at1 hlt
      subst e
      by_cases h4 : f i < 0
      · have HE : Hid (dB (Dy.AllIn m f top) = false) := dB_ff (fun k => by have := (k i hlt).1; omega)
        go_wp2_with fail
        try go_quiet (fail)
        go_ret
        exact ⟨by rw [HE.out]; rfl, by first | exact hB.out | exact hB.out.drew⟩
      · by_cases h5 : top < f i
        · have HE : Hid (dB (Dy.AllIn m f top) = false) := dB_ff (fun k => by have := (k i hlt).2; omega)
          go_wp2_with fail
          try go_quiet (fail)
          go_ret
          exact ⟨by rw [HE.out]; rfl, by first | exact hB.out | exact hB.out.drew⟩
        · go_wp2_with fail
          try go_quiet (fail)
          go_roundw
          case rel =>
            refine ⟨i + 1, by omega, by go_num, by first | exact hB | exact hB.out.drew, fun j hj => ?_⟩
            by_cases ej : j = i
            · subst ej; exact ⟨by omega, by omega⟩
            · exact hP.out j (by omega)
          case measure => simp [intOf]; omega
    · obtain rfl : i = m := by omega
      go_wp2_with fail
      go_ret
      exact ⟨by rw [dB_tt (show Dy.AllIn i f top from hP.out)]; rfl, hB.out⟩
set_option maxRecDepth 100000 in
set_option maxHeartbeats 8000000 in
theorem specDay_any (n : Dy.Day) (la : Option Addr) (lk : Nat) (fa : Option Addr) (fk : Nat) (wa : Option Addr) (wk : Nat) (w : World) (h : DyAt n la fa wa w) (hs : DySmall n) :
    Calls Tryd.prog 18 #[dyV n la lk fa fk wa wk] w fun e w' => e = .returned (.bool (dB (Dy.Right n))) ∧ Below w.heap.size w w' := by
  obtain ⟨W, hW⟩ : ∃ W, W = w.alloc (.cells #[.slice la n.mn lk, .slice fa n.wn fk, .slice wa n.pn wk, .int .i64 n.tank, .int .i64 n.low, .int .i64 n.high] 32) := ⟨_, rfl⟩
  have HB : Hid (Below w.heap.size w W) := by show Below _ _ _; rw [hW]; exact nbel_alloc _ _
  have HR : Hid (W.rowIs w.heap.size 32 6 (rowN (dyL n la lk fa fk wa wk))) := by show W.rowIs _ _ _ _; rw [hW]; exact rowN_alloc w _ _
  have H := Lib.hid (h.below HB.out)
  have HS := Lib.hid hs
  have HW := Lib.hid hW
  clear hW h hs
  have hwW : w.heap.size < W.heap.size := HR.out.lt
  by_cases c1 : (n.wn : Int) < 1
  · have HE := Lib.hid (dB_ff (fun x : Dy.Right n => by have := x.1.w1; omega))
    go_enter Tryd.func18, Tryd.ntmps18
    go_wp2_with fail
    rw [← HW.out]
    go_ret
    exact ⟨by rw [HE.out]; rfl, HB.out⟩
  by_cases c2 : (48 : Int) < (n.wn : Int)
  · have HE := Lib.hid (dB_ff (fun x : Dy.Right n => by have := x.1.w2; omega))
    go_enter Tryd.func18, Tryd.ntmps18
    go_wp2_with fail
    rw [← HW.out]
    go_ret
    exact ⟨by rw [HE.out]; rfl, HB.out⟩
  by_cases c3 : n.pn ≠ n.wn
  · have HE := Lib.hid (dB_ff (fun x : Dy.Right n => c3 x.1.p))
    have c3' : ((n.pn : Int) != (n.wn : Int)) = true := by simp; omega
    clear c3
    go_enter Tryd.func18, Tryd.ntmps18
    go_wp2_with fail
    rw [← HW.out]
    go_ret
    exact ⟨by rw [HE.out]; rfl, HB.out⟩
  have c3' : ((n.pn : Int) != (n.wn : Int)) = false := by simp; omega
  have HC3 : Hid (n.pn = n.wn) := by show n.pn = n.wn; omega
  clear c3
  go_enter Tryd.func18, Tryd.ntmps18
  go_wp2_with fail
  rw [← HW.out]
  refine (dyall_any fa n.wn fk n.W 1000 _ H.out.f (by omega)).mono ?_
  rintro e w1 ⟨rfl, hb1⟩
  have HB1 : Hid (Below w.heap.size w w1) := HB.out.trans (hb1.mono HB.out.size)
  have HR1 := Lib.hid (nrow_below HR.out hb1)
  have H1 := Lib.hid (H.out.below hb1)
  clear hb1 HB HR H hwW
  obtain ⟨⟨p0, p1, p2, p3, p4, p5⟩, _⟩ := rowN6 HR1.out
  by_cases c4 : Dy.AllIn n.wn n.W 1000
  case neg =>
    rw [dB_ff c4]
    have HE := Lib.hid (dB_ff (fun x : Dy.Right n => c4 x.1.ws))
    clear c4
    go_wp2_with fail
    go_ret
    exact ⟨by rw [HE.out]; rfl, HB1.out⟩
  rw [dB_tt c4]
  have HC4 := Lib.hid c4
  clear c4
  go_wp2_with fail
  refine (dyall_any wa n.pn wk n.P 1000 _ H1.out.w HS.out.2.2).mono ?_
  rintro e w2 ⟨rfl, hb2⟩
  have HB2 : Hid (Below w.heap.size w w2) := HB1.out.trans (hb2.mono HB1.out.size)
  have HR2 := Lib.hid (nrow_below HR1.out hb2)
  have H2 := Lib.hid (H1.out.below hb2)
  clear hb2 HB1 HR1 H1 p0 p1 p2 p3 p4 p5
  obtain ⟨⟨p0, p1, p2, p3, p4, p5⟩, _⟩ := rowN6 HR2.out
  by_cases c5 : Dy.AllIn n.pn n.P 1000
  case neg =>
    rw [dB_ff c5]
    have HE := Lib.hid (dB_ff (fun x : Dy.Right n => c5 x.1.ps))
    clear c5
    go_wp2_with fail
    go_ret
    exact ⟨by rw [HE.out]; rfl, HB2.out⟩
  rw [dB_tt c5]
  have HC5 : Hid (Dy.SlotsOk n) := ⟨by omega, by omega, HC3.out, HC4.out, c5⟩
  clear c5 HC3 HC4 c1 c2
  by_cases c6 : (n.mn : Int) < 1
  · have HE := Lib.hid (dB_ff (fun x : Dy.Right n => by have := x.2.1.m1; omega))
    go_wp2_with fail
    go_ret
    exact ⟨by rw [HE.out]; rfl, HB2.out⟩
  by_cases c7 : (6 : Int) < (n.mn : Int)
  · have HE := Lib.hid (dB_ff (fun x : Dy.Right n => by have := x.2.1.m2; omega))
    go_wp2_with fail
    go_ret
    exact ⟨by rw [HE.out]; rfl, HB2.out⟩
  have HALL : Hid ((∀ i, i < n.mn → Dy.ModeOk n i) → Dy.TankOk n → dB (Dy.Right n) = true) := fun x y => dB_tt ⟨HC5.out, ⟨by omega, by omega, x⟩, y⟩
  have HNT : Hid (¬ Dy.TankOk n → dB (Dy.Right n) = false) := fun x => dB_ff (fun y => x y.2.2)
  have HNO : Hid (∀ i, i < n.mn → ¬ Dy.ModeOk n i → dB (Dy.Right n) = false) := fun i hi x => dB_ff (fun y => x (y.2.1.ms i hi))
  have hmn : n.mn ≤ 6 := by omega
  clear HC5
  go_wp2_with fail
  clear p0 p1 p2 p3 p4 p5
  go_loopw [3, 4] (fun iv _ wr => ∃ (i : Nat), i ≤ n.mn ∧ iv = .int .i64 i ∧ Hid (Below w2.heap.size w2 wr) ∧ Hid (∀ j, j < i → Dy.ModeOk n j)) (fun iv _ _ => n.mn - (intOf iv).toNat)
  case atStart => exact ⟨0, Nat.zero_le _, rfl, Below.refl _ _, fun j hj => absurd hj (Nat.not_lt_zero _)⟩
  case round =>
    obtain ⟨i, hi, rfl, hB, hP⟩ := hrel
    obtain ⟨⟨p0, p1, p2, p3, p4, p5⟩, _⟩ := rowN6 (nrow_below HR2.out hB.out)
    by_cases hlt : i < n.mn
    · have hltz : (i : Int) < (n.mn : Int) := by omega
      obtain ⟨b, e, c0, c1'⟩ := (H2.out.below hB.out).l.at2 hlt
      subst e
      have zb : b < wr.heap.size := World.block_lt_of_cell? _ _ c0
      have zw : w.heap.size < wr.heap.size := World.block_lt_of_cell? _ _ p0
      have HBA : Hid (∀ o, Below w.heap.size w (wr.alloc o)) := fun o => HB2.out.trans ((hB.out.alloc hB.out.size o).mono HB2.out.size)
      have HBB : Hid (∀ o, Below w2.heap.size w2 (wr.alloc o)) := fun o => hB.out.alloc hB.out.size o
      by_cases q0 : n.M (i * 2) < 0
      · have HE : Hid (dB (Dy.Right n) = false) := HNO.out i hlt (fun x => by have := x.1.1; omega)
        clear hP
        go_wp2_with fail
        go_ret
        exact ⟨by rw [HE.out]; rfl, (by first | exact HBA.out _ | exact (HBA.out _).setCell (by first | assumption | (simp; omega)) _)⟩
      by_cases q1 : 300 < n.M (i * 2)
      · have HE : Hid (dB (Dy.Right n) = false) := HNO.out i hlt (fun x => by have := x.1.2; omega)
        clear hP
        go_wp2_with fail
        go_ret
        exact ⟨by rw [HE.out]; rfl, (by first | exact HBA.out _ | exact (HBA.out _).setCell (by first | assumption | (simp; omega)) _)⟩
      by_cases q2 : n.M (i * 2 + 1) < 0
      · have HE : Hid (dB (Dy.Right n) = false) := HNO.out i hlt (fun x => by have := x.2.1; omega)
        clear hP
        go_wp2_with fail
        go_ret
        exact ⟨by rw [HE.out]; rfl, (by first | exact HBA.out _ | exact (HBA.out _).setCell (by first | assumption | (simp; omega)) _)⟩
      by_cases q3 : 1000 < n.M (i * 2 + 1)
      · have HE : Hid (dB (Dy.Right n) = false) := HNO.out i hlt (fun x => by have := x.2.2; omega)
        clear hP
        go_wp2_with fail
        go_ret
        exact ⟨by rw [HE.out]; rfl, (by first | exact HBA.out _ | exact (HBA.out _).setCell (by first | assumption | (simp; omega)) _)⟩
      have HOK : Hid (Dy.ModeOk n i) := ⟨⟨by omega, by omega⟩, by omega, by omega⟩
      go_wp2_with fail
      go_roundw
      case rel =>
        refine ⟨i + 1, by omega, by go_num, (by first | exact HBB.out _ | exact (HBB.out _).setCell (by first | assumption | (simp; omega)) _), fun j hj => ?_⟩
        by_cases ej : j = i
        · subst ej; exact HOK.out
        · exact hP.out j (by omega)
      case measure => simp [intOf]; omega
    · obtain rfl : i = n.mn := by omega
      have HBE : Hid (Below w.heap.size w wr) := HB2.out.trans (hB.out.mono HB2.out.size)
      by_cases t0 : 0 ≤ n.low
      case neg =>
        have HE := Lib.hid (HNT.out (fun x => t0 x.1))
        go_wp2_with fail
        go_ret
        exact ⟨by rw [HE.out]; rfl, HBE.out⟩
      by_cases t1 : n.low ≤ n.tank
      case neg =>
        have HE := Lib.hid (HNT.out (fun x => t1 x.2.1))
        go_wp2_with fail
        go_ret
        exact ⟨by rw [HE.out]; rfl, HBE.out⟩
      by_cases t2 : n.tank ≤ n.high
      case neg =>
        have HE := Lib.hid (HNT.out (fun x => t2 x.2.2.1))
        go_wp2_with fail
        go_ret
        exact ⟨by rw [HE.out]; rfl, HBE.out⟩
      by_cases t3 : n.high ≤ 300
      case neg =>
        have HE := Lib.hid (HNT.out (fun x => t3 x.2.2.2))
        go_wp2_with fail
        go_ret
        exact ⟨by rw [HE.out]; rfl, HBE.out⟩
      have HE := Lib.hid (HALL.out hP.out ⟨t0, t1, t2, t3⟩)
      go_wp2_with fail
      go_ret
      exact ⟨by rw [HE.out]; rfl, HBE.out⟩
end Go.Proofs.YtmfokilpfbcicaaDoor
