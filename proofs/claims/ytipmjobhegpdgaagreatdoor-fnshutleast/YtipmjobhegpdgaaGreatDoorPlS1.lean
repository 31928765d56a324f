/-
  The model's test of plans.
-/
import Derived.Test.YtipmjobhegpdgaaGreatDoorPlS0
import Derived.Deep.QuietTactic
namespace Go.Proofs.YtipmjobhegpdgaaGreatDoor
open Go.RowKit Go.Deep

set_option maxRecDepth 100000 in
set_option maxHeartbeats 2000000 in
theorem pall_any (a : Option Addr) (m cap : Nat) (f : Nat → Int) (w : World) (h : IsAt a m f w) (hm : m ≤ 1048576) :
    Calls Tryz.prog 59 #[.slice a m cap, .int .i64 0, .int .i64 1000000] w fun e w' => e = .returned (.bool (dB (Pl.FlowsOk m f))) ∧ Below w.heap.size w w' := by
  have H := Lib.hid h
  clear h
  go_enter Tryz.func59, Tryz.ntmps59
  go_wp2_with fail
  go_loopw [7] (fun iv wr => ∃ (i : Nat), i ≤ m ∧ iv = .int .i64 i ∧ Hid (Below w.heap.size w wr) ∧ Hid (∀ j, j < i → 0 ≤ f j ∧ f j ≤ 1000000)) (fun iv _ => m - (intOf iv).toNat)
  case atStart => exact ⟨0, Nat.zero_le _, rfl, Below.refl _ _, fun j hj => absurd hj (Nat.not_lt_zero _)⟩
  case round =>
    obtain ⟨i, hi, rfl, hB, hP⟩ := hrel
    by_cases hlt : i < m
    · have hltz : (i : Int) < (m : Int) := by omega
      obtain ⟨b, e, c0⟩ := (H.out.below hB.out).at1 hlt
      subst e
      by_cases h4 : f i < 0
      · have HE : Hid (dB (Pl.FlowsOk m f) = false) := dB_ff (fun k => by have := (k i hlt).1; omega)
        go_wp2_with fail
        try go_quiet (fail)
        go_ret
        exact ⟨by rw [HE.out]; rfl, by first | exact hB.out | exact hB.out.drew⟩
      · by_cases h5 : 1000000 < f i
        · have HE : Hid (dB (Pl.FlowsOk m f) = false) := dB_ff (fun k => by have := (k i hlt).2; omega)
          go_wp2_with fail
          try go_quiet (fail)
          go_ret
          exact ⟨by rw [HE.out]; rfl, by first | exact hB.out | exact hB.out.drew⟩
        · go_wp2_with fail
          try go_quiet (fail)
          go_roundw
          case rel =>
            refine ⟨i + 1, by omega, by go_num, by first | exact hB | exact hB.out.drew, fun j hj => ?_⟩
            by_cases ej : j = i
            · subst ej; exact ⟨by omega, by omega⟩
            · exact hP.out j (by omega)
          case measure => simp [intOf]; omega
    · obtain rfl : i = m := by omega
      go_wp2_with fail
      go_ret
      exact ⟨by rw [dB_tt (show Pl.FlowsOk i f from hP.out)]; rfl, hB.out⟩
set_option maxRecDepth 100000 in
set_option maxHeartbeats 8000000 in
theorem specPlan_any (n : Pl.Plan) (la : Option Addr) (lk : Nat) (fa : Option Addr) (fk : Nat) (wa : Option Addr) (wk : Nat) (w : World) (h : PlAt n la fa wa w) (hs : PlSmall n) :
    Calls Tryz.prog 28 #[plV n la lk fa fk wa wk] w fun e w' => e = .returned (.bool (dB (Pl.Right n))) ∧ Below w.heap.size w w' := by
  obtain ⟨W, hW⟩ : ∃ W, W = w.alloc (.cells #[.slice la n.rn lk, .slice fa n.sn fk, .slice wa n.hn wk] 32) := ⟨_, rfl⟩
  have HB : Hid (Below w.heap.size w W) := by show Below _ _ _; rw [hW]; exact nbel_alloc _ _
  have HR : Hid (W.rowIs w.heap.size 32 3 (rowN (plL n la lk fa fk wa wk))) := by show W.rowIs _ _ _ _; rw [hW]; exact rowN_alloc w _ _
  have H := Lib.hid (h.below HB.out)
  have HS := Lib.hid hs
  have HW := Lib.hid hW
  clear hW h hs
  have hwW : w.heap.size < W.heap.size := HR.out.lt
  by_cases c1 : (n.hn : Int) < 1
  · have HE := Lib.hid (dB_ff (fun x : Pl.Right n => by have := x.h1; omega))
    go_enter Tryz.func28, Tryz.ntmps28
    go_wp2_with fail
    rw [← HW.out]
    go_ret
    exact ⟨by rw [HE.out]; rfl, HB.out⟩
  by_cases c2 : (40 : Int) < (n.hn : Int)
  · have HE := Lib.hid (dB_ff (fun x : Pl.Right n => by have := x.h2; omega))
    go_enter Tryz.func28, Tryz.ntmps28
    go_wp2_with fail
    rw [← HW.out]
    go_ret
    exact ⟨by rw [HE.out]; rfl, HB.out⟩
  go_enter Tryz.func28, Tryz.ntmps28
  go_wp2_with fail
  rw [← HW.out]
  refine (pall_any wa n.hn wk n.H _ H.out.w (by omega)).mono ?_
  rintro e w1 ⟨rfl, hb1⟩
  have HB1 : Hid (Below w.heap.size w w1) := HB.out.trans (hb1.mono HB.out.size)
  have HR1 := Lib.hid (nrow_below HR.out hb1)
  have H1 := Lib.hid (H.out.below hb1)
  clear hb1 HB HR H hwW
  obtain ⟨⟨p0, p1, p2⟩, _⟩ := rowN3 HR1.out
  by_cases c3 : Pl.FlowsOk n.hn n.H
  case neg =>
    rw [dB_ff c3]
    have HE := Lib.hid (dB_ff (fun x : Pl.Right n => c3 x.hs))
    clear c3
    go_wp2_with fail
    go_ret
    exact ⟨by rw [HE.out]; rfl, HB1.out⟩
  rw [dB_tt c3]
  have HC3 := Lib.hid c3
  clear c3
  by_cases c4 : (100 : Int) < (n.rn : Int)
  · have HE := Lib.hid (dB_ff (fun x : Pl.Right n => by have := x.r; omega))
    go_wp2_with fail
    go_ret
    exact ⟨by rw [HE.out]; rfl, HB1.out⟩
  go_wp2_with fail
  refine (srising_any fa n.sn fk n.S n.hn _ H1.out.f HS.out.2.1 (by omega)).mono ?_
  rintro e w2 ⟨rfl, hb2⟩
  have HB2 : Hid (Below w.heap.size w w2) := HB1.out.trans (hb2.mono HB1.out.size)
  have HR2 := Lib.hid (nrow_below HR1.out hb2)
  have H2 := Lib.hid (H1.out.below hb2)
  clear hb2 HB1 HR1 H1 p0 p1 p2
  obtain ⟨⟨p0, p1, p2⟩, _⟩ := rowN3 HR2.out
  by_cases c5 : Pl.Rising n.sn n.S n.hn
  case neg =>
    rw [dB_ff c5]
    have HE := Lib.hid (dB_ff (fun x : Pl.Right n => c5 x.s))
    clear c5
    go_wp2_with fail
    go_ret
    exact ⟨by rw [HE.out]; rfl, HB2.out⟩
  rw [dB_tt c5]
  have HC5 := Lib.hid c5
  clear c5
  have HALL : Hid ((∀ i, i < n.rn → Pl.RowOk n i) → dB (Pl.Right n) = true) := fun x => dB_tt ⟨by omega, by omega, HC3.out, by omega, HC5.out, x⟩
  have HNO : Hid (∀ i, i < n.rn → ¬ Pl.RowOk n i → dB (Pl.Right n) = false) := fun i hi x => dB_ff (fun y => x (y.rows i hi))
  have hrn : n.rn ≤ 100 := by omega
  clear HC3 HC5 c4
  go_wp2_with fail
  clear p0 p1 p2
  go_loopw [4, 5] (fun iv _ wr => ∃ (i : Nat), i ≤ n.rn ∧ iv = .int .i64 i ∧ Hid (Below w2.heap.size w2 wr) ∧ Hid (∀ j, j < i → Pl.RowOk n j)) (fun iv _ _ => n.rn - (intOf iv).toNat)
  case atStart => exact ⟨0, Nat.zero_le _, rfl, Below.refl _ _, fun j hj => absurd hj (Nat.not_lt_zero _)⟩
  case round =>
    obtain ⟨i, hi, rfl, hB, hP⟩ := hrel
    obtain ⟨⟨p0, p1, p2⟩, _⟩ := rowN3 (nrow_below HR2.out hB.out)
    by_cases hlt : i < n.rn
    · have hltz : (i : Int) < (n.rn : Int) := by omega
      obtain ⟨b, e, c0, c1', c2'⟩ := (H2.out.below hB.out).l.at3 hlt
      subst e
      have zb : b < wr.heap.size := World.block_lt_of_cell? _ _ c0
      have zw : w.heap.size < wr.heap.size := World.block_lt_of_cell? _ _ p0
      have HBA : Hid (∀ o, Below w.heap.size w (wr.alloc o)) := fun o => HB2.out.trans ((hB.out.alloc hB.out.size o).mono HB2.out.size)
      have HBB : Hid (∀ o, Below w2.heap.size w2 (wr.alloc o)) := fun o => hB.out.alloc hB.out.size o
      by_cases q0 : n.R (i * 3) < 0
      · have HE : Hid (dB (Pl.Right n) = false) := HNO.out i hlt (fun x => by have := x.1.1; omega)
        clear hP
        go_wp2_with fail
        go_ret
        exact ⟨by rw [HE.out]; rfl, (by first | exact HBA.out _ | exact (HBA.out _).setCell (by first | assumption | (simp; omega)) _)⟩
      by_cases q1 : (n.hn : Int) ≤ n.R (i * 3)
      · have HE : Hid (dB (Pl.Right n) = false) := HNO.out i hlt (fun x => by have := x.1.2; omega)
        clear hP
        go_wp2_with fail
        go_ret
        exact ⟨by rw [HE.out]; rfl, (by first | exact HBA.out _ | exact (HBA.out _).setCell (by first | assumption | (simp; omega)) _)⟩
      by_cases q2 : n.R (i * 3 + 1) < 0
      · have HE : Hid (dB (Pl.Right n) = false) := HNO.out i hlt (fun x => by have := x.2.1.1; omega)
        clear hP
        go_wp2_with fail
        go_ret
        exact ⟨by rw [HE.out]; rfl, (by first | exact HBA.out _ | exact (HBA.out _).setCell (by first | assumption | (simp; omega)) _)⟩
      by_cases q3 : (n.hn : Int) ≤ n.R (i * 3 + 1)
      · have HE : Hid (dB (Pl.Right n) = false) := HNO.out i hlt (fun x => by have := x.2.1.2; omega)
        clear hP
        go_wp2_with fail
        go_ret
        exact ⟨by rw [HE.out]; rfl, (by first | exact HBA.out _ | exact (HBA.out _).setCell (by first | assumption | (simp; omega)) _)⟩
      by_cases q4 : n.R (i * 3) = n.R (i * 3 + 1)
      · have HE : Hid (dB (Pl.Right n) = false) := HNO.out i hlt (fun x => by have := x.2.2.1; exact this q4)
        have q4' : (n.R (i * 3) == n.R (i * 3 + 1)) = true := by simp [q4]
        have HQ4 := Lib.hid q4
        clear q4
        clear hP
        go_wp2_with fail
        go_ret
        exact ⟨by rw [HE.out]; rfl, (by first | exact HBA.out _ | exact (HBA.out _).setCell (by first | assumption | (simp; omega)) _)⟩
      have q4' : (n.R (i * 3) == n.R (i * 3 + 1)) = false := by simp [q4]
      have HQ4 := Lib.hid q4
      clear q4
      by_cases q5 : n.R (i * 3 + 2) < 0
      · have HE : Hid (dB (Pl.Right n) = false) := HNO.out i hlt (fun x => by have := x.2.2.2.1; omega)
        clear hP
        go_wp2_with fail
        go_ret
        exact ⟨by rw [HE.out]; rfl, (by first | exact HBA.out _ | exact (HBA.out _).setCell (by first | assumption | (simp; omega)) _)⟩
      by_cases q6 : 2 < n.R (i * 3 + 2)
      · have HE : Hid (dB (Pl.Right n) = false) := HNO.out i hlt (fun x => by have := x.2.2.2.2; omega)
        clear hP
        go_wp2_with fail
        go_ret
        exact ⟨by rw [HE.out]; rfl, (by first | exact HBA.out _ | exact (HBA.out _).setCell (by first | assumption | (simp; omega)) _)⟩
      have HOK : Hid (Pl.RowOk n i) := ⟨⟨by omega, by omega⟩, ⟨by omega, by omega⟩, HQ4.out, by omega, by omega⟩
      go_wp2_with fail
      go_roundw
      case rel =>
        refine ⟨i + 1, by omega, by go_num, (by first | exact HBB.out _ | exact (HBB.out _).setCell (by first | assumption | (simp; omega)) _), fun j hj => ?_⟩
        by_cases ej : j = i
        · subst ej; exact HOK.out
        · exact hP.out j (by omega)
      case measure => simp [intOf]; omega
    · obtain rfl : i = n.rn := by omega
      go_wp2_with fail
      go_ret
      exact ⟨by rw [HALL.out hP.out]; rfl, HB2.out.trans (hB.out.mono HB2.out.size)⟩
end Go.Proofs.YtipmjobhegpdgaaGreatDoor
