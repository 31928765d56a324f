/-
  The row ahead of a row of the table: the program's.
-/
import Derived.Test.YtbkpedcabbppbaaDoorRnT1
namespace Go.Proofs.YtbkpedcabbppbaaDoor
open Go.RowKit Go.Deep

theorem rpart_below {T : TypeId} {g N i : Nat} {f : Nat → Int} {W W' : World} (h : IsPart T g N i f W) (hb : Below W.heap.size W W') : IsPart T g N i f W' := by
  obtain ⟨F, h1, h2⟩ := h
  exact ⟨F, nrow_below h1 hb, h2⟩
theorem rninfo : (Tryd.prog.info? 2).map (fun i => (i.zero, i.size, i.bytes)) = some (some (.int .i64 0), 1, 8) := by kernel_rfl
set_option maxRecDepth 100000 in
set_option maxHeartbeats 4000000 in
theorem rowAhead_any (c : Nat) (y : Int) (g N cap : Nat) (nx : Nat → Int) (w : World) (h : IsAt (some ⟨g, 0, none⟩) N nx w) (hy : 0 ≤ y ∧ y ≤ 1000) (hc : c ≤ 300) (hN : N ≤ 1000) (hb : ∀ j, 0 ≤ nx j ∧ nx j ≤ 40000) :
    Calls Tryd.prog 64 #[.agg #[.int .i64 (c : Int), .int .i64 y], .slice (some ⟨g, 0, none⟩) N cap] w fun e w' => (∃ gr, e = .returned (.slice (some ⟨gr, 0, none⟩) N N) ∧ w.heap.size ≤ gr ∧ IsBlk 2 gr N (Rn.rv c y nx) w') ∧ Below w.heap.size w w' := by
  have hmk := run_make_row' (P := Tryd.prog) 24 2 (.int .i64 0) 8 Tryd.underlying24 rninfo rfl .i64 .i64 N (by omega) (by omega)
  obtain ⟨W, hW⟩ : ∃ W, W = w.alloc (.cells #[.int .i64 (c : Int), .int .i64 y] 53) := ⟨_, rfl⟩
  have HB : Hid (Below w.heap.size w W) := by show Below _ _ _; rw [hW]; exact nbel_alloc _ _
  have HX : Hid (W.rowIs w.heap.size 53 2 (rowN [.int .i64 (c : Int), .int .i64 y])) := by show W.rowIs _ _ _ _; rw [hW]; exact rowN_alloc w _ _
  have HST : Hid (IsPart 2 W.heap.size N 0 (Rn.rv c y nx) (W.alloc (.cells (madeCells #[.int .i64 0] N) 2))) := ⟨_, World.rowIs_made W (.int .i64 0) N 2, fun j hj => absurd hj (by omega)⟩
  have HSZ : Hid (W.heap.size = w.heap.size + 1) := by show W.heap.size = _; rw [hW]; simp
  have H := Lib.hid h
  have HBD := Lib.hid hb
  have HY := Lib.hid hy
  have HW := Lib.hid hW
  clear h hb hy hW
  go_enter Tryd.func64, Tryd.ntmps64
  go_wp2_with fail
  clear hmk
  rw [← HSZ.out, ← HW.out]
  go_loopw [6, 12] (fun _ iv wr => ∃ (i : Nat), i ≤ N ∧ iv = .int .i64 i ∧ Hid (IsPart 2 W.heap.size N i (Rn.rv c y nx) wr) ∧ Hid (Below w.heap.size w wr) ∧ Hid (wr.rowIs w.heap.size 53 2 (rowN [.int .i64 (c : Int), .int .i64 y]))) (fun _ iv _ => N - (intOf iv).toNat)
  case atStart => exact ⟨0, Nat.zero_le _, rfl, HST, HB.out.alloc HB.out.size _, nrow_below HX.out (nbel_alloc _ _)⟩
  case round =>
    obtain ⟨i, hi, rfl, hP, hB, hX⟩ := hrel
    clear HST HX HB HW
    by_cases hlt : i < N
    · have hltz : (i : Int) < (N : Int) := by omega
      obtain ⟨⟨x0, x1⟩, _⟩ := rowN2 hX.out
      go_wp2_with fail
      refine (renews_any c y i g N cap nx _ (H.out.below hB.out) HY.out hc hlt hN HBD.out).mono ?_
      rintro e w1 ⟨rfl, hb1⟩
      have HP1 := Lib.hid (rpart_below hP.out hb1)
      have HB1 : Hid (Below w.heap.size w w1) := hB.out.trans (hb1.mono hB.out.size)
      have HX1 := Lib.hid (nrow_below hX.out hb1)
      clear hb1 hP hB hX x0 x1
      have HP2 := Lib.hid (HP1.out.put (Rn.rv c y nx i) rfl)
      obtain ⟨v0, y0⟩ := HP1.out.cell (j := i) (by omega)
      have z0 := HP1.out.frozen i
      have hz : W.heap.size < w1.heap.size := HP1.out.lt
      have HB2 : Hid (Below w.heap.size w (w1.setCell ⟨W.heap.size, i, none⟩ (.int .i64 (Rn.rv c y nx i)))) := HB1.out.setCell (p := ⟨W.heap.size, i, none⟩) (by show _ ≤ W.heap.size; rw [HSZ.out]; omega) _
      have HX2 : Hid ((w1.setCell ⟨W.heap.size, i, none⟩ (.int .i64 (Rn.rv c y nx i))).rowIs w.heap.size 53 2 (rowN [.int .i64 (c : Int), .int .i64 y])) := nrow_set HX1.out (by show w.heap.size ≠ W.heap.size; rw [HSZ.out]; omega) _
      clear HP1 HB1 HX1
      generalize Rn.rt c y nx i = bt
      generalize hrv : Rn.rv c y nx i = zv at HP2 HB2 HX2 ⊢
      clear hrv
      go_wp2_with fail
      go_roundw
      case rel => exact ⟨i + 1, by omega, by go_num, HP2, HB2, HX2⟩
      case measure => simp [intOf]; omega
    · obtain rfl : i = N := by omega
      go_wp2_with fail
      go_ret
      exact ⟨⟨_, rfl, by rw [HSZ.out]; omega, hP.out.full (Nat.le_refl _)⟩, hB.out⟩
end Go.Proofs.YtbkpedcabbppbaaDoor
