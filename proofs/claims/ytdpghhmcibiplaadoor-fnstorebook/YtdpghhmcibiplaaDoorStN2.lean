/-
  The contract of the model's StoreStep.
-/
import Derived.Test.YtdpghhmcibiplaaDoorStS1
import Derived.Test.YtdpghhmcibiplaaDoorStN1
namespace Go.Proofs.YtdpghhmcibiplaaDoor
open Go.RowKit Go.Deep

theorem nMin_any (x y : Int) (w : World) : Calls Tryd.prog 58 #[.int .i64 x, .int .i64 y] w fun e w' => e = .returned (.int .i64 (min x y)) ∧ w' = w := by
  by_cases h : x < y
  · go_enter Tryd.func58, Tryd.ntmps58
    go_wp2_with fail
    go_ret
    exact ⟨ret_int (a := x) (by omega), rfl⟩
  · go_enter Tryd.func58, Tryd.ntmps58
    go_wp2_with fail
    go_ret
    exact ⟨ret_int (a := y) (by omega), rfl⟩
theorem nMax_any (x y : Int) (w : World) : Calls Tryd.prog 59 #[.int .i64 x, .int .i64 y] w fun e w' => e = .returned (.int .i64 (max x y)) ∧ w' = w := by
  by_cases h : y < x
  · go_enter Tryd.func59, Tryd.ntmps59
    go_wp2_with fail
    go_ret
    exact ⟨ret_int (a := x) (by omega), rfl⟩
  · go_enter Tryd.func59, Tryd.ntmps59
    go_wp2_with fail
    go_ret
    exact ⟨ret_int (a := y) (by omega), rfl⟩
set_option maxRecDepth 100000 in
set_option maxHeartbeats 4000000 in
theorem sStep_any (ca : Option Addr) (cn ck : Nat) (c : Nat → St.Pr) (ra : Option Addr) (rn rk : Nat) (r : Nat → St.Pr) (v y x : Int) (w : World) (h : StAt ca cn c ra rn r w) :
    Calls Tryd.prog 76 #[stV ca cn ck ra rn rk v, .int .i64 y, .int .i64 x] w fun e w' => (∃ z, e = .returned (ansV z) ∧ Hid (StepIs cn c rn r v y x z)) ∧ Gr w w' := by
  obtain ⟨b1, h1⟩ := bool_of (St.StoreOk cn c rn r v)
  obtain ⟨W, hW⟩ : ∃ W, W = (w.alloc (.cells #[.slice ca cn ck, .slice ra rn rk, .int .i64 v] 66)).alloc zOutO := ⟨_, rfl⟩
  have hGW : Gr w W := by rw [hW]; exact ((Gr.refl _).alloc _).alloc _
  have RB : W.rowIs w.heap.size 66 3 (sr3 (.slice ca cn ck) (.slice ra rn rk) (.int .i64 v)) := by rw [hW]; exact srow_below (srow3 w _ _ _ _) ((Below.refl _ _).alloc (Nat.le_refl _) _)
  have RO : W.rowIs (w.heap.size + 1) 61 6 (r6 (.int .i64 0) (.int .i64 0) (.int .i64 0) (.int .i64 0) (.int .i64 0) (.int .i64 0)) := by
    rw [hW]
    have := row6 (w.alloc (.cells #[.slice ca cn ck, .slice ra rn rk, .int .i64 v] 66)) (.int .i64 0) (.int .i64 0) (.int .i64 0) (.int .i64 0) (.int .i64 0) (.int .i64 0) 61
    rwa [World.size_alloc] at this
  have HGW := Lib.hid hGW
  have HW := Lib.hid hW
  have HS := Lib.hid (h.gr hGW)
  have K1 := Lib.hid h1
  have HRB := Lib.hid RB
  have HRO := Lib.hid RO
  have hle : w.heap.size ≤ w.heap.size + 1 := by omega
  have HLE := Lib.hid hle
  clear hGW hW h h1 RB RO hle
  go_enter Tryd.func76, Tryd.ntmps76
  go_wp2_with fail
  rw [← HW.out]
  refine ((sRight_any ca cn ck c ra rn rk r v _ HS.out).mono fun e w' ⟨g1, g2⟩ => ⟨g1.eq K1.out, g2⟩ : Calls Tryd.prog 48 #[stV ca cn ck ra rn rk v] W fun e w' => e = .returned (.bool b1) ∧ Gr W w').mono ?_
  rintro e W1 ⟨rfl, hG1⟩
  have HG1 : Hid (Gr w W1) := HGW.out.trans hG1
  have HR1 := Lib.hid (brow_gr HRO.out hG1)
  have HX1 := Lib.hid (brow_gr HRB.out hG1)
  have HS1 := Lib.hid (HS.out.gr hG1)
  obtain ⟨⟨o0, o1, o2, o3, o4, o5⟩, z0, z1, z2, z3, z4, z5⟩ := row6_cells HR1.out
  obtain ⟨p0, p1, p2⟩ := srow3_cells HX1.out
  have HNO : Hid (¬ (St.StoreOk cn c rn r v ∧ St.FlowOk y ∧ St.FlowOk x) → StepIs cn c rn r v y x ⟨0, 0, 0, 0, 0, 1⟩) := fun hno => ⟨fun h => absurd h hno, fun _ => rfl⟩
  clear hG1
  cases b1 with
  | false =>
    have hno : ¬ St.StoreOk cn c rn r v := fun h => by have := K1.out.2 h; cases this
    have HSI := Lib.hid (HNO.out (fun h => hno h.1))
    clear hno
    go_wp2_with fail
    refine bodyPost_ret (v := ansV ⟨0, 0, 0, 0, 0, 1⟩) ?_ rfl ⟨⟨_, rfl, HSI⟩, gr_put6 HG1.out HLE.out _ _ _ _ _ _⟩
    obtain ⟨⟨x0, x1, x2, x3, x4, x5⟩, _⟩ := row6_cells (row6_put HR1.out (.int .i64 0) (.int .i64 0) (.int .i64 0) (.int .i64 0) (.int .i64 0) (.int .i64 1))
    simp only [results, Tryd.results76]
    simp [go_sem, x0, x1, x2, x3, x4, x5]
  | true =>
  have hso : St.StoreOk cn c rn r v := by have := K1.out; simpa using this
  have HSO := Lib.hid hso
  clear hso
  by_cases f1 : y < 0
  · have HSI := Lib.hid (HNO.out (fun h => by have := h.2.1.1; omega))
    go_wp2_with fail
    refine bodyPost_ret (v := ansV ⟨0, 0, 0, 0, 0, 1⟩) ?_ rfl ⟨⟨_, rfl, HSI⟩, gr_put6 HG1.out HLE.out _ _ _ _ _ _⟩
    obtain ⟨⟨x0, x1, x2, x3, x4, x5⟩, _⟩ := row6_cells (row6_put HR1.out (.int .i64 0) (.int .i64 0) (.int .i64 0) (.int .i64 0) (.int .i64 0) (.int .i64 1))
    simp only [results, Tryd.results76]
    simp [go_sem, x0, x1, x2, x3, x4, x5]
  by_cases f2 : 1000000 < y
  · have HSI := Lib.hid (HNO.out (fun h => by have := h.2.1.2; omega))
    go_wp2_with fail
    refine bodyPost_ret (v := ansV ⟨0, 0, 0, 0, 0, 1⟩) ?_ rfl ⟨⟨_, rfl, HSI⟩, gr_put6 HG1.out HLE.out _ _ _ _ _ _⟩
    obtain ⟨⟨x0, x1, x2, x3, x4, x5⟩, _⟩ := row6_cells (row6_put HR1.out (.int .i64 0) (.int .i64 0) (.int .i64 0) (.int .i64 0) (.int .i64 0) (.int .i64 1))
    simp only [results, Tryd.results76]
    simp [go_sem, x0, x1, x2, x3, x4, x5]
  by_cases f3 : x < 0
  · have HSI := Lib.hid (HNO.out (fun h => by have := h.2.2.1; omega))
    go_wp2_with fail
    refine bodyPost_ret (v := ansV ⟨0, 0, 0, 0, 0, 1⟩) ?_ rfl ⟨⟨_, rfl, HSI⟩, gr_put6 HG1.out HLE.out _ _ _ _ _ _⟩
    obtain ⟨⟨x0, x1, x2, x3, x4, x5⟩, _⟩ := row6_cells (row6_put HR1.out (.int .i64 0) (.int .i64 0) (.int .i64 0) (.int .i64 0) (.int .i64 0) (.int .i64 1))
    simp only [results, Tryd.results76]
    simp [go_sem, x0, x1, x2, x3, x4, x5]
  by_cases f4 : 1000000 < x
  · have HSI := Lib.hid (HNO.out (fun h => by have := h.2.2.2; omega))
    go_wp2_with fail
    refine bodyPost_ret (v := ansV ⟨0, 0, 0, 0, 0, 1⟩) ?_ rfl ⟨⟨_, rfl, HSI⟩, gr_put6 HG1.out HLE.out _ _ _ _ _ _⟩
    obtain ⟨⟨x0, x1, x2, x3, x4, x5⟩, _⟩ := row6_cells (row6_put HR1.out (.int .i64 0) (.int .i64 0) (.int .i64 0) (.int .i64 0) (.int .i64 0) (.int .i64 1))
    simp only [results, Tryd.results76]
    simp [go_sem, x0, x1, x2, x3, x4, x5]
  clear HNO
  go_wp2_with fail
  refine (sFull_any ca cn ck c ra rn rk v _ HS1.out.cu (by have := HSO.out.1.1; omega) (by have := HSO.out.1.1; omega)).mono ?_
  rintro e W2 ⟨rfl, hG2⟩
  have HG2 : Hid (Gr w W2) := HG1.out.trans hG2
  have HR2 := Lib.hid (brow_gr HR1.out hG2)
  have HX2 := Lib.hid (brow_gr HX1.out hG2)
  have HS2 := Lib.hid (HS1.out.gr hG2)
  clear o0 o1 o2 o3 o4 o5 z0 z1 z2 z3 z4 z5 p0 p1 p2 hG2
  obtain ⟨⟨o0, o1, o2, o3, o4, o5⟩, z0, z1, z2, z3, z4, z5⟩ := row6_cells HR2.out
  obtain ⟨p0, p1, p2⟩ := srow3_cells HX2.out
  have fb := St.full_bounds HSO.out.1
  have hv := HSO.out.2.2
  obtain ⟨f, hf⟩ : ∃ f, f = St.full cn c := ⟨_, rfl⟩
  rw [← hf] at fb hv ⊢
  have HF := Lib.hid hf
  clear hf
  obtain ⟨fb0, fb1⟩ := fb
  obtain ⟨hv0, hv1⟩ := hv
  have hxs0 : 0 ≤ v + y := by omega
  have hxs1 : v + y ≤ 1001000000 := by omega
  obtain ⟨b, hrab, hru⟩ := HS2.out.ru.all (by have := HSO.out.2.1.1; omega)
  subst hrab
  have HRU := Lib.hid hru
  have hm := HSO.out.2.1.1
  clear hru
  go_wp2_with fail
  go_loopw [10, 9] (fun iv gv wr => ∃ (i : Nat), i ≤ rn ∧ iv = .int .i64 i ∧ gv = .int .i64 (St.giveTo r f (v + y) i) ∧ wr = W2) (fun iv _ _ => rn - (intOf iv).toNat)
  case atStart => exact ⟨0, Nat.zero_le _, rfl, rfl, rfl⟩
  case round =>
    obtain ⟨i, hi, rfl, rfl, rfl⟩ := hrel
    by_cases hlt : i < rn
    · have hltz : (i : Int) < (rn : Int) := by omega
      obtain ⟨c0, c1⟩ := HRU.out i hlt
      have hok := (HSO.out.2.1.2.2 i hlt).1
      have q0 : 0 ≤ (r i).a * f := Int.mul_nonneg hok.1.1 (by omega)
      have q1 : (r i).a * f ≤ 100 * 1000000000 := Int.mul_le_mul hok.1.2 fb1 (by omega) (by omega)
      have q2 : (r i).a * f ≤ 100000000000 := by omega
      clear q1 hok
      by_cases hh : (r i).a * f ≤ 100 * (v + y)
      · have HN : Hid ((r i).b = St.giveTo r f (v + y) (i + 1)) := by show _ = _; rw [St.giveTo, if_pos hh]
        go_wp2_with fail
        go_roundw
        case rel => exact ⟨i + 1, by omega, by go_num, by rw [HN.out], by first | rfl | trivial⟩
        case measure => simp [intOf]; omega
      · have HN : Hid (St.giveTo r f (v + y) i = St.giveTo r f (v + y) (i + 1)) := by show _ = _; rw [St.giveTo, if_neg hh]
        go_wp2_with fail
        go_roundw
        case rel => exact ⟨i + 1, by omega, by go_num, by rw [HN.out], by first | rfl | trivial⟩
        case measure => simp [intOf]; omega
    · obtain rfl : i = rn := by omega
      have hge : St.giveTo r f (v + y) i = St.giveOf i r f (v + y) := St.giveTo_all HSO.out.2.1 (by omega) hxs0
      have hgb := St.giveOf_bounds HSO.out.2.1 (f := f) (x := v + y) (by omega) hxs0
      rw [hge]
      obtain ⟨q, hq⟩ : ∃ q, q = St.giveOf i r f (v + y) := ⟨_, rfl⟩
      rw [← hq] at hgb ⊢
      have HQ := Lib.hid hq
      obtain ⟨hgb0, hgb1⟩ := hgb
      have t0 : 0 ≤ x * q := Int.mul_nonneg (by omega) hgb0
      have t1 : x * q ≤ 1000000 * 1000 := Int.mul_le_mul (by omega) hgb1 hgb0 (by omega)
      have t2 : x * q ≤ 1000000000 := by omega
      have t3 : 0 ≤ x * q / 1000 := by omega
      have t4 : x * q / 1000 ≤ 1000000000 := by omega
      clear t1 hge hq
      go_wp2_with fail
      refine (nMin_any (v + y) (x * q / 1000) _).mono ?_
      rintro e W3 ⟨rfl, rfl⟩
      obtain ⟨gv, hgv⟩ : ∃ gv, gv = min (v + y) (x * q / 1000) := ⟨_, rfl⟩
      rw [← hgv]
      have g0 : 0 ≤ gv := by omega
      have g1 : gv ≤ v + y := by omega
      have HGV : Hid (St.givenOf q (v + y) x = gv) := by show _ = _; unfold St.givenOf; omega
      clear hgv
      go_wp2_with fail
      refine (nMax_any 0 (v + y - gv - f) _).mono ?_
      rintro e W4 ⟨rfl, rfl⟩
      obtain ⟨sp, hsp⟩ : ∃ sp, sp = max 0 (v + y - gv - f) := ⟨_, rfl⟩
      rw [← hsp]
      have s0 : 0 ≤ sp := by omega
      have s1 : sp ≤ v + y := by omega
      have HSP : Hid (max (v + y - gv - f) 0 = sp) := by show _ = _; omega
      have HSI : Hid (StepIs cn c i r v y x ⟨v + y - gv - sp, gv, sp, x - gv, 0, 0⟩) := by
        refine ⟨fun _ => ?_, fun h => absurd ⟨HSO.out, ⟨by omega, by omega⟩, ⟨by omega, by omega⟩⟩ h⟩
        rw [← HF.out, ← HQ.out]
        unfold St.stepOf
        rw [HGV.out, HSP.out]
      clear hsp t0 t2 t3 t4
      go_wp2_with fail
      refine bodyPost_ret (v := ansV ⟨v + y - gv - sp, gv, sp, x - gv, 0, 0⟩) ?_ rfl ⟨⟨_, rfl, HSI⟩, gr_put6 HG2.out HLE.out _ _ _ _ _ _⟩
      obtain ⟨⟨x0, x1, x2, x3, x4, x5⟩, _⟩ := row6_cells (row6_put HR2.out (.int .i64 (v + y - gv - sp)) (.int .i64 gv) (.int .i64 sp) (.int .i64 (x - gv)) (.int .i64 0) (.int .i64 0))
      simp only [results, Tryd.results76]
      simp [go_sem, x0, x1, x2, x3, x4, x5]
end Go.Proofs.YtdpghhmcibiplaaDoor
