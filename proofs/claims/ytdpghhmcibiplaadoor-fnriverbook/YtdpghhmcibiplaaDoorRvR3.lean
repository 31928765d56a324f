/-
  The program's run of a river that goes well.
-/
import Derived.Test.YtdpghhmcibiplaaDoorRvR2
import Derived.Deep.DeepCutAuto
namespace Go.Proofs.YtdpghhmcibiplaaDoor
open Go.RowKit Go.Deep

set_option maxRecDepth 100000 in
set_option maxHeartbeats 8000000 in
theorem runR_ok (lb n cn : Nat) (ra : Option Addr) (M cr : Nat) (rs : Nat → Rv.Rc) (q : Nat → Rv.Rain) (t : Rv.RSt) (w : World) (h : ∀ i, i < n → RcCells lb (i * 5) (rs i) w) (h2 : RainsAt ra M q w) (hM : M ≤ 60) (hr : Rv.Right n rs) (ht : Rv.runs n rs q M = some t) :
    Calls Tryd.prog 73 #[.slice (some ⟨lb, 0, none⟩) n cn, .slice ra M cr] w fun e w' => (∃ gl gf gt c, e = .returned (.tuple #[vRo n gl gf gt c n n t.sea 0, .nilIface]) ∧ (w.heap.size ≤ gl ∧ w.heap.size ≤ gt) ∧ RcBlk gl n t.rs w' ∧ InBlk gt n t.tk w') ∧ Below w.heap.size w w' := by
  have hn1 : 1 ≤ n := hr.1.1
  have hn2 : n ≤ 40 := hr.1.2
  have H := Lib.hid h
  have H2 := Lib.hid h2
  have HR := Lib.hid hr
  have HT := Lib.hid ht
  have hlb : lb < w.heap.size := (h 0 (by omega)).lt
  clear h h2 hr ht
  go_enter Tryd.func73, Tryd.ntmps73
  go_wp2_with fail
  refine (implRight_any _ n cn rs _ (RcsAt.below (Or.inr ⟨lb, rfl, H.out⟩) ((Below.refl _ _).alloc (Nat.le_refl _) _))).mono ?_
  rintro e w1 ⟨⟨b1, rfl, hb1⟩, hb⟩
  obtain rfl : b1 = true := hb1.2 HR.out
  have HS1 := Lib.hid ((RoSlot.start w).next hb)
  clear hb hb1
  go_wp2_with fail
  refine (still_any lb n cn rs _ (fun i hi => (H.out i hi).block (HS1.out.old.block _ hlb)) (by omega) (by omega)).mono ?_
  rintro e w3 ⟨⟨gl, gf, gt, c, rfl, hL⟩, hb⟩
  have zz := HS1.out.lt
  have HST : Hid (RR w n gl gf gt c w3.heap.size ⟨rs, fun _ => 0, fun _ => 0, 0⟩ (w3.alloc (.cells #[.slice (some ⟨gl, 0, none⟩) n c, .slice (some ⟨gf, 0, none⟩) n n, .slice (some ⟨gt, 0, none⟩) n n, .int .i64 0, .int .i64 0] 27))) := by
    have l1 := hL.2.2.1.lt
    have l2 := hL.2.2.2.1.lt
    have l3 := hL.2.2.2.2.lt
    have k1 := hL.1
    have k2 := hL.2.1
    have z3 := (HS1.out.next hb).lt
    exact ⟨(HS1.out.next hb).alloc _, World.rowIs_alloc w3 #[.slice (some ⟨gl, 0, none⟩) n c, .slice (some ⟨gf, 0, none⟩) n n, .slice (some ⟨gt, 0, none⟩) n n, .int .i64 0, .int .i64 0] 27 _ (ro5_row _ _ _ _ _), hL.2.2.1.alloc _, hL.2.2.2.1.alloc _, hL.2.2.2.2.alloc _, by omega⟩
  clear hL hb HS1 zz
  go_wp2_with fail
  generalize (w3.alloc (.cells #[.slice (some ⟨gl, 0, none⟩) n c, .slice (some ⟨gf, 0, none⟩) n n, .slice (some ⟨gt, 0, none⟩) n n, .int .i64 0, .int .i64 0] 27)) = W3 at *
  generalize w3.heap.size = po at *
  go_loopw [22] (fun iv wr => ∃ (k gl c : Nat) (t' : Rv.RSt), k ≤ M ∧ iv = .int .i64 k ∧ Hid (Rv.runs n rs q k = some t') ∧ Hid (RR w n gl gf gt c po t' wr)) (fun iv _ => M - (intOf iv).toNat)
  case atStart => exact ⟨0, gl, c, _, Nat.zero_le _, rfl, rfl, HST⟩
  case round =>
    obtain ⟨k, gl, c, t', hk, rfl, hrun, hS⟩ := hrel
    clear HST
    by_cases hlt : k < M
    · have hltz : (k : Int) < (M : Int) := by omega
      obtain ⟨t2, ht2⟩ := Rv.runs_some (k := k + 1) HT.out hlt
      obtain ⟨t0, s, e0, hok, hs, rfl⟩ := Rv.runs_prev ht2
      rw [hrun.out] at e0
      cases e0
      have hbk := Rv.runs_book HR.out hrun.out
      have HBK := Lib.hid hbk
      have hst : Rv.step n (q k).len t'.rs (q k).at_ = .ok s := Rv.step_ok ⟨hbk.1, hok.1, hok.2⟩ hs
      have HI := Lib.hid (Rv.run_inv hbk.1 hok.2 (Nat.le_refl _) hs)
      have HN := Lib.hid ht2
      obtain ⟨rb, ra', rc', rfl, c0, cI⟩ := (H2.out.below hS.out.slot.old).at_ hlt
      rw [hok.1] at c0 cI hst
      have HSTP := Lib.hid hst
      have CI := Lib.hid cI
      have p0 : wr.cell? ⟨po, 0, none⟩ = some (.slice (some ⟨gl, 0, none⟩) n c) := hS.out.out.cell (i := 0) (by omega)
      have HOK := Lib.hid hok
      have hrb : rb < wr.heap.size := World.block_lt_of_cell? _ _ c0
      have hpo : po < wr.heap.size := World.block_lt_of_cell? _ _ p0
      clear hbk hst cI ht2 hs hok
      go_wp2_with fail
      go_cut [8, 9] (fun p e W => ∃ ps xl xf xt xc, p = .pointer (some ⟨ps, 0, none⟩) ∧ e = .nilIface ∧ Hid (RS w n gl gf gt c po t' s ps xl xf xt xc W))
      case first =>
        go_region_with (go_at_call 62; refine (step_yes _ _ n c n rc' t'.rs (q k).at_ _ ?_ ?_ (by omega) s HSTP.out).mono ?_; (first | exact hS.out.ls.at_.below ((Below.refl _ _).drew) | exact (hS.out.ls.at_.below ((Below.refl _ _).alloc (Nat.le_refl _) _)).below (Below.refl _ _).drew); (first | exact CI.out.below ((Below.refl _ _).drew) | exact (CI.out.below ((Below.refl _ _).alloc (Nat.le_refl _) _)).below (Below.refl _ _).drew); rintro e w1 ⟨⟨xl, xf, xt, xc, rfl, hL⟩, hb⟩; (first | (have hs : RoSlot wr w1 := (RoSlot.start wr).drew.next hb; obtain ⟨⟨q0, q1, q2, q3, q4⟩, ⟨f0, f1, f2, f3, f4⟩⟩ := hs.kept; have hz := hs.lt; clear hs) | skip); have HL := Lib.hid hL; have HB := Lib.hid hb; clear hL hb)
        all_goals go_wp2_with fail
        all_goals go_meet
        all_goals (case rel => first | exact ⟨_, xl, xf, xt, xc, rfl, rfl, rs_a hS.out HL.out (((Below.refl _ _).drew).trans HB.out) xc⟩ | exact ⟨_, xl, xf, xt, xc, rfl, rfl, rs_b hS.out (by have e := HL.out; simpa using e) ((RoSlot.start wr).drew.next HB.out) xc⟩)
      case rest =>
        obtain ⟨ps, xl, xf, xt, xc, rfl, rfl, hC⟩ := hcut
        have HK2 := Rv.runs_book HR.out HN.out
        have HKB := Lib.hid HK2.2.2.2
        have hsea0 := HBK.out.2.2.1.1
        have hsea1 := HI.out.sea0
        have hsea2 : t'.sea + s.sea ≤ 60 * 40040000000 := by
          have h1 := HK2.2.2.1.2
          have h2 : ((k + 1 : Nat) : Int) ≤ 60 := by omega
          show t'.sea + s.sea ≤ _
          have h3 : t'.sea + s.sea ≤ ((k + 1 : Nat) : Int) * 40040000000 := h1
          omega
        have B0 : wc.cell? ⟨ps, 0, none⟩ = some (.slice (some ⟨xl, 0, none⟩) n xc) := hC.out.box.cell (i := 0) (by omega)
        have B1 : wc.cell? ⟨ps, 1, none⟩ = some (.slice (some ⟨xf, 0, none⟩) n n) := hC.out.box.cell (i := 1) (by omega)
        have B3 : wc.cell? ⟨ps, 3, none⟩ = some (.int .i64 s.sea) := hC.out.box.cell (i := 3) (by omega)
        have P1 : wc.cell? ⟨po, 1, none⟩ = some (.slice (some ⟨gf, 0, none⟩) n n) := hC.out.rr.out.cell (i := 1) (by omega)
        have P0 : wc.cell? ⟨po, 0, none⟩ = some (.slice (some ⟨gl, 0, none⟩) n c) := hC.out.rr.out.cell (i := 0) (by omega)
        have P3 : wc.cell? ⟨po, 3, none⟩ = some (.int .i64 t'.sea) := hC.out.rr.out.cell (i := 3) (by omega)
        have G0 := hC.out.rr.out.frozen 0
        have G3 := hC.out.rr.out.frozen 3
        have hpp : po ≠ ps := by obtain ⟨B, h1, h2, _, _⟩ := hC.out.far; omega
        have hpp2 : ps ≠ po := fun e => hpp e.symm
        have hfb : ∀ j, j < n → ((0 ≤ t'.fl j ∧ t'.fl j ≤ 4000000000000) ∧ (0 ≤ s.fl j ∧ s.fl j ≤ 4000000000000)) ∧ ((0 ≤ t'.tk j ∧ t'.tk j ≤ 4000000000000) ∧ (0 ≤ s.tk j ∧ s.tk j ≤ 4000000000000)) := by
          intro j hj
          have h1 : (0 ≤ t'.tk j + s.tk j ∧ t'.tk j + s.tk j ≤ ((k + 1 : Nat) : Int) * 1000000) ∧ (0 ≤ t'.fl j + s.fl j ∧ t'.fl j + s.fl j ≤ ((k + 1 : Nat) : Int) * 41040000000) := HKB.out j hj
          have h2 := HBK.out.2.2.2 j hj
          have h3 := HI.out.tk0 j hj
          have h4 : ((k + 1 : Nat) : Int) ≤ 60 := by omega
          omega
        have HFB := Lib.hid hfb
        clear HK2 p0 c0 hrb hfb
        go_wp2_with fail
        refine (add_any gf xf n n n t'.fl s.fl (rW po n xl xc (t'.sea + s.sea) wc) ?_ ?_ ?_ (by omega) (fun j hj => (HFB.out j hj).1)).mono ?_
        · exact hC.out.rr.fl.block (rW_block _ _ _ _ _ _ gf (by have := hC.out.rr.far; omega))
        · exact hC.out.fl.block (rW_block _ _ _ _ _ _ xf (by obtain ⟨B, h1, h2, _, _⟩ := hC.out.far; omega))
        · obtain ⟨B, h1, h2, _, _⟩ := hC.out.far; omega
        rintro e w2 ⟨rfl, h2⟩
        have hsz : (rW po n xl xc (t'.sea + s.sea) wc).heap.size = wc.heap.size := by simp [rW]
        have Q2 : w2.cell? ⟨po, 2, none⟩ = some (.slice (some ⟨gt, 0, none⟩) n n) := (((hC.out.rr.out.set 0 (.slice (some ⟨xl, 0, none⟩) n xc)).set 3 (.int .i64 (t'.sea + s.sea))).of_block (h2.2.1 po (by rw [hsz]; exact hC.out.rr.out.lt) (by have := hC.out.rr.far; omega))).cell (i := 2) (by omega)
        have E2 : ∀ b, b < wc.heap.size → b ≠ po → b ≠ gf → w2.heap[b]? = wc.heap[b]? := fun b hb n1 n2 => (h2.2.1 b (by rw [hsz]; exact hb) n2).trans (rW_block _ _ _ _ _ _ b n1)
        have B2 : w2.cell? ⟨ps, 2, none⟩ = some (.slice (some ⟨xt, 0, none⟩) n n) := (hC.out.box.of_block (E2 ps hC.out.box.lt hpp2 (by obtain ⟨B, h1, h2, _, _⟩ := hC.out.far; omega))).cell (i := 2) (by omega)
        have HH2 := Lib.hid h2
        have HE2 := Lib.hid E2
        clear h2 E2 hsz P0 P1 P3 B0 B1 B3 G0 G3
        go_wp2_with fail
        refine (add_any gt xt n n n t'.tk s.tk w2 ?_ ?_ ?_ (by omega) (fun j hj => (HFB.out j hj).2)).mono ?_
        · exact hC.out.rr.tk.block (HE2.out gt hC.out.rr.tk.lt (by have := hC.out.rr.far; omega) (by have := hC.out.rr.far; omega))
        · exact hC.out.tk.block (HE2.out xt hC.out.tk.lt (by obtain ⟨B, h1, h2, _, _⟩ := hC.out.far; omega) (by obtain ⟨B, h1, h2, _, _⟩ := hC.out.far; omega))
        · obtain ⟨B, h1, h2, _, _⟩ := hC.out.far; omega
        rintro e w4 ⟨rfl, h3⟩
        have HRR := Lib.hid (rr_next hC.out HH2.out h3)
        clear h3 HH2 HE2 Q2 B2
        go_wp2_with fail
        go_roundw
        case rel => exact ⟨k + 1, xl, xc, _, by omega, by go_num, HN, HRR⟩
        case measure => simp [intOf]; omega
    · obtain rfl : k = M := by omega
      obtain ⟨⟨q0, q1, q2, q3, q4⟩, ⟨f0, f1, f2, f3, f4⟩⟩ := hS.out.slot.kept
      have hz := hS.out.slot.lt
      have hzp : po < wr.heap.size := hS.out.out.lt
      obtain rfl : t' = t := by have h1 := hrun.out; rw [HT.out] at h1; cases h1; rfl
      have p0 : wr.cell? ⟨po, 0, none⟩ = some (.slice (some ⟨gl, 0, none⟩) n c) := hS.out.out.cell (i := 0) (by omega)
      have p1 : wr.cell? ⟨po, 1, none⟩ = some (.slice (some ⟨gf, 0, none⟩) n n) := hS.out.out.cell (i := 1) (by omega)
      have p2 : wr.cell? ⟨po, 2, none⟩ = some (.slice (some ⟨gt, 0, none⟩) n n) := hS.out.out.cell (i := 2) (by omega)
      have p3 : wr.cell? ⟨po, 3, none⟩ = some (.int .i64 t'.sea) := hS.out.out.cell (i := 3) (by omega)
      have p4 : wr.cell? ⟨po, 4, none⟩ = some (.int .i64 0) := hS.out.out.cell (i := 4) (by omega)
      have hF := Lib.hid (hS.out.slot.fin (.slice (some ⟨gl, 0, none⟩) n c) (.slice (some ⟨gf, 0, none⟩) n n) (.slice (some ⟨gt, 0, none⟩) n n) (.int .i64 t'.sea) (.int .i64 0))
      go_wp2_with fail
      exact bodyPost_ret (v := .tuple #[vRo n gl gf gt c n n t'.sea 0, .nilIface]) (by
        obtain ⟨⟨x0, x1, x2, x3, x4⟩, _⟩ := hF.out
        simp only [results, Tryd.results73]
        simp [go_sem, x0, x1, x2, x3, x4]) rfl ⟨⟨gl, gf, gt, c, rfl, (by have := hS.out.far; omega), hS.out.ls.block (putRo_block _ _ _ _ _ _ _ _ (by have := hS.out.far; omega)), hS.out.tk.block (putRo_block _ _ _ _ _ _ _ _ (by have := hS.out.far; omega))⟩, hF.out.2⟩
end Go.Proofs.YtdpghhmcibiplaaDoor
