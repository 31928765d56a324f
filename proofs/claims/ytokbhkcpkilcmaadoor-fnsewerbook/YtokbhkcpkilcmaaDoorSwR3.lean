/-
  The program's run of sewers.
-/
import Derived.Test.YtokbhkcpkilcmaaDoorSwR2
import Derived.Test.YtokbhkcpkilcmaaDoorSwI7
namespace Go.Proofs.YtokbhkcpkilcmaaDoor
open Go.RowKit Go.Deep

/-- How the program's run ends. -/
def RunEnd (w : World) (n : Nat) (r : Option Sw.RSt) (e : Ending) (w' : World) : Prop :=
  (∃ y k, r = none ∧ AsFinds y k ∧ k ≠ 0 ∧ e = .returned (.tuple #[zRo, .iface 66 y])) ∨
  (∃ t gl gf gt c, r = some t ∧ e = .returned (.tuple #[vRo n gl gf gt c n n t.sea 0, .nilIface]) ∧ OutL w.heap.size n gl gf gt t.rs t.fl t.tk w')
theorem OutL.of_rr {w W : World} {n gl gf gt c po : Nat} {t : Sw.RSt} (h : RR w n gl gf gt c po t W) : OutL (w.heap.size + 1) n gl gf gt t.rs t.fl t.tk W := by
  have := h.far
  exact ⟨by omega, by omega, h.ls, h.fl, h.tk⟩

set_option maxRecDepth 100000 in
set_option maxHeartbeats 2000000 in
theorem runR_no (a ra : Option Addr) (n cn M cr : Nat) (rs : Nat → Sw.Rc) (w : World) (h : RcsAt a n rs w) (hr : ¬ Sw.Right n rs) :
    Calls Tryd.prog 43 #[.slice a n cn, .slice ra M cr] w fun e w' => (∃ s, e = .returned (.tuple #[zRo, errV s 1])) ∧ Below w.heap.size w w' := by
  have H := Lib.hid h
  clear h
  go_enter Tryd.func43, Tryd.ntmps43
  go_wp2_with fail
  refine (implRight_any a n cn rs _ (H.out.below ((Below.refl _ _).alloc (Nat.le_refl _) _))).mono ?_
  rintro e w1 ⟨⟨b1, rfl, hb1⟩, hb⟩
  obtain rfl : b1 = false := by
    cases b1 with
    | false => rfl
    | true => exact absurd (hb1.1 rfl) hr
  have hs : RoSlot w w1 := (RoSlot.start w).next hb
  obtain ⟨⟨q0, q1, q2, q3, q4⟩, ⟨f0, f1, f2, f3, f4⟩⟩ := hs.kept
  have hz := hs.lt
  have hF := Lib.hid (hs.fin (.slice none 0 0) (.slice none 0 0) (.slice none 0 0) (.int .i64 0) (.int .i64 0))
  clear hs hb hb1
  go_wp2_with fail
  exact bodyPost_ret (v := .tuple #[zRo, errV ⟨#[115, 101, 119, 101, 114, 115]⟩ 1]) (by
    obtain ⟨⟨x0, x1, x2, x3, x4⟩, _⟩ := hF.out
    simp only [results, Tryd.results43]
    simp [go_sem, x0, x1, x2, x3, x4]) rfl ⟨⟨_, rfl⟩, hF.out.2⟩

set_option maxRecDepth 100000 in
set_option maxHeartbeats 8000000 in
theorem runR_go (lb n cn : Nat) (ra : Option Addr) (M cr : Nat) (rs : Nat → Sw.Rc) (q : Nat → Sw.Rain) (w : World) (h : ∀ i, i < n → RcCells lb (i * 6) (rs i) w) (h2 : RainsAt ra M q w) (hq : ∀ k, k < M → (q k).len ≤ 4194304) (hM : M ≤ 60) (hr : Sw.Right n rs) :
    Calls Tryd.prog 43 #[.slice (some ⟨lb, 0, none⟩) n cn, .slice ra M cr] w fun e w' => RunEnd w n (Sw.runs n rs q M) e w' ∧ Below w.heap.size w w' := by
  have hn1 : 1 ≤ n := hr.1.1
  have hn2 : n ≤ 40 := hr.1.2
  have H := Lib.hid h
  have H2 := Lib.hid h2
  have HQ := Lib.hid hq
  have HR := Lib.hid hr
  have hlb : lb < w.heap.size := (h 0 (by omega)).lt
  clear h h2 hr hq
  go_enter Tryd.func43, Tryd.ntmps43
  go_wp2_with fail
  refine (implRight_any _ n cn rs _ (RcsAt.below (RcsAt.of H.out) ((Below.refl _ _).alloc (Nat.le_refl _) _))).mono ?_
  rintro e w1 ⟨⟨b1, rfl, hb1⟩, hb⟩
  obtain rfl : b1 = true := hb1.2 HR.out
  have HS1 := Lib.hid ((RoSlot.start w).next hb)
  clear hb hb1
  go_wp2_with fail
  refine (still_any lb n cn rs _ (fun i hi => (H.out i hi).block (HS1.out.old.block _ hlb)) (by omega) (by omega)).mono ?_
  rintro e w3 ⟨⟨gl, gf, gt, c, rfl, hL⟩, hb⟩
  have zz := HS1.out.lt
  have HST : Hid (RR w n gl gf gt c w3.heap.size ⟨rs, fun _ => 0, fun _ => 0, 0⟩ (w3.alloc (.cells #[.slice (some ⟨gl, 0, none⟩) n c, .slice (some ⟨gf, 0, none⟩) n n, .slice (some ⟨gt, 0, none⟩) n n, .int .i64 0, .int .i64 0] 27))) := by
    have l1 := hL.2.2.1.lt
    have l2 := hL.2.2.2.1.lt
    have l3 := hL.2.2.2.2.lt
    have k1 := hL.1
    have k2 := hL.2.1
    have z3 := (HS1.out.next hb).lt
    exact ⟨(HS1.out.next hb).alloc _, World.rowIs_alloc w3 #[.slice (some ⟨gl, 0, none⟩) n c, .slice (some ⟨gf, 0, none⟩) n n, .slice (some ⟨gt, 0, none⟩) n n, .int .i64 0, .int .i64 0] 27 _ (ro5_row _ _ _ _ _), hL.2.2.1.alloc _, IsBlk.alloc hL.2.2.2.1 _, IsBlk.alloc hL.2.2.2.2 _, by omega⟩
  clear hL hb HS1 zz
  go_wp2_with fail
  generalize (w3.alloc (.cells #[.slice (some ⟨gl, 0, none⟩) n c, .slice (some ⟨gf, 0, none⟩) n n, .slice (some ⟨gt, 0, none⟩) n n, .int .i64 0, .int .i64 0] 27)) = W3 at *
  generalize w3.heap.size = po at *
  go_loopw [23] (fun iv wr => ∃ (k gl c : Nat) (t' : Sw.RSt), k ≤ M ∧ iv = .int .i64 k ∧ Hid (Sw.runs n rs q k = some t') ∧ Hid (RR w n gl gf gt c po t' wr)) (fun iv _ => M - (intOf iv).toNat)
  case atStart => exact ⟨0, gl, c, _, Nat.zero_le _, rfl, rfl, HST⟩
  case round =>
    obtain ⟨k, gl, c, t', hk, rfl, hrun, hS⟩ := hrel
    clear HST
    by_cases hlt : k < M
    · have hltz : (k : Int) < (M : Int) := by omega
      have HBK := Lib.hid (Sw.runs_book HR.out hrun.out)
      obtain ⟨rb, ra', rc', rfl, c0, cI⟩ := (H2.out.below hS.out.slot.old).at_ hlt
      have CI := Lib.hid cI
      have p0 : wr.cell? ⟨po, 0, none⟩ = some (.slice (some ⟨gl, 0, none⟩) n c) := hS.out.out.cell (i := 0) (by omega)
      clear cI
      go_wp2_with fail
      refine (step_any _ _ n c (q k).len rc' t'.rs (q k).at_ _ hS.out.ls.at_ CI.out (HQ.out k hlt)).mono ?_
      rintro e w1 ⟨hE, hb⟩
      rcases hE with ⟨k', s', hk1, hk0, rfl⟩ | ⟨s, xl, xf, xt, xc, hk1, rfl, hL⟩
      · have HNO : Hid (Sw.runs n rs q M = none) := by
          refine Sw.runs_bad hrun.out (fun hok => ?_) hlt
          rw [Sw.step_ok ⟨HBK.out.1, hok⟩] at hk1
          cases hk1
        have HK0 := Lib.hid hk0
        have hs : RoSlot w (w1.alloc (.cells #[.slice none 0 0, .slice none 0 0, .slice none 0 0, .int .i64 0, .int .i64 0] 27)) := (hS.out.slot.next hb).alloc _
        have hs1 : RoSlot w w1 := hS.out.slot.next hb
        have hz1 := hs1.lt
        have HSS := Lib.hid hs
        clear hk1 hk0 hb hs hs1 p0 c0
        go_upto_region 8 with fail
        generalize (w1.alloc (.cells #[.slice none 0 0, .slice none 0 0, .slice none 0 0, .int .i64 0, .int .i64 0] 27)) = W1 at *
        go_wp2_with fail
        refine (itoa_any k (by omega) _).mono ?_
        rintro e w2 ⟨⟨tx, rfl, htx⟩, rfl⟩
        have htz : ¬ 9223372036854775807 < 5 + tx.size := by omega
        obtain ⟨⟨q0, q1, q2, q3, q4⟩, ⟨f0, f1, f2, f3, f4⟩⟩ := HSS.out.kept
        have hF := Lib.hid (HSS.out.fin (.slice none 0 0) (.slice none 0 0) (.slice none 0 0) (.int .i64 0) (.int .i64 0))
        go_wp2_with fail
        exact bodyPost_ret (v := .tuple #[zRo, .iface 66 (.agg #[.string ((⟨#[115, 116, 101, 112, 32]⟩ : ByteArray) ++ tx), errV s' k'])]) (by
          obtain ⟨⟨x0, x1, x2, x3, x4⟩, _⟩ := hF.out
          simp only [results, Tryd.results43]
          simp [go_sem, x0, x1, x2, x3, x4]) rfl ⟨Or.inl ⟨_, k', HNO.out, finds_two _ s' k', HK0.out, rfl⟩, hF.out.2⟩
      · obtain ⟨hok, rfl⟩ := Sw.step_inv hk1
        have HN : Hid (Sw.runs n rs q (k + 1) = some (Sw.nextR n t' (q k))) := Sw.runs_next hrun.out hok.2
        have HI := Lib.hid (Sw.run_inv hok.1 hok.2.2 (Nat.le_refl _))
        have HEQ : Hid (Sw.nextR n t' (q k) = ⟨Sw.after t'.rs (Sw.run t'.rs (q k).at_ n), fun j => t'.fl j + (Sw.run t'.rs (q k).at_ n).fl j, fun j => t'.tk j + (Sw.run t'.rs (q k).at_ n).tk j, t'.sea + (Sw.run t'.rs (q k).at_ n).sea⟩) := rfl
        have HC := Lib.hid (rs_a hS.out hL hb xc)
        clear hk1 hb hL p0 c0 hS
        generalize Sw.run t'.rs (q k).at_ n = s at *
        go_upto_region 8 with fail
        generalize (w1.alloc (.cells #[.slice (some ⟨xl, 0, none⟩) n xc, .slice (some ⟨xf, 0, none⟩) n n, .slice (some ⟨xt, 0, none⟩) n n, .int .i64 s.sea, .int .i64 0] 27)) = wc at *
        generalize w1.heap.size = ps at *
        have hC := HC
        have HK2 := Sw.runs_book HR.out HN.out
        rw [HEQ.out] at HK2
        have HKB := Lib.hid HK2.2.2.2
        have hsea0 := HBK.out.2.2.1.1
        have hsea1 := HI.out.sea0
        have hsea2 : t'.sea + s.sea ≤ 60 * 80000000 := by
          have h1 := HK2.2.2.1.2
          have h2 : ((k + 1 : Nat) : Int) ≤ 60 := by omega
          have h3 : t'.sea + s.sea ≤ ((k + 1 : Nat) : Int) * 80000000 := h1
          omega
        have B0 : wc.cell? ⟨ps, 0, none⟩ = some (.slice (some ⟨xl, 0, none⟩) n xc) := hC.out.box.cell (i := 0) (by omega)
        have B1 : wc.cell? ⟨ps, 1, none⟩ = some (.slice (some ⟨xf, 0, none⟩) n n) := hC.out.box.cell (i := 1) (by omega)
        have B3 : wc.cell? ⟨ps, 3, none⟩ = some (.int .i64 s.sea) := hC.out.box.cell (i := 3) (by omega)
        have P1 : wc.cell? ⟨po, 1, none⟩ = some (.slice (some ⟨gf, 0, none⟩) n n) := hC.out.rr.out.cell (i := 1) (by omega)
        have P0 : wc.cell? ⟨po, 0, none⟩ = some (.slice (some ⟨gl, 0, none⟩) n c) := hC.out.rr.out.cell (i := 0) (by omega)
        have P3 : wc.cell? ⟨po, 3, none⟩ = some (.int .i64 t'.sea) := hC.out.rr.out.cell (i := 3) (by omega)
        have G0 := hC.out.rr.out.frozen 0
        have G3 := hC.out.rr.out.frozen 3
        have hpp : po ≠ ps := by obtain ⟨B, h1, h2, _, _⟩ := hC.out.far; omega
        have hpp2 : ps ≠ po := fun e => hpp e.symm
        have hfb : ∀ j, j < n → ((0 ≤ t'.fl j ∧ t'.fl j ≤ 4000000000000) ∧ (0 ≤ s.fl j ∧ s.fl j ≤ 4000000000000)) ∧ ((0 ≤ t'.tk j ∧ t'.tk j ≤ 4000000000000) ∧ (0 ≤ s.tk j ∧ s.tk j ≤ 4000000000000)) := by
          intro j hj
          have h1 : (0 ≤ t'.tk j + s.tk j ∧ t'.tk j + s.tk j ≤ ((k + 1 : Nat) : Int) * 80000000) ∧ (0 ≤ t'.fl j + s.fl j ∧ t'.fl j + s.fl j ≤ ((k + 1 : Nat) : Int) * 80000000) := HKB.out j hj
          have h2 := HBK.out.2.2.2 j hj
          have h3 := HI.out.tk0 j hj
          have h4 : ((k + 1 : Nat) : Int) ≤ 60 := by omega
          omega
        have HFB := Lib.hid hfb
        clear HK2 hfb
        go_wp2_with fail
        refine (add_any gf xf n n n t'.fl s.fl (rW po n xl xc (t'.sea + s.sea) wc) ?_ ?_ ?_ (by omega) (fun j hj => (HFB.out j hj).1)).mono ?_
        · exact hC.out.rr.fl.block (rW_block _ _ _ _ _ _ gf (by have := hC.out.rr.far; omega))
        · exact hC.out.fl.block (rW_block _ _ _ _ _ _ xf (by obtain ⟨B, h1, h2, _, _⟩ := hC.out.far; omega))
        · obtain ⟨B, h1, h2, _, _⟩ := hC.out.far; omega
        rintro e w2 ⟨rfl, h2⟩
        have hsz : (rW po n xl xc (t'.sea + s.sea) wc).heap.size = wc.heap.size := by simp [rW]
        have Q2 : w2.cell? ⟨po, 2, none⟩ = some (.slice (some ⟨gt, 0, none⟩) n n) := (((hC.out.rr.out.set 0 (.slice (some ⟨xl, 0, none⟩) n xc)).set 3 (.int .i64 (t'.sea + s.sea))).of_block (h2.2.1 po (by rw [hsz]; exact hC.out.rr.out.lt) (by have := hC.out.rr.far; omega))).cell (i := 2) (by omega)
        have E2 : ∀ b, b < wc.heap.size → b ≠ po → b ≠ gf → w2.heap[b]? = wc.heap[b]? := fun b hb n1 n2 => (h2.2.1 b (by rw [hsz]; exact hb) n2).trans (rW_block _ _ _ _ _ _ b n1)
        have B2 : w2.cell? ⟨ps, 2, none⟩ = some (.slice (some ⟨xt, 0, none⟩) n n) := (hC.out.box.of_block (E2 ps hC.out.box.lt hpp2 (by obtain ⟨B, h1, h2, _, _⟩ := hC.out.far; omega))).cell (i := 2) (by omega)
        have HH2 := Lib.hid h2
        have HE2 := Lib.hid E2
        clear h2 E2 hsz P0 P1 P3 B0 B1 B3 G0 G3
        go_wp2_with fail
        refine (add_any gt xt n n n t'.tk s.tk w2 ?_ ?_ ?_ (by omega) (fun j hj => (HFB.out j hj).2)).mono ?_
        · exact hC.out.rr.tk.block (HE2.out gt hC.out.rr.tk.lt (by have := hC.out.rr.far; omega) (by have := hC.out.rr.far; omega))
        · exact hC.out.tk.block (HE2.out xt hC.out.tk.lt (by obtain ⟨B, h1, h2, _, _⟩ := hC.out.far; omega) (by obtain ⟨B, h1, h2, _, _⟩ := hC.out.far; omega))
        · obtain ⟨B, h1, h2, _, _⟩ := hC.out.far; omega
        rintro e w4 ⟨rfl, h3⟩
        have HRR := Lib.hid (rr_next hC.out HH2.out h3)
        clear h3 HH2 HE2 Q2 B2
        go_wp2_with fail
        go_roundw
        case rel => exact ⟨k + 1, xl, xc, _, by omega, by go_num, HN, by rw [HEQ.out]; exact HRR⟩
        case measure => simp [intOf]; omega
    · obtain rfl : k = M := by omega
      obtain ⟨⟨q0, q1, q2, q3, q4⟩, ⟨f0, f1, f2, f3, f4⟩⟩ := hS.out.slot.kept
      have hz := hS.out.slot.lt
      have hzp : po < wr.heap.size := hS.out.out.lt
      have p0 : wr.cell? ⟨po, 0, none⟩ = some (.slice (some ⟨gl, 0, none⟩) n c) := hS.out.out.cell (i := 0) (by omega)
      have p1 : wr.cell? ⟨po, 1, none⟩ = some (.slice (some ⟨gf, 0, none⟩) n n) := hS.out.out.cell (i := 1) (by omega)
      have p2 : wr.cell? ⟨po, 2, none⟩ = some (.slice (some ⟨gt, 0, none⟩) n n) := hS.out.out.cell (i := 2) (by omega)
      have p3 : wr.cell? ⟨po, 3, none⟩ = some (.int .i64 t'.sea) := hS.out.out.cell (i := 3) (by omega)
      have p4 : wr.cell? ⟨po, 4, none⟩ = some (.int .i64 0) := hS.out.out.cell (i := 4) (by omega)
      have hF := Lib.hid (hS.out.slot.fin (.slice (some ⟨gl, 0, none⟩) n c) (.slice (some ⟨gf, 0, none⟩) n n) (.slice (some ⟨gt, 0, none⟩) n n) (.int .i64 t'.sea) (.int .i64 0))
      have HO := Lib.hid ((OutL.of_rr hS.out).put (.slice (some ⟨gl, 0, none⟩) n c) (.slice (some ⟨gf, 0, none⟩) n n) (.slice (some ⟨gt, 0, none⟩) n n) (.int .i64 t'.sea) (.int .i64 0))
      go_wp2_with fail
      exact bodyPost_ret (v := .tuple #[vRo n gl gf gt c n n t'.sea 0, .nilIface]) (by
        obtain ⟨⟨x0, x1, x2, x3, x4⟩, _⟩ := hF.out
        simp only [results, Tryd.results43]
        simp [go_sem, x0, x1, x2, x3, x4]) rfl ⟨Or.inr ⟨t', gl, gf, gt, c, hrun.out, rfl, HO.out.lower (by omega)⟩, hF.out.2⟩
/-- How SewerRun ends: the answer. -/
def RunOut (w : World) (n : Nat) (r : Option Sw.RSt) (e : Ending) (w' : World) : Prop :=
  (∃ k, r = none ∧ k ≠ 0 ∧ e = .returned (.agg #[.slice none 0 0, .slice none 0 0, .slice none 0 0, .int .i64 0, .int .i64 k])) ∨
  (∃ t gl gf gt c, r = some t ∧ e = .returned (vRo n gl gf gt c n n t.sea 0) ∧ OutL w.heap.size n gl gf gt t.rs t.fl t.tk w')
theorem runR_any (a ra : Option Addr) (n cn M cr : Nat) (rs : Nat → Sw.Rc) (q : Nat → Sw.Rain) (w : World) (h : RcsAt a n rs w) (h2 : RainsAt ra M q w) (hq : ∀ k, k < M → (q k).len ≤ 4194304) (hn : ¬ 400 < n) (hM : ¬ 60 < M) :
    Calls Tryd.prog 43 #[.slice a n cn, .slice ra M cr] w fun e w' => RunEnd w n (Sw.runF n M rs q) e w' ∧ Below w.heap.size w w' := by
  by_cases hr : Sw.Right n rs
  · obtain ⟨lb, rfl, hl⟩ := h.all (by have := hr.1.1; omega)
    rw [Sw.runF_in (by rintro (k | k | k); exact hn k; exact hM k; exact k hr)]
    exact runR_go lb n cn ra M cr rs q w hl h2 hq (by omega) hr
  · refine (runR_no a ra n cn M cr rs w h hr).mono ?_
    rintro e w' ⟨⟨s, rfl⟩, hb⟩
    exact ⟨Or.inl ⟨_, 1, Sw.runF_bad (Or.inr (Or.inr hr)), finds_one s 1, by decide, rfl⟩, hb⟩
set_option maxRecDepth 100000 in
set_option maxHeartbeats 2000000 in
theorem implRun_any (a ra : Option Addr) (n cn M cr : Nat) (rs : Nat → Sw.Rc) (q : Nat → Sw.Rain) (w : World) (h : RcsAt a n rs w) (h2 : RainsAt ra M q w) (hq : ∀ k, k < M → (q k).len ≤ 4194304) (hg : Et w) :
    Calls Tryd.prog 27 #[.slice a n cn, .slice ra M cr] w fun e w' => RunOut w n (Sw.runF n M rs q) e w' ∧ Below w.heap.size w w' := by
  have HG := Lib.hid hg
  have H := Lib.hid h
  have H2 := Lib.hid h2
  have HQ := Lib.hid hq
  clear hg h h2 hq
  by_cases ho : 400 < n ∨ 60 < M
  · have HO : Hid (Sw.runF n M rs q = none) := Sw.runF_bad (by rcases ho with k | k; exact Or.inl k; exact Or.inr (Or.inl k))
    have key : ∀ (K : Prop), ((400 : Int) < (n : Int) → K) → (¬ (400 : Int) < (n : Int) → (60 : Int) < (M : Int) → K) → K := fun K k1 k2 => by
      by_cases hn : (400 : Int) < (n : Int)
      · exact k1 hn
      · exact k2 hn (by omega)
    clear ho
    refine key _ (fun hz => ?_) (fun hz hz2 => ?_)
    all_goals
      go_enter Tryd.func27, Tryd.ntmps27
      go_wp2_with fail
      refine (tell_bad _ 2 _ (HG.out.alloc _)).mono ?_
      rintro e w1 ⟨rfl, hb⟩
      have hs : RoSlot w w1 := (RoSlot.start w).next hb
      obtain ⟨⟨q0, q1, q2, q3, q4⟩, ⟨f0, f1, f2, f3, f4⟩⟩ := hs.kept
      have hz1 := hs.lt
      have hF := Lib.hid (hs.fin (.slice none 0 0) (.slice none 0 0) (.slice none 0 0) (.int .i64 0) (.int .i64 2))
      clear hs hb
      go_wp2_with fail
      exact bodyPost_ret (v := .agg #[.slice none 0 0, .slice none 0 0, .slice none 0 0, .int .i64 0, .int .i64 2]) (by
        obtain ⟨⟨x0, x1, x2, x3, x4⟩, _⟩ := hF.out
        simp only [results, Tryd.results27]
        simp [go_sem, x0, x1, x2, x3, x4]) rfl ⟨Or.inl ⟨2, HO.out, by decide, rfl⟩, hF.out.2⟩
  · have hz : ¬ (400 : Int) < (n : Int) := by omega
    have hz2 : ¬ (60 : Int) < (M : Int) := by omega
    have ho1 : ¬ 400 < n := by omega
    have ho2 : ¬ 60 < M := by omega
    clear ho
    go_enter Tryd.func27, Tryd.ntmps27
    go_wp2_with fail
    refine (runR_any a ra n cn M cr rs q _ (H.out.below ((Below.refl _ _).alloc (Nat.le_refl _) _)) (H2.out.below ((Below.refl _ _).alloc (Nat.le_refl _) _)) HQ.out ho1 ho2).mono ?_
    rintro e w1 ⟨hE, hb⟩
    have hs1 : RoSlot w w1 := (RoSlot.start w).next hb
    have HS1 := Lib.hid hs1
    clear hb hs1
    rcases hE with ⟨y, k, hk, hy, hk0, rfl⟩ | ⟨t, gl, gf, gt, c, hk, rfl, hL⟩
    · have HK := Lib.hid hk
      have HK0 := Lib.hid hk0
      have HY := Lib.hid hy
      clear hk hk0 hy
      go_wp2_with fail
      refine (tell_err y k HY.out _ (HG.out.below HS1.out.old)).mono ?_
      rintro e w2 ⟨rfl, hb⟩
      have hs : RoSlot w w2 := HS1.out.next hb
      obtain ⟨⟨q0, q1, q2, q3, q4⟩, ⟨f0, f1, f2, f3, f4⟩⟩ := hs.kept
      have hz1 := hs.lt
      have hF := Lib.hid (hs.fin (.slice none 0 0) (.slice none 0 0) (.slice none 0 0) (.int .i64 0) (.int .i64 k))
      clear hs hb
      go_wp2_with fail
      exact bodyPost_ret (v := .agg #[.slice none 0 0, .slice none 0 0, .slice none 0 0, .int .i64 0, .int .i64 k]) (by
        obtain ⟨⟨x0, x1, x2, x3, x4⟩, _⟩ := hF.out
        simp only [results, Tryd.results27]
        simp [go_sem, x0, x1, x2, x3, x4]) rfl ⟨Or.inl ⟨k, HK.out, HK0.out, rfl⟩, hF.out.2⟩
    · have HK := Lib.hid hk
      have HL : Hid (OutL (w.heap.size + 1) n gl gf gt t.rs t.fl t.tk w1) := hL.lower (by simp)
      clear hk hL
      go_wp2_with fail
      refine (tell_ok _ _ _ t.sea 0 _ ⟨_, _, _, rfl⟩ ⟨_, _, _, rfl⟩ ⟨_, _, _, rfl⟩).mono ?_
      rintro e w2 ⟨rfl, hb⟩
      have hs : RoSlot w w2 := HS1.out.next hb
      have HL2 := Lib.hid (HL.out.below hb)
      obtain ⟨⟨q0, q1, q2, q3, q4⟩, ⟨f0, f1, f2, f3, f4⟩⟩ := hs.kept
      have hz1 := hs.lt
      have hF := Lib.hid (hs.fin (.slice (some ⟨gl, 0, none⟩) n c) (.slice (some ⟨gf, 0, none⟩) n n) (.slice (some ⟨gt, 0, none⟩) n n) (.int .i64 t.sea) (.int .i64 0))
      clear hs hb HL
      go_wp2_with fail
      exact bodyPost_ret (v := vRo n gl gf gt c n n t.sea 0) (by
        obtain ⟨⟨x0, x1, x2, x3, x4⟩, _⟩ := hF.out
        simp only [results, Tryd.results27]
        simp [go_sem, x0, x1, x2, x3, x4]) rfl ⟨Or.inr ⟨t, gl, gf, gt, c, HK.out, rfl, (HL2.out.put _ _ _ _ _).lower (by omega)⟩, hF.out.2⟩
end Go.Proofs.YtokbhkcpkilcmaaDoor
