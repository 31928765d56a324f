/-
  The contract of the program's step.
-/
import Derived.Test.YtokbhkcpkilcmaaDoorSwI5
import Derived.Test.YtokbhkcpkilcmaaDoorSwI3b
import Derived.Test.YtokbhkcpkilcmaaDoorSwI4
import Derived.Test.YtokbhkcpkilcmaaDoorReg
namespace Go.Proofs.YtokbhkcpkilcmaaDoor
open Go.RowKit Go.Deep

/-- What stands ahead of the first sewer. -/
theorem sl_start {w w3 w4 : World} {n gl gf gt c gc : Nat} {rs : Nat → Sw.Rc} {f : Nat → Int} (hs : RoSlot w w3) (hL : OutL (w.heap.size + 1) n gl gf gt rs (fun _ => 0) (fun _ => 0) w3)
    (hb : Below (w3.alloc (.cells #[.slice (some ⟨gl, 0, none⟩) n c, .slice (some ⟨gf, 0, none⟩) n n, .slice (some ⟨gt, 0, none⟩) n n, .int .i64 0, .int .i64 0] 27)).heap.size (w3.alloc (.cells #[.slice (some ⟨gl, 0, none⟩) n c, .slice (some ⟨gf, 0, none⟩) n n, .slice (some ⟨gt, 0, none⟩) n n, .int .i64 0, .int .i64 0] 27)) w4)
    (hg : (w3.alloc (.cells #[.slice (some ⟨gl, 0, none⟩) n c, .slice (some ⟨gf, 0, none⟩) n n, .slice (some ⟨gt, 0, none⟩) n n, .int .i64 0, .int .i64 0] 27)).heap.size ≤ gc) (hk : InBlk gc n f w4) :
    SL w n rs gl gf gt c w3.heap.size gc (Sw.start rs f) w4 := by
  have r1 := World.rowIs_alloc w3 #[.slice (some ⟨gl, 0, none⟩) n c, .slice (some ⟨gf, 0, none⟩) n n, .slice (some ⟨gt, 0, none⟩) n n, .int .i64 0, .int .i64 0] 27 _ (ro5_row (.slice (some ⟨gl, 0, none⟩) n c) (.slice (some ⟨gf, 0, none⟩) n n) (.slice (some ⟨gt, 0, none⟩) n n) 0 0)
  have hz := hs.lt
  have l1 := hL.2.2.1.lt
  have l2 := hL.2.2.2.1.lt
  have l3 := hL.2.2.2.2.lt
  rw [World.size_alloc] at hg
  refine ⟨(hs.alloc _).next hb, r1.of_block (hb.block _ (by simp)), ?_, hk, by omega⟩
  exact OutL.below (OutL.below hL ((Below.refl _ _).alloc (Nat.le_refl _) _)) hb

/-- What a round reads. -/
def RdS (w : World) (n : Nat) (rs : Nat → Sw.Rc) (gl gf gt c po gc : Nat) (s : Sw.St) (bx i : Nat) (W : World) : Prop := RcCells bx 0 (rs i) W ∧ W.cell? ⟨gc, i, none⟩ = some (.int .i64 (s.cs i)) ∧ SL w n rs gl gf gt c po gc s W
theorem RdS.below {w : World} {n : Nat} {rs : Nat → Sw.Rc} {gl gf gt c po gc : Nat} {s : Sw.St} {bx i : Nat} {W W' : World} (h : RdS w n rs gl gf gt c po gc s bx i W) (hb : Below W.heap.size W W') : RdS w n rs gl gf gt c po gc s bx i W' :=
  ⟨h.1.block (hb.block _ h.1.lt), (hb.cell (World.block_lt_of_cell? _ _ h.2.1)).trans h.2.1, h.2.2.below hb⟩

set_option maxRecDepth 100000 in
set_option maxHeartbeats 2000000 in
theorem step_no1 (a b : Option Addr) (n cn m cm : Nat) (rs : Nat → Sw.Rc) (w : World) (h : RcsAt a n rs w) (hr : ¬ Sw.Right n rs) :
    Calls Tryd.prog 39 #[.slice a n cn, .slice b m cm] w fun e w' => (∃ s, e = .returned (.tuple #[zRo, errV s 1])) ∧ Below w.heap.size w w' := by
  have H := Lib.hid h
  clear h
  go_enter Tryd.func39, Tryd.ntmps39
  go_wp2_with fail
  refine (implRight_any a n cn rs _ (H.out.below ((Below.refl _ _).alloc (Nat.le_refl _) _))).mono ?_
  rintro e w1 ⟨⟨b1, rfl, hb1⟩, hb⟩
  obtain rfl : b1 = false := by
    cases b1 with
    | false => rfl
    | true => exact absurd (hb1.1 rfl) hr
  have hs : RoSlot w w1 := (RoSlot.start w).next hb
  have HS := Lib.hid hs
  obtain ⟨⟨q0, q1, q2, q3, q4⟩, ⟨f0, f1, f2, f3, f4⟩⟩ := hs.kept
  have hz := hs.lt
  have hF := Lib.hid (hs.fin (.slice none 0 0) (.slice none 0 0) (.slice none 0 0) (.int .i64 0) (.int .i64 0))
  clear hs hb hb1
  go_wp2_with fail
  exact bodyPost_ret (v := .tuple #[zRo, errV ⟨#[115, 101, 119, 101, 114, 115]⟩ 1]) (by
    obtain ⟨⟨x0, x1, x2, x3, x4⟩, _⟩ := hF.out
    simp only [results, Tryd.results39]
    simp [go_sem, x0, x1, x2, x3, x4]) rfl ⟨⟨_, rfl⟩, hF.out.2⟩

set_option maxRecDepth 100000 in
set_option maxHeartbeats 2000000 in
theorem step_no2 (a b : Option Addr) (n cn m cm : Nat) (rs : Nat → Sw.Rc) (f : Nat → Int) (w : World) (h : RcsAt a n rs w) (h2 : IntsAt b m f w) (hm : m ≤ 4194304) (hr : Sw.Right n rs) (hq : ¬ (m = n ∧ Sw.RainOk n f)) :
    Calls Tryd.prog 39 #[.slice a n cn, .slice b m cm] w fun e w' => (∃ s, e = .returned (.tuple #[zRo, errV s 1])) ∧ Below w.heap.size w w' := by
  have H := Lib.hid h
  have H2 := Lib.hid h2
  clear h h2
  go_enter Tryd.func39, Tryd.ntmps39
  go_wp2_with fail
  refine (implRight_any a n cn rs _ (H.out.below ((Below.refl _ _).alloc (Nat.le_refl _) _))).mono ?_
  rintro e w1 ⟨⟨b1, rfl, hb1⟩, hb⟩
  obtain rfl : b1 = true := hb1.2 hr
  have hs : RoSlot w w1 := (RoSlot.start w).next hb
  have HS := Lib.hid hs
  clear hb hb1
  go_wp2_with fail
  refine (rainRight_any b m cm n f _ (H2.out.below hs.old) hm).mono ?_
  rintro e w2 ⟨⟨b2, rfl, hb2⟩, rfl⟩
  obtain rfl : b2 = false := by
    cases b2 with
    | false => rfl
    | true => exact absurd (hb2.1 rfl) hq
  obtain ⟨⟨q0, q1, q2, q3, q4⟩, ⟨f0, f1, f2, f3, f4⟩⟩ := hs.kept
  have hz := hs.lt
  have hF := Lib.hid (hs.fin (.slice none 0 0) (.slice none 0 0) (.slice none 0 0) (.int .i64 0) (.int .i64 0))
  clear hs hb2
  go_wp2_with fail
  exact bodyPost_ret (v := .tuple #[zRo, errV ⟨#[97, 32, 115, 116, 111, 114, 109]⟩ 1]) (by
    obtain ⟨⟨x0, x1, x2, x3, x4⟩, _⟩ := hF.out
    simp only [results, Tryd.results39]
    simp [go_sem, x0, x1, x2, x3, x4]) rfl ⟨⟨_, rfl⟩, hF.out.2⟩

set_option maxRecDepth 100000 in
set_option maxHeartbeats 8000000 in
theorem step_go (lb rb n cn cm : Nat) (rs : Nat → Sw.Rc) (f : Nat → Int) (w : World) (h : ∀ i, i < n → RcCells lb (i * 6) (rs i) w) (h2 : ∀ i, i < n → w.cell? ⟨rb, i, none⟩ = some (.int .i64 (f i))) (hr : Sw.Right n rs) (hq : Sw.RainOk n f) :
    Calls Tryd.prog 39 #[.slice (some ⟨lb, 0, none⟩) n cn, .slice (some ⟨rb, 0, none⟩) n cm] w fun e w' => StepEnd w n rs (Sw.step n n rs f) e w' ∧ Below w.heap.size w w' := by
  have hn1 : 1 ≤ n := hr.1.1
  have hn2 : n ≤ 40 := hr.1.2
  have H := Lib.hid h
  have H2 := Lib.hid h2
  have HR := Lib.hid hr
  have HQ := Lib.hid hq
  have hlb : lb < w.heap.size := (h 0 (by omega)).lt
  have hrb : rb < w.heap.size := World.block_lt_of_cell? _ _ (h2 0 (by omega))
  clear h h2 hr hq
  go_enter Tryd.func39, Tryd.ntmps39
  go_wp2_with fail
  refine (implRight_any _ n cn rs _ (RcsAt.below (RcsAt.of H.out) ((Below.refl _ _).alloc (Nat.le_refl _) _))).mono ?_
  rintro e w1 ⟨⟨b1, rfl, hb1⟩, hb⟩
  obtain rfl : b1 = true := hb1.2 HR.out
  have hs1 : RoSlot w w1 := (RoSlot.start w).next hb
  have HS1 := Lib.hid hs1
  clear hb hb1
  go_wp2_with fail
  refine (rainRight_any _ n cm n f _ (IsAt.below (Or.inr ⟨rb, rfl, H2.out⟩) hs1.old) (by omega)).mono ?_
  rintro e w2 ⟨⟨b2, rfl, hb2⟩, rfl⟩
  obtain rfl : b2 = true := hb2.2 ⟨rfl, HQ.out⟩
  clear hs1 hb2
  go_wp2_with fail
  refine (still_any lb n cn rs _ (fun i hi => (H.out i hi).block (HS1.out.old.block _ hlb)) (by omega) (by omega)).mono ?_
  rintro e w3 ⟨⟨gl, gf, gt, c, rfl, hL⟩, hb⟩
  have HS3 : Hid (RoSlot w w3) := HS1.out.next hb
  have HL3 : Hid (OutL (w.heap.size + 1) n gl gf gt rs (fun _ => 0) (fun _ => 0) w3) := hL.lower (by have := HS1.out.lt; omega)
  clear hL hb HS1
  have hz3 := HS3.out.lt
  go_wp2_with fail
  refine (cloneI_any rb n cm f _ (fun i hi => (World.cell?_alloc_lt _ _ ⟨rb, i, none⟩ (by show rb < w3.heap.size; omega)).trans ((HS3.out.old.cell (p := ⟨rb, i, none⟩) hrb).trans (H2.out i hi))) (by omega) (by omega)).mono ?_
  rintro e w4 ⟨⟨gc, cg, rfl, hg, hk⟩, hb⟩
  have HST := Lib.hid (sl_start (c := c) HS3.out HL3.out hb hg hk)
  clear HL3 hb hg hk
  go_wp2_with fail
  go_loopw [37] (fun iv wr => ∃ (i : Nat), i ≤ n ∧ iv = .int .i64 i ∧ Hid (SL w n rs gl gf gt c w3.heap.size gc (Sw.run rs f i) wr)) (fun iv _ => n - (intOf iv).toNat)
  case atStart => exact ⟨0, Nat.zero_le _, rfl, HST⟩
  case round =>
    obtain ⟨i, hi, rfl, hS⟩ := hrel
    clear HST HS3 w2
    generalize w3.heap.size = po at *
    clear w3
    by_cases hlt : i < n
    · have hltz : (i : Int) < (n : Int) := by omega
      have hI := Lib.hid (Sw.run_inv HR.out HQ.out hi)
      have HN : Hid (Sw.run rs f (i + 1) = Sw.thenSt rs i (Sw.run rs f i)) := rfl
      generalize Sw.run rs f i = s at *
      have hbd := hI.out.bounds HR.out HQ.out hi
      have HBD := Lib.hid hbd
      obtain ⟨x0, x1⟩ := hbd.1 i (Nat.le_refl _) hlt
      have HA := Lib.hid (HR.out.2 i hlt).1
      have HD := Lib.hid (HR.out.2 i hlt).2
      have HSH := Lib.hid (Sw.share_facts HA.out x0)
      clear hbd
      obtain ⟨c0, c1, c2, c3, c4, c5⟩ := (H.out i hlt).block (hS.out.slot.old.block _ hlb)
      obtain ⟨_, _, k0, _⟩ := hS.out.cells hlt
      have HBX : Hid (Below wr.heap.size wr (wr.alloc (.cells #[.int .i64 (rs i).kd, .int .i64 (rs i).st, .int .i64 (rs i).rm, .int .i64 (rs i).fw, .int .i64 (rs i).lp, .int .i64 (rs i).dn] 55))) := (Below.refl _ _).alloc (Nat.le_refl _) _
      have HCX : Hid (RcCells wr.heap.size 0 (rs i) (wr.alloc (.cells #[.int .i64 (rs i).kd, .int .i64 (rs i).st, .int .i64 (rs i).rm, .int .i64 (rs i).fw, .int .i64 (rs i).lp, .int .i64 (rs i).dn] 55))) := ⟨by simp [go_sem], by simp [go_sem], by simp [go_sem], by simp [go_sem], by simp [go_sem], by simp [go_sem]⟩
      have zl : gl < wr.heap.size := hS.out.lists.2.2.1.lt
      have zf : gf < wr.heap.size := hS.out.lists.2.2.2.1.lt
      have zt : gt < wr.heap.size := hS.out.lists.2.2.2.2.lt
      have zpo : po < wr.heap.size := hS.out.out.lt
      have zgc : gc < wr.heap.size := hS.out.com.lt
      go_wp2_with fail
      refine wp_region_held_drew (S := RdS w n rs gl gf gt c po gc s wr.heap.size i) (by kernel_rfl) ⟨HCX.out.block rfl, (HBX.out.drew.cell (World.block_lt_of_cell? _ _ k0)).trans k0, hS.out.below HBX.out.drew⟩ (fun hHeld => ?_)
      clear hS c0 c1 c2 c3 c4 c5 k0 HBX HCX
      generalize wr.heap.size = bx at *
      refine take_do (i := 0) (v := (rcV (rs i))) rfl (by kernel_rfl) (by kernel_rfl) (by kernel_rfl) (fun _ _ _ h => h) (by rfl) ?_ (by assumption) ?_
      · intro w hSw
        obtain ⟨⟨c0, c1, c2, c3, c4, c5⟩, k0, _⟩ := hSw
        go_simp
      simp only [Act.put, List.setIfInBounds_toArray, List.set_cons_zero, List.set_cons_succ]
      refine take_do (i := 1) (v := (.slice (some ⟨gc, 0, none⟩) n cg)) rfl (by kernel_rfl) (by kernel_rfl) (by kernel_rfl) (fun _ _ _ h => h) (by rfl) ?_ (by assumption) ?_
      · intro w hSw
        obtain ⟨⟨c0, c1, c2, c3, c4, c5⟩, k0, _⟩ := hSw
        go_simp
      simp only [Act.put, List.setIfInBounds_toArray, List.set_cons_zero, List.set_cons_succ]
      refine take_do (i := 2) (v := (.int .i64 i)) rfl (by kernel_rfl) (by kernel_rfl) (by kernel_rfl) (fun _ _ _ h => h) (by rfl) ?_ (by assumption) ?_
      · intro w hSw
        obtain ⟨⟨c0, c1, c2, c3, c4, c5⟩, k0, _⟩ := hSw
        go_simp
      simp only [Act.put, List.setIfInBounds_toArray, List.set_cons_zero, List.set_cons_succ]
      refine take_do (i := 3) (v := (.pointer (some ⟨gc, i, none⟩))) rfl (by kernel_rfl) (by kernel_rfl) (by kernel_rfl) (fun _ _ _ h => h) (by rfl) ?_ (by assumption) ?_
      · intro w hSw
        obtain ⟨⟨c0, c1, c2, c3, c4, c5⟩, k0, _⟩ := hSw
        go_simp
      simp only [Act.put, List.setIfInBounds_toArray, List.set_cons_zero, List.set_cons_succ]
      refine take_do (i := 4) (v := (.int .i64 (s.cs i))) rfl (by kernel_rfl) (by kernel_rfl) (by kernel_rfl) (fun _ _ _ h => h) (by rfl) ?_ (by assumption) ?_
      · intro w hSw
        obtain ⟨⟨c0, c1, c2, c3, c4, c5⟩, k0, _⟩ := hSw
        go_simp
      simp only [Act.put, List.setIfInBounds_toArray, List.set_cons_zero, List.set_cons_succ]
      refine take_call (i := 5) rfl (by kernel_rfl) (fun K2 hK => ?_)
      go_simp
      refine (share_any (rs i) (s.cs i) _ HA.out x0 x1).mono ?_
      rintro e w1 ⟨rfl, hb⟩
      go_wp2_with fail
      refine hK.out _ _ (hHeld.below hb) (fun hHeld2 => ?_)
      clear hK hHeld hb
      have hHeld := hHeld2
      clear hHeld2
      refine take_do (i := 6) (v := (.tuple #[(.int .i64 (Sw.flows (rs i) (s.cs i))), (.int .i64 (Sw.taken (rs i) (s.cs i))), (.int .i64 (Sw.stays (rs i) (s.cs i)))])) rfl (by kernel_rfl) (by kernel_rfl) (by kernel_rfl) (fun _ _ _ h => h) (by rfl) ?_ (by assumption) ?_
      · intro w hSw
        obtain ⟨⟨c0, c1, c2, c3, c4, c5⟩, k0, _⟩ := hSw
        go_simp
      simp only [Act.put, List.setIfInBounds_toArray, List.set_cons_zero, List.set_cons_succ]
      refine take_do (i := 7) (v := (.int .i64 (Sw.flows (rs i) (s.cs i)))) rfl (by kernel_rfl) (by kernel_rfl) (by kernel_rfl) (fun _ _ _ h => h) (by rfl) ?_ (by assumption) ?_
      · intro w hSw
        obtain ⟨⟨c0, c1, c2, c3, c4, c5⟩, k0, _⟩ := hSw
        go_simp
      simp only [Act.put, List.setIfInBounds_toArray, List.set_cons_zero, List.set_cons_succ]
      refine take_do (i := 8) (v := (.int .i64 (Sw.taken (rs i) (s.cs i)))) rfl (by kernel_rfl) (by kernel_rfl) (by kernel_rfl) (fun _ _ _ h => h) (by rfl) ?_ (by assumption) ?_
      · intro w hSw
        obtain ⟨⟨c0, c1, c2, c3, c4, c5⟩, k0, _⟩ := hSw
        go_simp
      simp only [Act.put, List.setIfInBounds_toArray, List.set_cons_zero, List.set_cons_succ]
      refine take_do (i := 9) (v := (.int .i64 (Sw.stays (rs i) (s.cs i)))) rfl (by kernel_rfl) (by kernel_rfl) (by kernel_rfl) (fun _ _ _ h => h) (by rfl) ?_ (by assumption) ?_
      · intro w hSw
        obtain ⟨⟨c0, c1, c2, c3, c4, c5⟩, k0, _⟩ := hSw
        go_simp
      simp only [Act.put, List.setIfInBounds_toArray, List.set_cons_zero, List.set_cons_succ]
      refine take_do (i := 10) (v := (.int .i64 (Sw.flows (rs i) (s.cs i)))) rfl (by kernel_rfl) (by kernel_rfl) (by kernel_rfl) (fun _ _ _ h => h) (by rfl) ?_ (by assumption) ?_
      · intro w hSw
        obtain ⟨⟨c0, c1, c2, c3, c4, c5⟩, k0, _⟩ := hSw
        go_simp
      simp only [Act.put, List.setIfInBounds_toArray, List.set_cons_zero, List.set_cons_succ]
      refine take_do (i := 11) (v := (.int .i64 (Sw.taken (rs i) (s.cs i)))) rfl (by kernel_rfl) (by kernel_rfl) (by kernel_rfl) (fun _ _ _ h => h) (by rfl) ?_ (by assumption) ?_
      · intro w hSw
        obtain ⟨⟨c0, c1, c2, c3, c4, c5⟩, k0, _⟩ := hSw
        go_simp
      simp only [Act.put, List.setIfInBounds_toArray, List.set_cons_zero, List.set_cons_succ]
      refine take_do (i := 12) (v := (.int .i64 (Sw.stays (rs i) (s.cs i)))) rfl (by kernel_rfl) (by kernel_rfl) (by kernel_rfl) (fun _ _ _ h => h) (by rfl) ?_ (by assumption) ?_
      · intro w hSw
        obtain ⟨⟨c0, c1, c2, c3, c4, c5⟩, k0, _⟩ := hSw
        go_simp
      simp only [Act.put, List.setIfInBounds_toArray, List.set_cons_zero, List.set_cons_succ]
      refine wpAnyH_done (by kernel_rfl) ?_ _
      have HS1 := Lib.hid hHeld.2.2
      have HC1 := Lib.hid hHeld.1
      clear hHeld
      have hz1 : w.heap.size < w1.heap.size := HS1.out.slot.lt
      obtain ⟨⟨p0, p1, p2, p3, p3f⟩, ⟨⟨lx, l0⟩, l0f, g0, g0f, t0, t0f⟩, k0, k0f⟩ := HS1.out.cells hlt
      obtain ⟨d1, d2, d3, d4, d5, d6, d7, d8, d9⟩ := HS1.out.far
      obtain ⟨m1, m2, m3⟩ := HS1.out.lists.2.1
      go_wp2_with fail
      go_region
      have HS2 : Hid (SL w n rs gl gf gt c po gc ⟨s.cs, Sw.upd s.st i (Sw.stays (rs i) (s.cs i)), Sw.upd s.tk i (Sw.taken (rs i) (s.cs i)), Sw.upd s.fl i (Sw.flows (rs i) (s.cs i)), s.sea⟩ ((((w1.setCell ⟨gf, i, none⟩ (.int .i64 (Sw.flows (rs i) (s.cs i)))).setCell ⟨gt, i, none⟩ (.int .i64 (Sw.taken (rs i) (s.cs i)))).setCell ⟨gl, i * 6 + 1, none⟩ (.int .i64 (Sw.stays (rs i) (s.cs i)))).drew)) := (((HS1.out.setF i (Sw.flows (rs i) (s.cs i))).setT i (Sw.taken (rs i) (s.cs i))).setL i (Sw.stays (rs i) (s.cs i))).below (Below.refl _ _).drew
      have HC2 : Hid (RcCells bx 0 (rs i) ((((w1.setCell ⟨gf, i, none⟩ (.int .i64 (Sw.flows (rs i) (s.cs i)))).setCell ⟨gt, i, none⟩ (.int .i64 (Sw.taken (rs i) (s.cs i)))).setCell ⟨gl, i * 6 + 1, none⟩ (.int .i64 (Sw.stays (rs i) (s.cs i)))).drew)) := HC1.out.block ((blk_setCell_other _ _ _ _ (by show bx ≠ gl; omega)).trans ((blk_setCell_other _ _ _ _ (by show bx ≠ gt; omega)).trans (blk_setCell_other _ _ _ _ (by show bx ≠ gf; omega))))
      clear p0 p1 p2 p3 p3f l0 l0f g0 g0f t0 t0f k0 k0f HS1 HC1 hz1
      generalize ((((w1.setCell ⟨gf, i, none⟩ (.int .i64 (Sw.flows (rs i) (s.cs i)))).setCell ⟨gt, i, none⟩ (.int .i64 (Sw.taken (rs i) (s.cs i)))).setCell ⟨gl, i * 6 + 1, none⟩ (.int .i64 (Sw.stays (rs i) (s.cs i)))).drew) = W2 at *
      obtain ⟨⟨p0, p1, p2, p3, p3f⟩, _, _, _⟩ := HS2.out.cells hlt
      obtain ⟨c0, c1, c2, c3, c4, c5⟩ := HC2.out
      clear c0 c1 c2 c3 c4 p0 p1 p2
      obtain ⟨sa0, sa1⟩ := HBD.out.2.1
      have hfl0 : 0 ≤ Sw.flows (rs i) (s.cs i) := HSH.out.1.1
      have hfl1 : Sw.flows (rs i) (s.cs i) ≤ 1000000 := HSH.out.1.2
      have hzp : po < W2.heap.size := HS2.out.out.lt
      have hzc : gc < W2.heap.size := HS2.out.com.lt
      by_cases hd : (rs i).dn = -1
      · have HD1 := Lib.hid hd
        rw [hd] at c5
        clear hd
        go_wp2_with fail
        go_roundw
        case rel =>
          refine ⟨i + 1, by omega, by go_num, (HS2.out.setS _).congr ?_⟩
          rw [HN.out]
          unfold Sw.thenSt
          rw [if_pos HD1.out, if_pos HD1.out]
        case measure => simp [intOf]; omega
      · have hdd : (i : Int) < (rs i).dn ∧ (rs i).dn < (n : Int) := by
          rcases HD.out with k | k
          · exact absurd k hd
          · exact k
        obtain ⟨D, hD⟩ : ∃ D : Nat, (rs i).dn = (D : Int) := ⟨(rs i).dn.toNat, by omega⟩
        have HDD : Hid ((rs i).dn = (D : Int)) := hD
        rw [hD] at c5 hdd
        have hD1 : D < n := by omega
        have hD1z : (D : Int) < (n : Int) := by omega
        have hD2 : ¬ (D : Int) = -1 := by omega
        have hD3 : ((D : Int) == -1) = false := by simp
        obtain ⟨_, _, k0, k0f⟩ := HS2.out.cells hD1
        have k1 := HBD.out.1 D (by omega) hD1
        obtain ⟨k10, k11⟩ := k1
        clear hd hD hdd
        have k0' : W2.cell? ⟨gc, D, none⟩ = some (.int .i64 (s.cs D)) := k0
        clear k0
        go_wp2_with fail
        go_roundw
        case rel =>
          refine ⟨i + 1, by omega, by go_num, (HS2.out.setC D _).congr ?_⟩
          rw [HN.out]
          unfold Sw.thenSt
          have hne : ¬ (rs i).dn = -1 := by rw [HDD.out]; omega
          have ht : (rs i).dn.toNat = D := by rw [HDD.out]; simp
          rw [if_neg hne, if_neg hne, ht]
        case measure => simp [intOf]; omega
    · obtain rfl : i = n := by omega
      obtain ⟨⟨q0, q1, q2, q3, q4⟩, ⟨f0, f1, f2, f3, f4⟩⟩ := hS.out.slot.kept
      have hz := hS.out.slot.lt
      have hzp : po < wr.heap.size := hS.out.out.lt
      have HOK := Lib.hid (Sw.step_ok (m := i) (rs := rs) (rain := f) ⟨HR.out, rfl, HQ.out⟩)
      generalize Sw.run rs f i = s at *
      have p0 : wr.cell? ⟨po, 0, none⟩ = some (.slice (some ⟨gl, 0, none⟩) i c) := hS.out.out.cell (i := 0) (by omega)
      have p1 : wr.cell? ⟨po, 1, none⟩ = some (.slice (some ⟨gf, 0, none⟩) i i) := hS.out.out.cell (i := 1) (by omega)
      have p2 : wr.cell? ⟨po, 2, none⟩ = some (.slice (some ⟨gt, 0, none⟩) i i) := hS.out.out.cell (i := 2) (by omega)
      have p3 : wr.cell? ⟨po, 3, none⟩ = some (.int .i64 s.sea) := hS.out.out.cell (i := 3) (by omega)
      have p4 : wr.cell? ⟨po, 4, none⟩ = some (.int .i64 0) := hS.out.out.cell (i := 4) (by omega)
      have hF := Lib.hid hS.out.fin
      go_wp2_with fail
      exact bodyPost_ret (v := .tuple #[vRo i gl gf gt c i i s.sea 0, .nilIface]) (by
        obtain ⟨⟨x0, x1, x2, x3, x4⟩, _⟩ := hF.out
        simp only [results, Tryd.results39]
        simp [go_sem, x0, x1, x2, x3, x4]) rfl ⟨Or.inr ⟨s, gl, gf, gt, c, HOK.out, rfl, hF.out.2.1⟩, hF.out.2.2⟩

/-- The program's step, whatever is handed in. -/
theorem step_any (a b : Option Addr) (n cn m cm : Nat) (rs : Nat → Sw.Rc) (f : Nat → Int) (w : World) (h : RcsAt a n rs w) (h2 : IntsAt b m f w) (hm : m ≤ 4194304) :
    Calls Tryd.prog 39 #[.slice a n cn, .slice b m cm] w fun e w' => StepEnd w n rs (Sw.step n m rs f) e w' ∧ Below w.heap.size w w' := by
  by_cases hr : Sw.Right n rs
  · by_cases hq : m = n ∧ Sw.RainOk n f
    · obtain ⟨rfl, hq⟩ := hq
      obtain ⟨lb, rfl, hl⟩ : ∃ lb, a = some ⟨lb, 0, none⟩ ∧ ∀ i, i < m → RcCells lb (i * 6) (rs i) w := by
        exact h.all (by have := hr.1.1; omega)
      obtain ⟨rb, rfl, hq2⟩ : ∃ rb, b = some ⟨rb, 0, none⟩ ∧ ∀ i, i < m → w.cell? ⟨rb, i, none⟩ = some (.int .i64 (f i)) := by
        rcases h2 with h | h
        · have := hr.1.1; omega
        · exact h
      exact step_go lb rb m cn cm rs f w hl hq2 hr hq
    · refine (step_no2 a b n cn m cm rs f w h h2 hm hr hq).mono ?_
      rintro e w' ⟨⟨s, rfl⟩, hb⟩
      exact ⟨Or.inl ⟨1, s, Sw.step_no2 hq, by decide, rfl⟩, hb⟩
  · refine (step_no1 a b n cn m cm rs w h hr).mono ?_
    rintro e w' ⟨⟨s, rfl⟩, hb⟩
    exact ⟨Or.inl ⟨1, s, Sw.step_no1 hr, by decide, rfl⟩, hb⟩
end Go.Proofs.YtokbhkcpkilcmaaDoor
