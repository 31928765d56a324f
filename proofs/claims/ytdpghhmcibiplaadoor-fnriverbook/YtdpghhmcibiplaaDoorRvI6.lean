/-
  The contract of the program's step.
-/
import Derived.Test.YtdpghhmcibiplaaDoorRvI5
import Derived.Test.YtdpghhmcibiplaaDoorRvI3b
import Derived.Test.YtdpghhmcibiplaaDoorRvI4
import Derived.Laws.CopyOwn
import Derived.Laws.OwnMore
import Derived.Deep.WholeRow
import Derived.Test.YtdpghhmcibiplaaDoorReg
namespace Go.Proofs.YtdpghhmcibiplaaDoor
open Go.RowKit Go.Deep

theorem splice_all {α : Type} (L cs : List α) (h : L.length = cs.length) : splice L 0 cs = cs := by
  unfold splice
  simp [h]
/-- The cells of numbers. -/
def inVals (f : Nat → Int) (n : Nat) : List Value := listOf (fun j => Value.int .i64 (f j)) n
theorem inVals_len (f : Nat → Int) (n : Nat) : (inVals f n).length = n := listOf_len _ _
theorem inVals_get (f : Nat → Int) {n j : Nat} (h : j < n) : (inVals f n)[j]? = some (.int .i64 (f j)) := by simp [inVals, listOf, h]
theorem blk_vals {g n : Nat} {f : Nat → Int} {W : World} (h : W.heap[g]? = some (.cells (inVals f n).toArray 2 (0, 0))) : InBlk g n f W :=
  ⟨n, inRow f, Nat.le_refl _, ⟨_, h, by simp [inVals_len], fun i hi => by rw [List.getElem?_toArray, inVals_get f hi]; rfl⟩, fun _ _ => rfl⟩

theorem size_i64 : (Tryd.prog.info? 2).map (·.size) = some 1 := by kernel_rfl
theorem copy_eq (W : World) (rb n cm : Nat) (f : Nat → Int) (h : ∀ i, i < n → W.cell? ⟨rb, i, none⟩ = some (.int .i64 (f i))) :
    (Builtin.copy_ #[23, 23] 3 #[.slice (some ⟨W.heap.size, 0, none⟩) n n, .slice (some ⟨rb, 0, none⟩) n cm]).run Tryd.prog (W.alloc (mkO n)) = .ok (goInt (n : Int)) (W.alloc (.cells (inVals f n).toArray 2)) := by
  have hl : (inVals f n).length = Nat.min n n := by rw [inVals_len]; exact (Nat.min_self n).symm
  rw [run_copy_row (P := Tryd.prog) (W.alloc (mkO n)) 23 23 3 2 W.heap.size 0 n n ⟨rb, 0, none⟩ n cm (madeCells #[.int .i64 0] n) 2 (inVals f n) Tryd.underlying23 size_i64 (blk_alloc_new _ _) hl ?_ (by rw [inVals_len, size_madeCells]; omega) ?_]
  · have e : ((madeCells #[.int .i64 0] n).toList.take 0 ++ inVals f n ++ (madeCells #[.int .i64 0] n).toList.drop (0 + (inVals f n).length)) = inVals f n := by
      rw [inVals_len, List.drop_eq_nil_of_le (by rw [Array.length_toList, size_madeCells]; omega)]; simp
    rw [e, World.setRow_alloc_new, inVals_len]
  · intro j v hj
    have hjn : j < n := by
      have := (List.getElem?_eq_some_iff.1 hj).1
      rw [inVals_len] at this; exact this
    rw [inVals_get f hjn] at hj
    rw [Addr.add_lit, Nat.zero_add, World.cell?_alloc_lt _ _ _ (World.block_lt_of_cell? _ _ (h j hjn)), h j hjn, hj]
  · intro v hv
    unfold inVals listOf at hv
    obtain ⟨j, _, rfl⟩ := List.mem_map.1 hv
    rfl
/-- What stands ahead of the first reach. -/
theorem sl_start {w w3 : World} {n gl gf gt c : Nat} {rs : Nat → Rv.Rc} {f : Nat → Int} (hs : RoSlot w w3) (hL : OutL (w.heap.size + 1) n gl gf gt rs (fun _ => 0) (fun _ => 0) w3) :
    SL w n rs gl gf gt c w3.heap.size (w3.heap.size + 1) (Rv.start rs f) ((w3.alloc (.cells #[.slice (some ⟨gl, 0, none⟩) n c, .slice (some ⟨gf, 0, none⟩) n n, .slice (some ⟨gt, 0, none⟩) n n, .int .i64 0, .int .i64 0] 27)).alloc (.cells (inVals f n).toArray 2)) := by
  have r1 := World.rowIs_alloc w3 #[.slice (some ⟨gl, 0, none⟩) n c, .slice (some ⟨gf, 0, none⟩) n n, .slice (some ⟨gt, 0, none⟩) n n, .int .i64 0, .int .i64 0] 27 _ (ro5_row (.slice (some ⟨gl, 0, none⟩) n c) (.slice (some ⟨gf, 0, none⟩) n n) (.slice (some ⟨gt, 0, none⟩) n n) 0 0)
  have hz := hs.lt
  have l1 := hL.2.2.1.lt
  have l2 := hL.2.2.2.1.lt
  have l3 := hL.2.2.2.2.lt
  refine ⟨(hs.alloc _).alloc _, r1.alloc _, ?_, ?_, by omega⟩
  · exact OutL.below (OutL.below hL ((Below.refl _ _).alloc (Nat.le_refl _) _)) ((Below.refl _ _).alloc (Nat.le_refl _) _)
  · have := blk_vals (g := (w3.alloc (.cells #[.slice (some ⟨gl, 0, none⟩) n c, .slice (some ⟨gf, 0, none⟩) n n, .slice (some ⟨gt, 0, none⟩) n n, .int .i64 0, .int .i64 0] 27)).heap.size) (n := n) (f := f) (blk_alloc_new _ _)
    rw [World.size_alloc] at this
    exact this

/-- What a round reads. -/
def RdS (w : World) (n : Nat) (rs : Nat → Rv.Rc) (gl gf gt c po gc : Nat) (s : Rv.St) (lb i : Nat) (W : World) : Prop := RcCells lb (i * 5) (rs i) W ∧ W.cell? ⟨gc, i, none⟩ = some (.int .i64 (s.cs i)) ∧ SL w n rs gl gf gt c po gc s W
theorem RdS.below {w : World} {n : Nat} {rs : Nat → Rv.Rc} {gl gf gt c po gc : Nat} {s : Rv.St} {lb i : Nat} {W W' : World} (h : RdS w n rs gl gf gt c po gc s lb i W) (hb : Below W.heap.size W W') : RdS w n rs gl gf gt c po gc s lb i W' :=
  ⟨h.1.block (hb.block _ h.1.lt), (hb.cell (World.block_lt_of_cell? _ _ h.2.1)).trans h.2.1, h.2.2.below hb⟩

set_option maxRecDepth 100000 in
set_option maxHeartbeats 2000000 in
theorem step_no1 (a b : Option Addr) (n cn m cm : Nat) (rs : Nat → Rv.Rc) (w : World) (h : RcsAt a n rs w) (hr : ¬ Rv.Right n rs) :
    Calls Tryd.prog 62 #[.slice a n cn, .slice b m cm] w fun e w' => (∃ s, e = .returned (.tuple #[zRo, errV s 1])) ∧ Below w.heap.size w w' := by
  have H := Lib.hid h
  clear h
  go_enter Tryd.func62, Tryd.ntmps62
  go_wp2_with fail
  refine (implRight_any a n cn rs _ (H.out.below ((Below.refl _ _).alloc (Nat.le_refl _) _))).mono ?_
  rintro e w1 ⟨⟨b1, rfl, hb1⟩, hb⟩
  obtain rfl : b1 = false := by
    cases b1 with
    | false => rfl
    | true => exact absurd (hb1.1 rfl) hr
  have hs : RoSlot w w1 := (RoSlot.start w).next hb
  have HS := Lib.hid hs
  obtain ⟨⟨q0, q1, q2, q3, q4⟩, ⟨f0, f1, f2, f3, f4⟩⟩ := hs.kept
  have hz := hs.lt
  have hF := Lib.hid (hs.fin (.slice none 0 0) (.slice none 0 0) (.slice none 0 0) (.int .i64 0) (.int .i64 0))
  clear hs hb hb1
  go_wp2_with fail
  exact bodyPost_ret (v := .tuple #[zRo, errV ⟨#[97, 32, 114, 105, 118, 101, 114]⟩ 1]) (by
    obtain ⟨⟨x0, x1, x2, x3, x4⟩, _⟩ := hF.out
    simp only [results, Tryd.results62]
    simp [go_sem, x0, x1, x2, x3, x4]) rfl ⟨⟨_, rfl⟩, hF.out.2⟩

set_option maxRecDepth 100000 in
set_option maxHeartbeats 2000000 in
theorem step_no2 (a b : Option Addr) (n cn m cm : Nat) (rs : Nat → Rv.Rc) (f : Nat → Int) (w : World) (h : RcsAt a n rs w) (h2 : IntsAt b m f w) (hm : m ≤ 4194304) (hr : Rv.Right n rs) (hq : ¬ (m = n ∧ Rv.RainOk n f)) :
    Calls Tryd.prog 62 #[.slice a n cn, .slice b m cm] w fun e w' => (∃ s, e = .returned (.tuple #[zRo, errV s 1])) ∧ Below w.heap.size w w' := by
  have H := Lib.hid h
  have H2 := Lib.hid h2
  clear h h2
  go_enter Tryd.func62, Tryd.ntmps62
  go_wp2_with fail
  refine (implRight_any a n cn rs _ (H.out.below ((Below.refl _ _).alloc (Nat.le_refl _) _))).mono ?_
  rintro e w1 ⟨⟨b1, rfl, hb1⟩, hb⟩
  obtain rfl : b1 = true := hb1.2 hr
  have hs : RoSlot w w1 := (RoSlot.start w).next hb
  have HS := Lib.hid hs
  clear hb hb1
  go_wp2_with fail
  refine (rainRight_any b m cm n f _ (H2.out.below hs.old) hm).mono ?_
  rintro e w2 ⟨⟨b2, rfl, hb2⟩, rfl⟩
  obtain rfl : b2 = false := by
    cases b2 with
    | false => rfl
    | true => exact absurd (hb2.1 rfl) hq
  obtain ⟨⟨q0, q1, q2, q3, q4⟩, ⟨f0, f1, f2, f3, f4⟩⟩ := hs.kept
  have hz := hs.lt
  have hF := Lib.hid (hs.fin (.slice none 0 0) (.slice none 0 0) (.slice none 0 0) (.int .i64 0) (.int .i64 0))
  clear hs hb2
  go_wp2_with fail
  exact bodyPost_ret (v := .tuple #[zRo, errV ⟨#[114, 97, 105, 110]⟩ 1]) (by
    obtain ⟨⟨x0, x1, x2, x3, x4⟩, _⟩ := hF.out
    simp only [results, Tryd.results62]
    simp [go_sem, x0, x1, x2, x3, x4]) rfl ⟨⟨_, rfl⟩, hF.out.2⟩

set_option maxRecDepth 100000 in
set_option maxHeartbeats 8000000 in
theorem step_go (lb rb n cn cm : Nat) (rs : Nat → Rv.Rc) (f : Nat → Int) (w : World) (h : ∀ i, i < n → RcCells lb (i * 5) (rs i) w) (h2 : ∀ i, i < n → w.cell? ⟨rb, i, none⟩ = some (.int .i64 (f i))) (hr : Rv.Right n rs) (hq : Rv.RainOk n f) :
    Calls Tryd.prog 62 #[.slice (some ⟨lb, 0, none⟩) n cn, .slice (some ⟨rb, 0, none⟩) n cm] w fun e w' => StepEnd w n rs (Rv.step n n rs f) e w' ∧ Below w.heap.size w w' := by
  have hn1 : 1 ≤ n := hr.1.1
  have hn2 : n ≤ 40 := hr.1.2
  have H := Lib.hid h
  have H2 := Lib.hid h2
  have HR := Lib.hid hr
  have HQ := Lib.hid hq
  have hlb : lb < w.heap.size := (h 0 (by omega)).lt
  have hrb : rb < w.heap.size := World.block_lt_of_cell? _ _ (h2 0 (by omega))
  clear h h2 hr hq
  have hmk := run_make_row' (P := Tryd.prog) 23 2 (.int .i64 0) 8 Tryd.underlying23 info_i64 rfl .i64 .i64 n (by omega) (by omega)
  go_enter Tryd.func62, Tryd.ntmps62
  go_wp2_with fail
  refine (implRight_any _ n cn rs _ (RcsAt.below (Or.inr ⟨lb, rfl, H.out⟩) ((Below.refl _ _).alloc (Nat.le_refl _) _))).mono ?_
  rintro e w1 ⟨⟨b1, rfl, hb1⟩, hb⟩
  obtain rfl : b1 = true := hb1.2 HR.out
  have hs1 : RoSlot w w1 := (RoSlot.start w).next hb
  have HS1 := Lib.hid hs1
  clear hb hb1
  go_wp2_with fail
  refine (rainRight_any _ n cm n f _ (IntsAt.below (Or.inr ⟨rb, rfl, H2.out⟩) hs1.old) (by omega)).mono ?_
  rintro e w2 ⟨⟨b2, rfl, hb2⟩, rfl⟩
  obtain rfl : b2 = true := hb2.2 ⟨rfl, HQ.out⟩
  clear hs1 hb2
  go_wp2_with fail
  refine (still_any lb n cn rs _ (fun i hi => (H.out i hi).block (HS1.out.old.block _ hlb)) (by omega) (by omega)).mono ?_
  rintro e w3 ⟨⟨gl, gf, gt, c, rfl, hL⟩, hb⟩
  have HS3 : Hid (RoSlot w w3) := HS1.out.next hb
  have HL3 : Hid (OutL (w.heap.size + 1) n gl gf gt rs (fun _ => 0) (fun _ => 0) w3) := hL.lower (by have := HS1.out.lt; omega)
  clear hL hb HS1
  have hz3 := HS3.out.lt
  have hcp := copy_eq (w3.alloc (.cells #[.slice (some ⟨gl, 0, none⟩) n c, .slice (some ⟨gf, 0, none⟩) n n, .slice (some ⟨gt, 0, none⟩) n n, .int .i64 0, .int .i64 0] 27)) rb n cm f (fun i hi => (World.cell?_alloc_lt _ _ ⟨rb, i, none⟩ (by show rb < w3.heap.size; omega)).trans ((HS3.out.old.cell (p := ⟨rb, i, none⟩) hrb).trans (H2.out i hi)))
  simp only [World.size_alloc] at hcp
  have HST := Lib.hid (sl_start (f := f) (c := c) HS3.out HL3.out)
  clear HL3
  go_wp2_with fail
  clear hcp hmk
  go_loopw [41] (fun iv wr => ∃ (i : Nat) (s : Rv.St), i ≤ n ∧ iv = .int .i64 i ∧ Hid (Rv.run rs f i = some s) ∧ Hid (SL w n rs gl gf gt c w3.heap.size (w3.heap.size + 1) s wr)) (fun iv _ => n - (intOf iv).toNat)
  case atStart => exact ⟨0, Rv.start rs f, Nat.zero_le _, rfl, rfl, HST⟩
  case round =>
    obtain ⟨i, s, hi, rfl, hrun, hS⟩ := hrel
    clear HST HS3 w2
    generalize w3.heap.size = po at *
    generalize po + 1 = gc at *
    clear w3
    by_cases hlt : i < n
    · have hltz : (i : Int) < (n : Int) := by omega
      have hI := Lib.hid (Rv.run_inv HR.out HQ.out hi hrun.out)
      have hbd := hI.out.bounds HR.out HQ.out hi
      have HBD := Lib.hid hbd
      obtain ⟨x0, x1⟩ := hbd.1 i (Nat.le_refl _) hlt
      have HA := Lib.hid (HR.out.2 i hlt).1
      have HD := Lib.hid (HR.out.2 i hlt).2
      have HST := Lib.hid (Rv.stays_bounds HA.out x0)
      have HSH := Lib.hid (Rv.share_facts HA.out x0)
      clear hbd
      obtain ⟨c0, c1, c2, c3, c4⟩ := (H.out i hlt).block (hS.out.slot.old.block _ hlb)
      obtain ⟨_, _, k0, _⟩ := hS.out.cells hlt
      go_wp2_with fail
      refine wp_region_held_drew (S := RdS w n rs gl gf gt c po gc s lb i) (by kernel_rfl) ⟨⟨c0, c1, c2, c3, c4⟩, k0, hS.out.below (Below.refl _ _).drew⟩ (fun hHeld => ?_)
      clear hS c0 c1 c2 c3 c4 k0
      refine take_do (i := 0) (v := (.slice (some ⟨lb, 0, none⟩) n cn)) rfl (by kernel_rfl) (by kernel_rfl) (by kernel_rfl) (fun _ _ _ h => h) (by rfl) ?_ (by assumption) ?_
      · intro w hSw
        obtain ⟨⟨c0, c1, c2, c3, c4⟩, k0, _⟩ := hSw
        go_simp
      simp only [Act.put, List.setIfInBounds_toArray, List.set_cons_zero, List.set_cons_succ]
      refine take_do (i := 1) (v := (.int .i64 i)) rfl (by kernel_rfl) (by kernel_rfl) (by kernel_rfl) (fun _ _ _ h => h) (by rfl) ?_ (by assumption) ?_
      · intro w hSw
        obtain ⟨⟨c0, c1, c2, c3, c4⟩, k0, _⟩ := hSw
        go_simp
      simp only [Act.put, List.setIfInBounds_toArray, List.set_cons_zero, List.set_cons_succ]
      refine take_do (i := 2) (v := (.pointer (some ⟨lb, i * 5, none⟩))) rfl (by kernel_rfl) (by kernel_rfl) (by kernel_rfl) (fun _ _ _ h => h) (by rfl) ?_ (by assumption) ?_
      · intro w hSw
        obtain ⟨⟨c0, c1, c2, c3, c4⟩, k0, _⟩ := hSw
        go_simp
      simp only [Act.put, List.setIfInBounds_toArray, List.set_cons_zero, List.set_cons_succ]
      refine take_do (i := 3) (v := (rcV (rs i))) rfl (by kernel_rfl) (by kernel_rfl) (by kernel_rfl) (fun _ _ _ h => h) (by rfl) ?_ (by assumption) ?_
      · intro w hSw
        obtain ⟨⟨c0, c1, c2, c3, c4⟩, k0, _⟩ := hSw
        go_simp
      simp only [Act.put, List.setIfInBounds_toArray, List.set_cons_zero, List.set_cons_succ]
      refine take_do (i := 4) (v := (.slice (some ⟨gc, 0, none⟩) n n)) rfl (by kernel_rfl) (by kernel_rfl) (by kernel_rfl) (fun _ _ _ h => h) (by rfl) ?_ (by assumption) ?_
      · intro w hSw
        obtain ⟨⟨c0, c1, c2, c3, c4⟩, k0, _⟩ := hSw
        go_simp
      simp only [Act.put, List.setIfInBounds_toArray, List.set_cons_zero, List.set_cons_succ]
      refine take_do (i := 5) (v := (.int .i64 i)) rfl (by kernel_rfl) (by kernel_rfl) (by kernel_rfl) (fun _ _ _ h => h) (by rfl) ?_ (by assumption) ?_
      · intro w hSw
        obtain ⟨⟨c0, c1, c2, c3, c4⟩, k0, _⟩ := hSw
        go_simp
      simp only [Act.put, List.setIfInBounds_toArray, List.set_cons_zero, List.set_cons_succ]
      refine take_do (i := 6) (v := (.pointer (some ⟨gc, i, none⟩))) rfl (by kernel_rfl) (by kernel_rfl) (by kernel_rfl) (fun _ _ _ h => h) (by rfl) ?_ (by assumption) ?_
      · intro w hSw
        obtain ⟨⟨c0, c1, c2, c3, c4⟩, k0, _⟩ := hSw
        go_simp
      simp only [Act.put, List.setIfInBounds_toArray, List.set_cons_zero, List.set_cons_succ]
      refine take_do (i := 7) (v := (.int .i64 (s.cs i))) rfl (by kernel_rfl) (by kernel_rfl) (by kernel_rfl) (fun _ _ _ h => h) (by rfl) ?_ (by assumption) ?_
      · intro w hSw
        obtain ⟨⟨c0, c1, c2, c3, c4⟩, k0, _⟩ := hSw
        go_simp
      simp only [Act.put, List.setIfInBounds_toArray, List.set_cons_zero, List.set_cons_succ]
      refine take_call (i := 8) rfl (by kernel_rfl) (fun K2 hK => ?_)
      go_simp
      refine (share_any (rs i) (s.cs i) _ HA.out x0 x1).mono ?_
      rintro e w1 ⟨rfl, hb⟩
      go_wp2_with fail
      refine hK.out _ _ (hHeld.below hb) (fun hHeld2 => ?_)
      clear hK hHeld hb
      have hHeld := hHeld2
      clear hHeld2
      refine take_do (i := 9) (v := (.tuple #[.int .i64 (Rv.stays (rs i) (s.cs i)), .int .i64 (Rv.taken (rs i) (s.cs i)), .int .i64 (Rv.flows (rs i) (s.cs i))])) rfl (by kernel_rfl) (by kernel_rfl) (by kernel_rfl) (fun _ _ _ h => h) (by rfl) ?_ (by assumption) ?_
      · intro w hSw
        obtain ⟨⟨c0, c1, c2, c3, c4⟩, k0, _⟩ := hSw
        go_simp
      simp only [Act.put, List.setIfInBounds_toArray, List.set_cons_zero, List.set_cons_succ]
      refine take_do (i := 10) (v := (.int .i64 (Rv.stays (rs i) (s.cs i)))) rfl (by kernel_rfl) (by kernel_rfl) (by kernel_rfl) (fun _ _ _ h => h) (by rfl) ?_ (by assumption) ?_
      · intro w hSw
        obtain ⟨⟨c0, c1, c2, c3, c4⟩, k0, _⟩ := hSw
        go_simp
      simp only [Act.put, List.setIfInBounds_toArray, List.set_cons_zero, List.set_cons_succ]
      refine take_do (i := 11) (v := (.int .i64 (Rv.taken (rs i) (s.cs i)))) rfl (by kernel_rfl) (by kernel_rfl) (by kernel_rfl) (fun _ _ _ h => h) (by rfl) ?_ (by assumption) ?_
      · intro w hSw
        obtain ⟨⟨c0, c1, c2, c3, c4⟩, k0, _⟩ := hSw
        go_simp
      simp only [Act.put, List.setIfInBounds_toArray, List.set_cons_zero, List.set_cons_succ]
      refine take_do (i := 12) (v := (.int .i64 (Rv.flows (rs i) (s.cs i)))) rfl (by kernel_rfl) (by kernel_rfl) (by kernel_rfl) (fun _ _ _ h => h) (by rfl) ?_ (by assumption) ?_
      · intro w hSw
        obtain ⟨⟨c0, c1, c2, c3, c4⟩, k0, _⟩ := hSw
        go_simp
      simp only [Act.put, List.setIfInBounds_toArray, List.set_cons_zero, List.set_cons_succ]
      refine take_do (i := 13) (v := (.int .i64 (Rv.stays (rs i) (s.cs i)))) rfl (by kernel_rfl) (by kernel_rfl) (by kernel_rfl) (fun _ _ _ h => h) (by rfl) ?_ (by assumption) ?_
      · intro w hSw
        obtain ⟨⟨c0, c1, c2, c3, c4⟩, k0, _⟩ := hSw
        go_simp
      simp only [Act.put, List.setIfInBounds_toArray, List.set_cons_zero, List.set_cons_succ]
      refine take_do (i := 14) (v := (.int .i64 (Rv.taken (rs i) (s.cs i)))) rfl (by kernel_rfl) (by kernel_rfl) (by kernel_rfl) (fun _ _ _ h => h) (by rfl) ?_ (by assumption) ?_
      · intro w hSw
        obtain ⟨⟨c0, c1, c2, c3, c4⟩, k0, _⟩ := hSw
        go_simp
      simp only [Act.put, List.setIfInBounds_toArray, List.set_cons_zero, List.set_cons_succ]
      refine take_do (i := 15) (v := (.int .i64 (Rv.flows (rs i) (s.cs i)))) rfl (by kernel_rfl) (by kernel_rfl) (by kernel_rfl) (fun _ _ _ h => h) (by rfl) ?_ (by assumption) ?_
      · intro w hSw
        obtain ⟨⟨c0, c1, c2, c3, c4⟩, k0, _⟩ := hSw
        go_simp
      simp only [Act.put, List.setIfInBounds_toArray, List.set_cons_zero, List.set_cons_succ]
      refine wpAnyH_done (by kernel_rfl) ?_ _
      have HS1 := Lib.hid hHeld.2.2
      clear hHeld
      have hz1 : w.heap.size < w1.heap.size := HS1.out.slot.lt
      by_cases ho : 1000000000 < Rv.stays (rs i) (s.cs i)
      · obtain ⟨⟨q0, q1, q2, q3, q4⟩, ⟨f0, f1, f2, f3, f4⟩⟩ := HS1.out.slot.kept
        have hF := Lib.hid (HS1.out.slot.fin (.slice none 0 0) (.slice none 0 0) (.slice none 0 0) (.int .i64 0) (.int .i64 0))
        have HO : Hid (Rv.run rs f n = none) := Rv.run_over hrun.out ho hlt
        go_wp2_with fail
        refine (itoa_any i (by omega) _).mono ?_
        rintro e w2 ⟨⟨tx, rfl, htx⟩, rfl⟩
        have htz : ¬ 9223372036854775807 < 19 + tx.size := by omega
        go_wp2_with fail
        exact bodyPost_ret (v := .tuple #[zRo, errV ((⟨#[116, 104, 101, 32, 115, 116, 111, 114, 101, 32, 111, 102, 32, 114, 101, 97, 99, 104, 32]⟩ : ByteArray) ++ tx) 5]) (by
          obtain ⟨⟨x0, x1, x2, x3, x4⟩, _⟩ := hF.out
          simp only [results, Tryd.results62]
          simp [go_sem, x0, x1, x2, x3, x4]) rfl ⟨Or.inl ⟨5, _, Rv.step_over ⟨HR.out, rfl, HQ.out⟩ HO.out, by decide, rfl⟩, hF.out.2⟩
      · have HN := Lib.hid (Rv.run_next hrun.out ho)
        obtain ⟨⟨p0, p1, p2, p3, p3f⟩, ⟨⟨lx, l0⟩, l0f, g0, g0f, t0, t0f⟩, k0, k0f⟩ := HS1.out.cells hlt
        obtain ⟨d1, d2, d3, d4, d5, d6, d7, d8, d9⟩ := HS1.out.far
        obtain ⟨m1, m2, m3⟩ := HS1.out.lists.2.1
        obtain ⟨c0, c1, c2, c3, c4⟩ := (H.out i hlt).block (HS1.out.slot.old.block _ hlb)
        have nl : lb ≠ gl ∧ lb ≠ gf ∧ lb ≠ gt := by have := HS1.out.lists.1; omega
        obtain ⟨n1, n2, n3⟩ := nl
        clear c0 c1 c3 c4
        go_wp2_with fail
        go_region
        have HS2 : Hid (SL w n rs gl gf gt c po gc ⟨s.cs, Rv.upd s.st i (Rv.stays (rs i) (s.cs i)), Rv.upd s.tk i (Rv.taken (rs i) (s.cs i)), Rv.upd s.fl i (Rv.flows (rs i) (s.cs i)), s.sea⟩ (((w1.setCell ⟨gl, i * 5, none⟩ (.int .i64 (Rv.stays (rs i) (s.cs i)))).setCell ⟨gt, i, none⟩ (.int .i64 (Rv.taken (rs i) (s.cs i)))).setCell ⟨gf, i, none⟩ (.int .i64 (Rv.flows (rs i) (s.cs i)))).drew) := (((HS1.out.setL i (Rv.stays (rs i) (s.cs i))).setT i (Rv.taken (rs i) (s.cs i))).setF i (Rv.flows (rs i) (s.cs i))).below (Below.refl _ _).drew
        clear p0 p1 p2 p3 p3f l0 l0f g0 g0f t0 t0f k0 k0f c2 HS1 hz1
        generalize (((w1.setCell ⟨gl, i * 5, none⟩ (.int .i64 (Rv.stays (rs i) (s.cs i)))).setCell ⟨gt, i, none⟩ (.int .i64 (Rv.taken (rs i) (s.cs i)))).setCell ⟨gf, i, none⟩ (.int .i64 (Rv.flows (rs i) (s.cs i)))).drew = W2 at *
        obtain ⟨⟨p0, p1, p2, p3, p3f⟩, _, _, _⟩ := HS2.out.cells hlt
        obtain ⟨c0, c1, c2, c3, c4⟩ := (H.out i hlt).block (HS2.out.slot.old.block _ hlb)
        clear c0 c1 c3 c4 p0 p1 p2
        obtain ⟨sa0, sa1⟩ := HBD.out.2
        have hfl0 : 0 ≤ Rv.flows (rs i) (s.cs i) := HSH.out.2.2.1
        have hfl1 : Rv.flows (rs i) (s.cs i) ≤ 41040000000 := by
          have h1 := HSH.out.2.2.2.2
          have h2 := HSH.out.1
          have h3 := HST.out.1
          have h4 := HA.out.1.2
          omega
        have hzp : po < W2.heap.size := HS2.out.out.lt
        have hzc : gc < W2.heap.size := HS2.out.com.lt
        by_cases hd : (rs i).dn = -1
        · have HD1 := Lib.hid hd
          rw [hd] at c2
          clear hd
          go_wp2_with fail
          go_roundw
          case rel =>
            refine ⟨i + 1, Rv.thenSt rs i s, by omega, by go_num, HN, (HS2.out.setS _).congr ?_⟩
            unfold Rv.thenSt
            rw [if_pos HD1.out, if_pos HD1.out]
          case measure => simp [intOf]; omega
        · have hdd : (i : Int) < (rs i).dn ∧ (rs i).dn < (n : Int) := by
            rcases HD.out with k | k
            · exact absurd k hd
            · exact k
          obtain ⟨D, hD⟩ : ∃ D : Nat, (rs i).dn = (D : Int) := ⟨(rs i).dn.toNat, by omega⟩
          have HDD : Hid ((rs i).dn = (D : Int)) := hD
          rw [hD] at c2 hdd
          have hD1 : D < n := by omega
          have hD1z : (D : Int) < (n : Int) := by omega
          have hD2 : ¬ (D : Int) = -1 := by omega
          have hD3 : ((D : Int) == -1) = false := by simp
          obtain ⟨_, _, k0, k0f⟩ := HS2.out.cells hD1
          have k1 := HBD.out.1 D (by omega) hD1
          obtain ⟨k10, k11⟩ := k1
          clear hd hD hdd
          have k0' : W2.cell? ⟨gc, D, none⟩ = some (.int .i64 (s.cs D)) := k0
          clear k0
          go_wp2_with fail
          go_roundw
          case rel =>
            refine ⟨i + 1, Rv.thenSt rs i s, by omega, by go_num, HN, (HS2.out.setC D _).congr ?_⟩
            unfold Rv.thenSt
            have hne : ¬ (rs i).dn = -1 := by rw [HDD.out]; omega
            have ht : (rs i).dn.toNat = D := by rw [HDD.out]; simp
            rw [if_neg hne, if_neg hne, ht]
          case measure => simp [intOf]; omega
    · obtain rfl : i = n := by omega
      obtain ⟨⟨q0, q1, q2, q3, q4⟩, ⟨f0, f1, f2, f3, f4⟩⟩ := hS.out.slot.kept
      have hz := hS.out.slot.lt
      have hzp : po < wr.heap.size := hS.out.out.lt
      have p0 : wr.cell? ⟨po, 0, none⟩ = some (.slice (some ⟨gl, 0, none⟩) i c) := hS.out.out.cell (i := 0) (by omega)
      have p1 : wr.cell? ⟨po, 1, none⟩ = some (.slice (some ⟨gf, 0, none⟩) i i) := hS.out.out.cell (i := 1) (by omega)
      have p2 : wr.cell? ⟨po, 2, none⟩ = some (.slice (some ⟨gt, 0, none⟩) i i) := hS.out.out.cell (i := 2) (by omega)
      have p3 : wr.cell? ⟨po, 3, none⟩ = some (.int .i64 s.sea) := hS.out.out.cell (i := 3) (by omega)
      have p4 : wr.cell? ⟨po, 4, none⟩ = some (.int .i64 0) := hS.out.out.cell (i := 4) (by omega)
      have hF := Lib.hid hS.out.fin
      go_wp2_with fail
      exact bodyPost_ret (v := .tuple #[vRo i gl gf gt c i i s.sea 0, .nilIface]) (by
        obtain ⟨⟨x0, x1, x2, x3, x4⟩, _⟩ := hF.out
        simp only [results, Tryd.results62]
        simp [go_sem, x0, x1, x2, x3, x4]) rfl ⟨Or.inr ⟨s, gl, gf, gt, c, Rv.step_ok ⟨HR.out, rfl, HQ.out⟩ hrun.out, rfl, hF.out.2.1⟩, hF.out.2.2⟩

/-- The program's step, whatever is handed in. -/
theorem step_any (a b : Option Addr) (n cn m cm : Nat) (rs : Nat → Rv.Rc) (f : Nat → Int) (w : World) (h : RcsAt a n rs w) (h2 : IntsAt b m f w) (hm : m ≤ 4194304) :
    Calls Tryd.prog 62 #[.slice a n cn, .slice b m cm] w fun e w' => StepEnd w n rs (Rv.step n m rs f) e w' ∧ Below w.heap.size w w' := by
  by_cases hr : Rv.Right n rs
  · by_cases hq : m = n ∧ Rv.RainOk n f
    · obtain ⟨rfl, hq⟩ := hq
      obtain ⟨lb, rfl, hl⟩ : ∃ lb, a = some ⟨lb, 0, none⟩ ∧ ∀ i, i < m → RcCells lb (i * 5) (rs i) w := by
        rcases h with h | h
        · have := hr.1.1; omega
        · exact h
      obtain ⟨rb, rfl, hq2⟩ : ∃ rb, b = some ⟨rb, 0, none⟩ ∧ ∀ i, i < m → w.cell? ⟨rb, i, none⟩ = some (.int .i64 (f i)) := by
        rcases h2 with h | h
        · have := hr.1.1; omega
        · exact h
      exact step_go lb rb m cn cm rs f w hl hq2 hr hq
    · refine (step_no2 a b n cn m cm rs f w h h2 hm hr hq).mono ?_
      rintro e w' ⟨⟨s, rfl⟩, hb⟩
      exact ⟨Or.inl ⟨1, s, Rv.step_no2 hq, by decide, rfl⟩, hb⟩
  · refine (step_no1 a b n cn m cm rs w h hr).mono ?_
    rintro e w' ⟨⟨s, rfl⟩, hb⟩
    exact ⟨Or.inl ⟨1, s, Rv.step_no1 hr, by decide, rfl⟩, hb⟩
end Go.Proofs.YtdpghhmcibiplaaDoor
