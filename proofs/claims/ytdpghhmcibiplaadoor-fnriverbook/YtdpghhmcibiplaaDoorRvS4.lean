/-
  The contract of the model's step, at a right river and a right rain.
-/
import Derived.Test.YtdpghhmcibiplaaDoorRvS3
import Derived.Deep.Cut
namespace Go.Proofs.YtdpghhmcibiplaaDoor
open Go.RowKit Go.Deep

set_option maxRecDepth 100000 in
set_option maxHeartbeats 8000000 in
theorem specStep_go (lb rb n cn cm : Nat) (rs : Nat → Rv.Rc) (f : Nat → Int) (w : World) (h : ∀ i, i < n → RcCells lb (i * 5) (rs i) w) (h2 : ∀ i, i < n → w.cell? ⟨rb, i, none⟩ = some (.int .i64 (f i))) (hr : Rv.Right n rs) (hq : Rv.RainOk n f) :
    Calls Tryd.prog 13 #[.slice (some ⟨lb, 0, none⟩) n cn, .slice (some ⟨rb, 0, none⟩) n cm] w fun e w' => SpEnd n rs (Rv.step n n rs f) e w' ∧ Below w.heap.size w w' := by
  have hn1 : 1 ≤ n := hr.1.1
  have hn2 : n ≤ 40 := hr.1.2
  have hz : ¬ (400 : Int) < (n : Int) := by omega
  have H := Lib.hid h
  have H2 := Lib.hid h2
  have HR := Lib.hid hr
  have HQ := Lib.hid hq
  have hlb : lb < w.heap.size := (h 0 (by omega)).lt
  have hrb : rb < w.heap.size := World.block_lt_of_cell? _ _ (h2 0 (by omega))
  clear h h2 hr hq
  have hmk := run_make_row' (P := Tryd.prog) 23 2 (.int .i64 0) 8 Tryd.underlying23 info_i64 rfl .i64 .i64 n (by omega) (by omega)
  obtain ⟨i0, hi0, hz0, hz1, hz2⟩ := info_parts info_rc
  obtain ⟨i1, hi1, hy0, hy1, hy2⟩ := info_parts info_i64
  go_enter Tryd.func13, Tryd.ntmps13
  go_wp2_with fail
  refine (specRight_any _ n cn rs _ (RcsAt.below (Or.inr ⟨lb, rfl, H.out⟩) ((Below.refl _ _).alloc (Nat.le_refl _) _))).mono ?_
  rintro e w1 ⟨⟨b1, rfl, hb1⟩, hb⟩
  obtain rfl : b1 = true := hb1.2 HR.out
  have hs1 : RoSlot w w1 := (RoSlot.start w).next hb
  have HS1 := Lib.hid hs1
  clear hb hb1
  go_wp2_with fail
  refine (all_ok _ n cm f _ (IntsAt.below (Or.inr ⟨rb, rfl, H2.out⟩) hs1.old) (by omega)).mono ?_
  rintro e w2 ⟨⟨b2, rfl, hb2⟩, rfl⟩
  obtain rfl : b2 = true := hb2.2 HQ.out
  have hzw := hs1.lt
  clear hs1 hb2
  go_wp2_with (at_builtin; refine wpList_append_lies _ rfl _ _ 25 rfl w2.heap.size 43 i0 (.agg #[.int .i64 0, .int .i64 0, .int .i64 0, .int .i64 0, .int .i64 0]) 5 40 Tryd.underlying25 hi0 hz0 hz1 hz2 rfl (by decide) _ _ _ rfl (World.ownsRow_made w2 #[] 0 (Nat.le_refl _) (Nat.zero_le _) rfl) ⟨lb, 0, none⟩ n cn ((listOf rs n).flatMap rcCells) rfl ?qc1 ?qc2 ?qc3 ?qc4 ?qc5 ?qc6 ?qc7 (w2.heap.size + 1) ?qc8 ?_)
  case qc1 => rw [rcCells_len, listOf_len]
  case qc2 =>
    intro j u hj
    have hjn : j < n * 5 := by
      have := (List.getElem?_eq_some_iff.1 hj).1
      rw [rcCells_len, listOf_len] at this
      exact this
    rw [Addr.add_lit]
    refine Lib.cell?_alloc_some _ ?_
    rw [Nat.zero_add, rc_cell (fun i hi => (H.out i hi).block (HS1.out.old.block _ hlb)) j hjn]
    rw [rcCells_get _ _ (by rw [listOf_len]; exact hjn)] at hj
    rw [← hj]
    unfold rcRow; rw [rcList_of rs (by omega)]
  case qc3 =>
    intro u hu
    obtain ⟨x, _, hx⟩ := List.mem_flatMap.1 hu
    simp [rcCells] at hx
    rcases hx with rfl | rfl | rfl | rfl | rfl <;> rfl
  case qc4 => omega
  case qc5 => unfold maxLen; omega
  case qc6 => omega
  case qc7 => simp
  case qc8 => simp
  intro gl c w3 hown hgrow hat hlt3
  have hb3 : Below w2.heap.size w2 w3 := ((Below.refl _ w2).alloc (Nat.le_refl _) _).grown hgrow (by simp) (by intro k hk; simp [Value.ownBlock] at hk; omega)
  have HS3 : Hid (RoSlot w w3) := HS1.out.next hb3
  have hgl : w.heap.size < gl := by
    rcases hat with e | e
    · simp [Value.ownBlock] at e; omega
    · omega
  have HL3 : Hid (RcBlk gl n rs w3) := by
    have hown' : w3.ownsRow w2.heap.size 43 5 (.slice (some ⟨gl, 0, none⟩) n c) (listOf rs n).length ((listOf rs n).flatMap rcCells) := by
      rw [listOf_len]; simpa using hown
    rcases own_rcs hown' with ⟨e, _⟩ | ⟨g, c2, e, _, hblk⟩
    · cases e
    · rw [listOf_len] at e hblk
      cases e
      exact hblk.congr (fun j hj => rcList_of rs hj)
  have HST := Lib.hid (spl_start (f := f) (c := c) HS3.out HL3.out hgl)
  have hz3 := HS3.out.lt
  clear hown hgrow hat hlt3 hb3 HL3 HS1 hz0 hz1 hz2 hi0
  go_wp2_with fail
  clear hmk
  go_loopw [7] (fun iv wr => ∃ (i : Nat) (s : Rv.St) (vf vt : Value), i ≤ n ∧ iv = .int .i64 i ∧ Hid (Rv.run rs f i = some s) ∧ Hid (SpL w n rs f gl c w3.heap.size (w3.heap.size + 1) vf vt i i s wr)) (fun iv _ => n - (intOf iv).toNat)
  case atStart => exact ⟨0, Rv.start rs f, .slice none 0 0, .slice none 0 0, Nat.zero_le _, rfl, rfl, HST⟩
  case round =>
    obtain ⟨i, s, vf, vt, hi, rfl, hrun, hS⟩ := hrel
    clear HST HS3 hzw
    generalize w3.heap.size = po at *
    generalize po + 1 = gc at *

    by_cases hlt : i < n
    · have hltz : (i : Int) < (n : Int) := by omega
      have hI := Lib.hid (Rv.run_inv HR.out HQ.out hi hrun.out)
      have hbd := hI.out.bounds HR.out HQ.out hi
      have HBD := Lib.hid hbd
      obtain ⟨x0, x1⟩ := hbd.1 i (Nat.le_refl _) hlt
      have HA := Lib.hid (HR.out.2 i hlt).1
      have HD := Lib.hid (HR.out.2 i hlt).2
      have HSB := Lib.hid (Rv.stays_bounds HA.out x0)
      have HSH := Lib.hid (Rv.share_facts HA.out x0)
      obtain ⟨⟨s0, s1⟩, ⟨kp0, kp1⟩, ⟨tk0, tk1⟩, ⟨ls0, ls1⟩⟩ := HA.out
      obtain ⟨fq0, fq1⟩ := HQ.out i hlt
      have hp0 : 0 ≤ ((rs i).st + s.cs i) * (rs i).kp := Int.mul_nonneg (by omega) kp0
      have hp1 : ((rs i).st + s.cs i) * (rs i).kp ≤ 41040000000000 := by
        have h1 : ((rs i).st + s.cs i) * (rs i).kp ≤ ((rs i).st + s.cs i) * 1000 := Int.mul_le_mul_of_nonneg_left kp1 (by omega)
        omega
      clear hbd
      obtain ⟨c0, c1, c2, c3, c4⟩ := (H.out i hlt).block (hS.out.slot.old.block _ hlb)
      obtain ⟨_, _, _, k0, _⟩ := hS.out.cells hlt
      have r0 : wr.cell? ⟨rb, i, none⟩ = some (.int .i64 (f i)) := (hS.out.slot.old.cell (p := ⟨rb, i, none⟩) hrb).trans (H2.out i hlt)
      have zc : gc < wr.heap.size := hS.out.com.lt
      have zr : rb < wr.heap.size := World.block_lt_of_cell? _ _ r0
      have hwe : (rs i).st + f i + (s.cs i - f i) = (rs i).st + s.cs i := by omega
      have hst0 : 0 ≤ Rv.stays (rs i) (s.cs i) := HSB.out.1
      have hst1 : Rv.stays (rs i) (s.cs i) ≤ (rs i).st + s.cs i := HSB.out.2
      have he1 : ((rs i).st + s.cs i) * (rs i).kp / 1000 = Rv.stays (rs i) (s.cs i) := rfl
      have he2 : (rs i).st + s.cs i - Rv.stays (rs i) (s.cs i) = Rv.given (rs i) (s.cs i) := rfl
      have hgv0 : 0 ≤ Rv.given (rs i) (s.cs i) := by unfold Rv.given; omega
      have hgv1 : Rv.given (rs i) (s.cs i) ≤ 41040000000 := by unfold Rv.given; omega
      have he3 : min (rs i).tk (max (Rv.given (rs i) (s.cs i) - (rs i).ls) 0) = Rv.taken (rs i) (s.cs i) := rfl
      have he4 : Rv.given (rs i) (s.cs i) - Rv.taken (rs i) (s.cs i) = Rv.flows (rs i) (s.cs i) := rfl
      have htk0 : 0 ≤ Rv.taken (rs i) (s.cs i) := HSH.out.1
      have htk1 : Rv.taken (rs i) (s.cs i) ≤ 1000000 := Int.le_trans HSH.out.2.1 tk1
      have hfl0 : 0 ≤ Rv.flows (rs i) (s.cs i) := HSH.out.2.2.1
      have hfl1 : Rv.flows (rs i) (s.cs i) ≤ 41040000000 := by
        have h1 := HSH.out.2.2.2.2
        omega
      have HS1 : Hid (SpL w n rs f gl c po gc vf vt i i s (wr.alloc (rcO (rs i))).drew) := (hS.out.below ((Below.refl _ _).alloc (Nat.le_refl _) _)).below (Below.refl _ _).drew
      have HBR : Hid (RcCells wr.heap.size 0 (rs i) (wr.alloc (rcO (rs i))).drew) := ⟨by show (wr.alloc (rcO (rs i))).cell? _ = _; simp, by show (wr.alloc (rcO (rs i))).cell? _ = _; simp, by show (wr.alloc (rcO (rs i))).cell? _ = _; simp, by show (wr.alloc (rcO (rs i))).cell? _ = _; simp, by show (wr.alloc (rcO (rs i))).cell? _ = _; simp⟩
      have HNR : Hid (po ≠ wr.heap.size ∧ gl ≠ wr.heap.size ∧ gc ≠ wr.heap.size ∧ w.heap.size ≠ wr.heap.size ∧ vf.ownBlock ≠ some wr.heap.size ∧ vt.ownBlock ≠ some wr.heap.size) := by
        have l1 := hS.out.out.lt
        have l2 := hS.out.lst.lt
        have l3 := hS.out.com.lt
        have l4 := hS.out.slot.lt
        exact ⟨by omega, by omega, by omega, by omega, fun e => by have := (hS.out.fl.lt _ e).2; omega, fun e => by have := (hS.out.tk.lt _ e).2; omega⟩
      go_wp2_with fail
      go_region
      clear hS c0 c1 c2 c3 c4 k0 r0 zc zr hwe
      generalize (wr.alloc (rcO (rs i))).drew = W1 at *
      generalize wr.heap.size = R at *
      obtain ⟨b0, b1, b2, b3, b4⟩ := HBR.out
      have zR : R < W1.heap.size := HBR.out.lt
      go_wp2_with fail
      refine wp_region_held_drew (S := fun W => RcCells R 0 (rs i) W ∧ SpL w n rs f gl c po gc vf vt i i s W) (by kernel_rfl) ⟨HBR.out, HS1.out.below (Below.refl _ _).drew⟩ (fun hHeld => ?_)
      clear HS1 HBR b0 b1 b2 b3 b4 zR
      refine take_do (i := 0) (v := (.pointer (some ⟨R, 3, none⟩))) rfl (by kernel_rfl) (by kernel_rfl) (by kernel_rfl) (fun _ _ _ h => h) (by rfl) ?_ (by assumption) ?_
      · intro w hSw
        obtain ⟨⟨c0, c1, c2, c3, c4⟩, _⟩ := hSw
        go_simp
      simp only [Act.put, List.setIfInBounds_toArray, List.set_cons_zero, List.set_cons_succ]
      refine take_do (i := 1) (v := (.int .i64 (rs i).tk)) rfl (by kernel_rfl) (by kernel_rfl) (by kernel_rfl) (fun _ _ _ h => h) (by rfl) ?_ (by assumption) ?_
      · intro w hSw
        obtain ⟨⟨c0, c1, c2, c3, c4⟩, _⟩ := hSw
        go_simp
      simp only [Act.put, List.setIfInBounds_toArray, List.set_cons_zero, List.set_cons_succ]
      refine take_do (i := 2) (v := (.int .i64 (Rv.given (rs i) (s.cs i)))) rfl (by kernel_rfl) (by kernel_rfl) (by kernel_rfl) (fun _ _ _ h => h) (by rfl) ?_ (by assumption) ?_
      · intro w hSw
        obtain ⟨⟨c0, c1, c2, c3, c4⟩, _⟩ := hSw
        go_simp
      simp only [Act.put, List.setIfInBounds_toArray, List.set_cons_zero, List.set_cons_succ]
      refine take_do (i := 3) (v := (.pointer (some ⟨R, 4, none⟩))) rfl (by kernel_rfl) (by kernel_rfl) (by kernel_rfl) (fun _ _ _ h => h) (by rfl) ?_ (by assumption) ?_
      · intro w hSw
        obtain ⟨⟨c0, c1, c2, c3, c4⟩, _⟩ := hSw
        go_simp
      simp only [Act.put, List.setIfInBounds_toArray, List.set_cons_zero, List.set_cons_succ]
      refine take_do (i := 4) (v := (.int .i64 (rs i).ls)) rfl (by kernel_rfl) (by kernel_rfl) (by kernel_rfl) (fun _ _ _ h => h) (by rfl) ?_ (by assumption) ?_
      · intro w hSw
        obtain ⟨⟨c0, c1, c2, c3, c4⟩, _⟩ := hSw
        go_simp
      simp only [Act.put, List.setIfInBounds_toArray, List.set_cons_zero, List.set_cons_succ]
      refine take_do (i := 5) (v := (.int .i64 (Rv.given (rs i) (s.cs i) - (rs i).ls))) rfl (by kernel_rfl) (by kernel_rfl) (by kernel_rfl) (fun _ _ _ h => h) (by rfl) ?_ (by assumption) ?_
      · intro w hSw
        obtain ⟨⟨c0, c1, c2, c3, c4⟩, _⟩ := hSw
        go_simp
        rw [IntKind.wrap_i64]; omega
      simp only [Act.put, List.setIfInBounds_toArray, List.set_cons_zero, List.set_cons_succ]
      refine take_call (i := 6) rfl (by kernel_rfl) (fun K2 hK => ?_)
      go_simp
      refine (specMax 0 (Rv.given (rs i) (s.cs i) - (rs i).ls) _).mono ?_
      rintro e w' ⟨rfl, rfl⟩
      go_wp2_with fail
      refine hK.out _ _ hHeld (fun hHeld2 => ?_)
      clear hK hHeld
      have hHeld := hHeld2
      clear hHeld2
      refine take_call (i := 7) rfl (by kernel_rfl) (fun K2 hK => ?_)
      go_simp
      refine (specMin (rs i).tk (max (Rv.given (rs i) (s.cs i) - (rs i).ls) 0) _).mono ?_
      rintro e w' ⟨rfl, rfl⟩
      go_wp2_with fail
      refine hK.out _ _ hHeld (fun hHeld2 => ?_)
      clear hK hHeld
      have hHeld := hHeld2
      clear hHeld2
      refine take_do (i := 8) (v := (.int .i64 (Rv.taken (rs i) (s.cs i)))) rfl (by kernel_rfl) (by kernel_rfl) (by kernel_rfl) (fun _ _ _ h => h) (by rfl) ?_ (by assumption) ?_
      · intro w hSw
        go_simp
      simp only [Act.put, List.setIfInBounds_toArray, List.set_cons_zero, List.set_cons_succ]
      refine wpAnyH_done (by kernel_rfl) ?_ _
      obtain ⟨HBR0, HS0⟩ := hHeld
      have HBR := Lib.hid HBR0
      have HS1 := Lib.hid HS0
      clear HBR0 HS0
      generalize W1.drew = W1 at *
      obtain ⟨n1, n2, n3, n4, n5, n6⟩ := HNR.out
      clear he1 he2 he3 hp0 hp1 hst0 hst1 hgv0 hgv1 kp0 kp1 tk0 tk1 ls0 ls1 s0 s1 fq0 fq1
      by_cases ho : 1000000000 < Rv.stays (rs i) (s.cs i)
      · obtain ⟨⟨q0, q1, q2, q3, q4⟩, ⟨f0, f1, f2, f3, f4⟩⟩ := HS1.out.slot.kept
        have hzs := HS1.out.slot.lt
        have hF := Lib.hid (HS1.out.slot.fin (.slice none 0 0) (.slice none 0 0) (.slice none 0 0) (.int .i64 0) (.int .i64 5))
        have HO : Hid (Rv.run rs f n = none) := Rv.run_over hrun.out ho hlt
        go_wp2_with fail
        exact bodyPost_ret (v := .agg #[.slice none 0 0, .slice none 0 0, .slice none 0 0, .int .i64 0, .int .i64 5]) (by
          obtain ⟨⟨x0, x1, x2, x3, x4⟩, _⟩ := hF.out
          simp only [results, Tryd.results13]
          simp [go_sem, x0, x1, x2, x3, x4]) rfl ⟨Or.inl ⟨5, Rv.step_over ⟨HR.out, rfl, HQ.out⟩ HO.out, by decide, rfl⟩, hF.out.2⟩
      · have HN := Lib.hid (Rv.run_next hrun.out ho)
        have HS2 := Lib.hid (HS1.out.setL i (Rv.stays (rs i) (s.cs i)))
        obtain ⟨⟨p0, p1, p2, p3⟩, ⟨p1f, p2f, p3f⟩, ⟨⟨lx, l0⟩, l0f⟩, k0, k0f⟩ := HS1.out.cells hlt
        obtain ⟨d1, d2, d3, d4, d5, d6⟩ := HS1.out.far
        have zP : po < W1.heap.size := HS1.out.out.lt
        have zw1 : w.heap.size < W1.heap.size := HS1.out.slot.lt
        have zL : gl < W1.heap.size := HS1.out.lst.lt
        obtain ⟨af, cf, rfl⟩ := own_shape HS1.out.fl
        obtain ⟨at_, ct, rfl⟩ := own_shape HS1.out.tk
        clear HS1
        clear k0 k0f p3 p3f
        go_wp2_with (at_builtin; refine wpList_append_lies _ rfl _ _ 23 rfl (w.heap.size + 1) 2 i1 (.int .i64 0) 1 8 Tryd.underlying23 hi1 hy0 hy1 hy2 rfl (by decide) _ _ _ rfl (HS2.out.fl.alloc _) ⟨W1.heap.size, 0, none⟩ 1 1 [.int .i64 (Rv.flows (rs i) (s.cs i))] rfl rfl ?a1 ?a2 ?a3 ?a4 ?a5 ?a6 (W1.heap.size + 1) ?a7 ?_)
        try (case a1 => (intro j u hj; match j, hj with
          | 0, hj => (simp at hj; subst hj; simp [Addr.add])))
        try (case a2 => first | rfl | (intro u hu; simp at hu; subst hu; rfl))
        try (case a3 => omega)
        try (case a4 => (unfold maxLen; omega))
        try (case a5 => omega)
        try (case a6 => first | omega | (simp; omega))
        try (case a7 => simp)
        intro g3 cap3 W3 hown hgrow hat hlt3
        have HS3 : Hid (SpL w n rs f gl c po gc (.slice (some ⟨g3, 0, none⟩) (i + 1) cap3) (.slice at_ i ct) (i + 1) i ⟨s.cs, Rv.upd s.st i (Rv.stays (rs i) (s.cs i)), s.tk, Rv.upd s.fl i (Rv.flows (rs i) (s.cs i)), s.sea⟩ (W3.setCell ⟨po, 1, none⟩ (.slice (some ⟨g3, 0, none⟩) (i + 1) cap3))) := HS2.out.pushF hgrow hown (by simpa using hat)
        have far3 : ∀ k, k < W1.heap.size → k ≠ gl → (Value.slice af i cf).ownBlock ≠ some k → W3.heap[k]? = W1.heap[k]? := fun k h1 h2 h3 => by
          rw [hgrow.block k (by simp; omega) (fun e => h3 e.symm), blk_alloc_lt _ _ _ (by simp; omega)]
          exact blk_setCell_other _ _ _ _ (by show k ≠ gl; exact h2)
        have e3p := far3 po zP d4 (fun e => (HS2.out.ff po e).1 rfl)
        have p1' : W3.cell? ⟨po, 1, none⟩ = some (.slice af i cf) := (World.cell?_of_block (a := ⟨po, 1, none⟩) e3p).trans p1
        have p1f' : W3.frozen? ⟨po, 1, none⟩ = false := (World.frozen?_of_block (a := ⟨po, 1, none⟩) e3p).trans p1f
        have p2' : W3.cell? ⟨po, 2, none⟩ = some (.slice at_ i ct) := (World.cell?_of_block (a := ⟨po, 2, none⟩) e3p).trans p2
        have HBR3 : Hid (RcCells R 0 (rs i) (W3.setCell ⟨po, 1, none⟩ (.slice (some ⟨g3, 0, none⟩) (i + 1) cap3))) := (HBR.out.block (far3 R HBR.out.lt n2.symm n5)).block (blk_setCell_other _ _ _ _ (by show R ≠ po; exact n1.symm))
        have zP3 : po < W3.heap.size := World.block_lt_of_cell? _ _ p1'
        clear hown hgrow hat hlt3 far3 e3p HS2 HBR p0 p1 p2 p1f p2f l0 l0f zP zL p2'
        go_upto_region 20 with fail
        clear p1' p1f' zP3
        generalize (W3.setCell ⟨po, 1, none⟩ (.slice (some ⟨g3, 0, none⟩) (i + 1) cap3)) = W3 at *
        have p2' : W3.cell? ⟨po, 2, none⟩ = some (.slice at_ i ct) := HS3.out.out.cell (i := 2) (by omega)
        have zP3 : po < W3.heap.size := HS3.out.out.lt
        have zw3 : w.heap.size < W3.heap.size := HS3.out.slot.lt
        have zR3 : R < W3.heap.size := HBR3.out.lt
        have HO3 : Hid ((W3.alloc (.cells #[.int .i64 (Rv.taken (rs i) (s.cs i))] 2)).ownsRow (w.heap.size + 1) 2 1 (.slice at_ i ct) i (inVs s.tk i)) := HS3.out.tk.alloc _
        go_wp2_with (at_builtin; refine wpList_append_lies _ rfl _ _ 23 rfl (w.heap.size + 1) 2 i1 (.int .i64 0) 1 8 Tryd.underlying23 hi1 hy0 hy1 hy2 rfl (by decide) (.slice at_ i ct) i (inVs s.tk i) rfl HO3.out ⟨W3.heap.size, 0, none⟩ 1 1 [.int .i64 (Rv.taken (rs i) (s.cs i))] rfl rfl ?b1 ?b2 ?b3 ?b4 ?b5 ?b6 (W3.heap.size + 1) ?b7 ?_)
        try (case b1 => (intro j u hj; match j, hj with
          | 0, hj => (simp at hj; subst hj; simp [Addr.add])))
        try (case b2 => first | rfl | (intro u hu; simp at hu; subst hu; rfl))
        try (case b3 => omega)
        try (case b4 => (unfold maxLen; omega))
        try (case b5 => omega)
        try (case b6 => first | omega | (simp; omega))
        try (case b7 => simp)
        intro g5 cap5 W5 hown hgrow hat hlt5
        have HS5 : Hid (SpL w n rs f gl c po gc (.slice (some ⟨g3, 0, none⟩) (i + 1) cap3) (.slice (some ⟨g5, 0, none⟩) (i + 1) cap5) (i + 1) (i + 1) ⟨s.cs, Rv.upd s.st i (Rv.stays (rs i) (s.cs i)), Rv.upd s.tk i (Rv.taken (rs i) (s.cs i)), Rv.upd s.fl i (Rv.flows (rs i) (s.cs i)), s.sea⟩ (W5.setCell ⟨po, 2, none⟩ (.slice (some ⟨g5, 0, none⟩) (i + 1) cap5))) := HS3.out.pushT hgrow hown (by simpa using hat)
        have far5 : ∀ k, k < W3.heap.size → (Value.slice at_ i ct).ownBlock ≠ some k → W5.heap[k]? = W3.heap[k]? := fun k h1 h3 => by
          rw [hgrow.block k (by simp; omega) (fun e => h3 e.symm), blk_alloc_lt _ _ _ h1]
        have e5p := far5 po zP3 (fun e => (HS3.out.tt po e).1 rfl)
        have p2'' : W5.cell? ⟨po, 2, none⟩ = some (.slice at_ i ct) := (World.cell?_of_block (a := ⟨po, 2, none⟩) e5p).trans p2'
        have p2f'' : W5.frozen? ⟨po, 2, none⟩ = false := (World.frozen?_of_block (a := ⟨po, 2, none⟩) e5p).trans (HS3.out.out.frozen 2)
        have zP5 : po < W5.heap.size := World.block_lt_of_cell? _ _ p2''
        have HBR5 : Hid (RcCells R 0 (rs i) (W5.setCell ⟨po, 2, none⟩ (.slice (some ⟨g5, 0, none⟩) (i + 1) cap5))) := (HBR3.out.block (far5 R zR3 n6)).block (blk_setCell_other _ _ _ _ (by show R ≠ po; exact n1.symm))
        clear hown hgrow hat hlt5 far5 e5p HS3 HBR3 p2' zP3 zR3 zw3
        go_upto_region 21 with fail
        clear p2'' p2f'' zP5
        generalize (W5.setCell ⟨po, 2, none⟩ (.slice (some ⟨g5, 0, none⟩) (i + 1) cap5)) = W5 at *
        obtain ⟨b0, b1, b2, b3, b4⟩ := HBR5.out
        clear b0 b1 b3 b4
        have zP5 : po < W5.heap.size := HS5.out.out.lt
        have zR5 : R < W5.heap.size := HBR5.out.lt
        have p3' : W5.cell? ⟨po, 3, none⟩ = some (.int .i64 s.sea) := HS5.out.out.cell (i := 3) (by omega)
        have p3f' : W5.frozen? ⟨po, 3, none⟩ = false := HS5.out.out.frozen 3
        have hsa := HBD.out.2
        obtain ⟨sa0, sa1⟩ := hsa
        by_cases hd : (rs i).dn = -1
        · have HD1 := Lib.hid hd
          rw [hd] at b2
          clear hd
          go_wp2_with fail
          go_roundw
          case rel =>
            refine ⟨i + 1, Rv.thenSt rs i s, .slice (some ⟨g3, 0, none⟩) (i + 1) cap3, .slice (some ⟨g5, 0, none⟩) (i + 1) cap5, by omega, by go_num, HN, (HS5.out.setS _).congr ?_⟩
            unfold Rv.thenSt
            rw [if_pos HD1.out, if_pos HD1.out]
          case measure => simp [intOf]; omega
        · have hdd : (i : Int) < (rs i).dn ∧ (rs i).dn < (n : Int) := by
            rcases HD.out with k | k
            · exact absurd k hd
            · exact k
          obtain ⟨D, hD⟩ : ∃ D : Nat, (rs i).dn = (D : Int) := ⟨(rs i).dn.toNat, by omega⟩
          have HDD : Hid ((rs i).dn = (D : Int)) := hD
          rw [hD] at b2 hdd
          have hD1 : D < n := by omega
          have hD1z : (D : Int) < (n : Int) := by omega
          have hD3 : ((D : Int) == -1) = false := by simp
          obtain ⟨_, _, _, k0, k0f⟩ := HS5.out.cells hD1
          obtain ⟨k10, k11⟩ := HBD.out.1 D (by omega) hD1
          obtain ⟨fd0, fd1⟩ := HQ.out D hD1
          have k0' : W5.cell? ⟨gc, D, none⟩ = some (.int .i64 (s.cs D - f D)) := k0
          have k0f' : W5.frozen? ⟨gc, D, none⟩ = false := k0f
          have zC5 : gc < W5.heap.size := World.block_lt_of_cell? _ _ k0'
          clear hd hD hdd k0 k0f
          go_wp2_with fail
          go_region
          go_wp2_with fail
          go_roundw
          case rel =>
            refine ⟨i + 1, Rv.thenSt rs i s, .slice (some ⟨g3, 0, none⟩) (i + 1) cap3, .slice (some ⟨g5, 0, none⟩) (i + 1) cap5, by omega, by go_num, HN, ?_⟩
            have ht : (rs i).dn.toNat = D := by rw [HDD.out]; simp
            have hne : ¬ (rs i).dn = -1 := by rw [HDD.out]; omega
            refine (((HS5.out.setC D _ (s.cs D + Rv.flows (rs i) (s.cs i)) (by omega)).congr ?_).below (Below.refl _ _).drew)
            unfold Rv.thenSt
            rw [if_neg hne, if_neg hne, ht]
          case measure => simp [intOf]; omega
    · obtain rfl : i = n := by omega
      obtain ⟨⟨q0, q1, q2, q3, q4⟩, ⟨f0, f1, f2, f3, f4⟩⟩ := hS.out.slot.kept
      have hzs := hS.out.slot.lt
      have hzp : po < wr.heap.size := hS.out.out.lt
      obtain ⟨gf, cf, rfl, HF1, hgf⟩ := own_vs hS.out.fl hn1
      obtain ⟨gt, ct, rfl, HT1, hgt⟩ := own_vs hS.out.tk hn1
      have HSP := Lib.hid (And.intro hS.out.lst (And.intro HF1 HT1))
      have p0 : wr.cell? ⟨po, 0, none⟩ = some (.slice (some ⟨gl, 0, none⟩) i c) := hS.out.out.cell (i := 0) (by omega)
      have p1 : wr.cell? ⟨po, 1, none⟩ = some (.slice (some ⟨gf, 0, none⟩) i cf) := hS.out.out.cell (i := 1) (by omega)
      have p2 : wr.cell? ⟨po, 2, none⟩ = some (.slice (some ⟨gt, 0, none⟩) i ct) := hS.out.out.cell (i := 2) (by omega)
      have p3 : wr.cell? ⟨po, 3, none⟩ = some (.int .i64 s.sea) := hS.out.out.cell (i := 3) (by omega)
      have p4 : wr.cell? ⟨po, 4, none⟩ = some (.int .i64 0) := hS.out.out.cell (i := 4) (by omega)
      have hF := Lib.hid (hS.out.slot.fin (.slice (some ⟨gl, 0, none⟩) i c) (.slice (some ⟨gf, 0, none⟩) i cf) (.slice (some ⟨gt, 0, none⟩) i ct) (.int .i64 s.sea) (.int .i64 0))
      have hgl2 := hS.out.far.2.1
      clear HF1 HT1
      go_wp2_with fail
      exact bodyPost_ret (v := vRo i gl gf gt c cf ct s.sea 0) (by
        obtain ⟨⟨x0, x1, x2, x3, x4⟩, _⟩ := hF.out
        simp only [results, Tryd.results13]
        simp [go_sem, x0, x1, x2, x3, x4]) rfl ⟨Or.inr ⟨s, gl, gf, gt, c, cf, ct, Rv.step_ok ⟨HR.out, rfl, HQ.out⟩ hrun.out, rfl, HSP.out.1.block (putRo_block _ _ _ _ _ _ _ gl (by omega)), HSP.out.2.1.block (putRo_block _ _ _ _ _ _ _ gf (by omega)), HSP.out.2.2.block (putRo_block _ _ _ _ _ _ _ gt (by omega))⟩, hF.out.2⟩

/-- The model's RiverStep, whatever is handed in. -/
theorem specStep_any (a b : Option Addr) (n cn m cm : Nat) (rs : Nat → Rv.Rc) (f : Nat → Int) (w : World) (h : RcsAt a n rs w) (h2 : IntsAt b m f w) :
    Calls Tryd.prog 13 #[.slice a n cn, .slice b m cm] w fun e w' => SpEnd n rs (Rv.stepF n m rs f) e w' ∧ Below w.heap.size w w' := by
  by_cases ho : 400 < n ∨ 400 < m
  · refine (specStep_over a b n cn m cm w ho).mono ?_
    rintro e w' ⟨rfl, hb⟩
    exact ⟨Or.inl ⟨2, Rv.stepF_over ho, by decide, rfl⟩, hb⟩
  · by_cases hr : Rv.Right n rs ∧ m = n ∧ Rv.RainOk n f
    · obtain ⟨hr, rfl, hq⟩ := hr
      obtain ⟨lb, rfl, hl⟩ : ∃ lb, a = some ⟨lb, 0, none⟩ ∧ ∀ i, i < m → RcCells lb (i * 5) (rs i) w := by
        rcases h with h | h
        · have := hr.1.1; omega
        · exact h
      obtain ⟨rb, rfl, hq2⟩ : ∃ rb, b = some ⟨rb, 0, none⟩ ∧ ∀ i, i < m → w.cell? ⟨rb, i, none⟩ = some (.int .i64 (f i)) := by
        rcases h2 with h | h
        · have := hr.1.1; omega
        · exact h
      rw [Rv.stepF_in ho]
      exact specStep_go lb rb m cn cm rs f w hl hq2 hr hq
    · refine (specStep_no a b n cn m cm rs f w h h2 ho hr).mono ?_
      rintro e w' ⟨rfl, hb⟩
      refine ⟨Or.inl ⟨1, ?_, by decide, rfl⟩, hb⟩
      rw [Rv.stepF_in ho]
      by_cases h1 : Rv.Right n rs
      · exact Rv.step_no2 (fun k => hr ⟨h1, k⟩)
      · exact Rv.step_no1 h1
end Go.Proofs.YtdpghhmcibiplaaDoor
