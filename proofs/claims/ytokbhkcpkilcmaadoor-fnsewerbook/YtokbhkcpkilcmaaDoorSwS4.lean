/-
  The contract of the model's step, at a right river and a right rain.
-/
import Derived.Test.YtokbhkcpkilcmaaDoorSwS3
import Derived.Deep.Cut
namespace Go.Proofs.YtokbhkcpkilcmaaDoor
open Go.RowKit Go.Deep

theorem cell_new (W : World) (u : Value) (t : TypeId) : (W.alloc (.cells #[u] t)).cell? ⟨W.heap.size, 0, none⟩ = some u := by simp
set_option maxRecDepth 100000 in
set_option maxHeartbeats 8000000 in
theorem specStep_go (lb rb n cn cm : Nat) (rs : Nat → Sw.Rc) (f : Nat → Int) (w : World) (h : ∀ i, i < n → RcCells lb (i * 6) (rs i) w) (h2 : ∀ i, i < n → w.cell? ⟨rb, i, none⟩ = some (.int .i64 (f i))) (hr : Sw.Right n rs) (hq : Sw.RainOk n f) :
    Calls Tryd.prog 8 #[.slice (some ⟨lb, 0, none⟩) n cn, .slice (some ⟨rb, 0, none⟩) n cm] w fun e w' => SpEnd w n rs (Sw.step n n rs f) e w' ∧ Below w.heap.size w w' := by
  have hn1 : 1 ≤ n := hr.1.1
  have hn2 : n ≤ 40 := hr.1.2
  have hz : ¬ (400 : Int) < (n : Int) := by omega
  have H := Lib.hid h
  have H2 := Lib.hid h2
  have HR := Lib.hid hr
  have HQ := Lib.hid hq
  have hlb : lb < w.heap.size := (h 0 (by omega)).lt
  have hrb : rb < w.heap.size := World.block_lt_of_cell? _ _ (h2 0 (by omega))
  clear h h2 hr hq
  have hmk := run_make_row' (P := Tryd.prog) 23 2 (.int .i64 0) 8 Tryd.underlying23 info_i64 rfl .i64 .i64 n (by omega) (by omega)
  obtain ⟨i0, hi0, hz0, hz1, hz2⟩ := info_parts info_rc
  obtain ⟨i1, hi1, hy0, hy1, hy2⟩ := info_parts info_i64
  go_enter Tryd.func8, Tryd.ntmps8
  go_wp2_with fail
  refine (specRight_any _ n cn rs _ (RcsAt.below (RcsAt.of H.out) ((Below.refl _ _).alloc (Nat.le_refl _) _))).mono ?_
  rintro e w1 ⟨⟨b1, rfl, hb1⟩, hb⟩
  obtain rfl : b1 = true := hb1.2 HR.out
  have hs1 : RoSlot w w1 := (RoSlot.start w).next hb
  have HS1 := Lib.hid hs1
  clear hb hb1
  go_wp2_with fail
  refine (all_ok _ n cm f _ (IsAt.below (Or.inr ⟨rb, rfl, H2.out⟩) hs1.old) (by omega)).mono ?_
  rintro e w2 ⟨⟨b2, rfl, hb2⟩, rfl⟩
  obtain rfl : b2 = true := hb2.2 HQ.out
  have hzw := hs1.lt
  clear hs1 hb2
  go_wp2_with (at_builtin; refine wpList_append_lies _ rfl _ _ 25 rfl w2.heap.size 55 i0 (.agg #[.int .i64 0, .int .i64 0, .int .i64 0, .int .i64 0, .int .i64 0, .int .i64 0]) 6 48 Tryd.underlying25 hi0 hz0 hz1 hz2 rfl (by decide) _ _ _ rfl (World.ownsRow_made w2 #[] 0 (Nat.le_refl _) (Nat.zero_le _) rfl) ⟨lb, 0, none⟩ n cn (inVs (scF rs) (n * 6)) rfl ?qc1 ?qc2 ?qc3 ?qc4 ?qc5 ?qc6 ?qc7 (w2.heap.size + 1) ?qc8 ?_)
  case qc1 => rw [inVs_len]
  case qc2 =>
    intro j u hj
    have hjn : j < n * 6 := by
      have := (List.getElem?_eq_some_iff.1 hj).1
      rw [inVs_len] at this
      exact this
    rw [Addr.add_lit]
    refine Lib.cell?_alloc_some _ ?_
    rw [Nat.zero_add, rccells_to (fun i hi => (H.out i hi).block (HS1.out.old.block _ hlb)) j hjn]
    rw [inVs_get _ hjn] at hj
    rw [← hj]
  case qc3 =>
    intro u hu
    obtain ⟨x, _, rfl⟩ := List.mem_map.1 hu
    rfl
  case qc4 => omega
  case qc5 => unfold maxLen; omega
  case qc6 => omega
  case qc7 => simp
  case qc8 => simp
  intro gl c w3 hown hgrow hat hlt3
  have hb3 : Below w2.heap.size w2 w3 := ((Below.refl _ w2).alloc (Nat.le_refl _) _).grown hgrow (by simp) (by intro k hk; simp [Value.ownBlock] at hk; omega)
  have HS3 : Hid (RoSlot w w3) := HS1.out.next hb3
  have hgl : w.heap.size < gl := by
    rcases hat with e | e
    · simp [Value.ownBlock] at e; omega
    · omega
  have HL3 : Hid (RcBlk gl n rs w3) := by
    have hown' : w3.ownsRow w2.heap.size 55 6 (.slice (some ⟨gl, 0, none⟩) n c) n (inVs (scF rs) (n * 6)) := by simpa using hown
    rcases own_flat hown' with ⟨e, _⟩ | ⟨g, c2, e, _, hblk⟩
    · cases e
    · cases e
      exact hblk
  have HST := Lib.hid (spl_start (f := f) (c := c) HS3.out HL3.out hgl)
  have hz3 := HS3.out.lt
  clear hown hgrow hat hlt3 hb3 HL3 HS1 hz0 hz1 hz2 hi0
  go_wp2_with fail
  clear hmk
  go_loopw [7] (fun iv wr => ∃ (i : Nat) (vf vt : Value), i ≤ n ∧ iv = .int .i64 i ∧ Hid (SpL w n rs f gl c w3.heap.size (w3.heap.size + 1) vf vt i i (Sw.run rs f i) wr)) (fun iv _ => n - (intOf iv).toNat)
  case atStart => exact ⟨0, .slice none 0 0, .slice none 0 0, Nat.zero_le _, rfl, HST⟩
  case round =>
    obtain ⟨i, vf, vt, hi, rfl, hS⟩ := hrel
    clear HST HS3 hzw
    generalize w3.heap.size = po at *
    generalize po + 1 = gc at *

    by_cases hlt : i < n
    · have hltz : (i : Int) < (n : Int) := by omega
      have hI := Lib.hid (Sw.run_inv HR.out HQ.out hi)
      have HN : Hid (Sw.run rs f (i + 1) = Sw.thenSt rs i (Sw.run rs f i)) := rfl
      generalize Sw.run rs f i = s at *
      have hbd := hI.out.bounds HR.out HQ.out hi
      have HBD := Lib.hid hbd
      obtain ⟨x0, x1⟩ := hbd.1 i (Nat.le_refl _) hlt
      have HA := Lib.hid (HR.out.2 i hlt).1
      have HD := Lib.hid (HR.out.2 i hlt).2
      have HSH := Lib.hid (Sw.share_facts HA.out x0)
      obtain ⟨_, ⟨rm0, rm1⟩, _, _, ⟨s0, s1⟩⟩ := HA.out
      obtain ⟨fq0, fq1⟩ := HQ.out i hlt
      clear hbd
      obtain ⟨c0, c1, c2, c3, c4, c5⟩ := (H.out i hlt).block (hS.out.slot.old.block _ hlb)
      obtain ⟨_, _, _, k0, _⟩ := hS.out.cells hlt
      have r0 : wr.cell? ⟨rb, i, none⟩ = some (.int .i64 (f i)) := (hS.out.slot.old.cell (p := ⟨rb, i, none⟩) hrb).trans (H2.out i hlt)
      have zc : gc < wr.heap.size := hS.out.com.lt
      have zr : rb < wr.heap.size := World.block_lt_of_cell? _ _ r0
      have hwe : (rs i).st + f i + (s.cs i - f i) = (rs i).st + s.cs i := by omega
      have hfl0 : 0 ≤ Sw.flows (rs i) (s.cs i) := HSH.out.1.1
      have hfl1 : Sw.flows (rs i) (s.cs i) ≤ 1000000 := HSH.out.1.2
      have htk0 : 0 ≤ Sw.taken (rs i) (s.cs i) := HSH.out.2.1.1
      have htk1 : Sw.taken (rs i) (s.cs i) ≤ 90000000 := by have := HSH.out.2.1.2; omega
      have HE1 : Hid (Sw.goes (rs i) ((rs i).st + s.cs i) = Sw.flows (rs i) (s.cs i)) := rfl
      have he2 : (rs i).st + s.cs i - Sw.flows (rs i) (s.cs i) = Sw.left (rs i) (s.cs i) := rfl
      have hlf0 : 0 ≤ Sw.left (rs i) (s.cs i) := by unfold Sw.left; have := HSH.out.2.2.2; have := HSH.out.2.2.1.1; omega
      have hlf1 : Sw.left (rs i) (s.cs i) ≤ 90000000 := by unfold Sw.left; omega
      have HE3 : Hid (max (Sw.left (rs i) (s.cs i) - (rs i).rm) 0 = Sw.taken (rs i) (s.cs i)) := by
        show _ = _
        unfold Sw.taken Sw.stays
        omega
      have he4 : Sw.left (rs i) (s.cs i) - Sw.taken (rs i) (s.cs i) = Sw.stays (rs i) (s.cs i) := by
        unfold Sw.taken; omega
      have HS1 : Hid (SpL w n rs f gl c po gc vf vt i i s (wr.alloc (rcO (rs i))).drew) := (hS.out.below ((Below.refl _ _).alloc (Nat.le_refl _) _)).below (Below.refl _ _).drew
      have HBR : Hid (RcCells wr.heap.size 0 (rs i) (wr.alloc (rcO (rs i))).drew) := ⟨by show (wr.alloc (rcO (rs i))).cell? _ = _; simp, by show (wr.alloc (rcO (rs i))).cell? _ = _; simp, by show (wr.alloc (rcO (rs i))).cell? _ = _; simp, by show (wr.alloc (rcO (rs i))).cell? _ = _; simp, by show (wr.alloc (rcO (rs i))).cell? _ = _; simp, by show (wr.alloc (rcO (rs i))).cell? _ = _; simp⟩
      have HNR : Hid (po ≠ wr.heap.size ∧ gl ≠ wr.heap.size ∧ gc ≠ wr.heap.size ∧ w.heap.size ≠ wr.heap.size ∧ vf.ownBlock ≠ some wr.heap.size ∧ vt.ownBlock ≠ some wr.heap.size) := by
        have l1 := hS.out.out.lt
        have l2 := hS.out.lst.lt
        have l3 := hS.out.com.lt
        have l4 := hS.out.slot.lt
        exact ⟨by omega, by omega, by omega, by omega, fun e => by have := (hS.out.fl.lt _ e).2; omega, fun e => by have := (hS.out.tk.lt _ e).2; omega⟩
      go_wp2_with fail
      go_region
      clear hS c0 c1 c2 c3 c4 c5 k0 r0 zc zr hwe
      generalize (wr.alloc (rcO (rs i))).drew = W1 at *
      generalize wr.heap.size = R at *
      obtain ⟨b0, b1, b2, b3, b4, b5⟩ := HBR.out
      have zR : R < W1.heap.size := HBR.out.lt
      go_wp2_with fail
      refine (sgoes_any (rs i) ((rs i).st + s.cs i) _ HA.out (by omega) (by omega)).mono ?_
      rintro e w9 ⟨rfl, hb⟩
      replace HS1 := Lib.hid (HS1.out.below hb)
      replace HBR := Lib.hid (HBR.out.block (hb.block _ HBR.out.lt))
      clear hb b0 b1 b2 b3 b4 b5 zR
      rw [HE1.out]
      clear W1

      obtain ⟨W1, hW1⟩ : ∃ W1, W1 = w9 := ⟨_, rfl⟩
      rw [← hW1] at HS1 HBR ⊢
      clear hW1 w9
      obtain ⟨b0, b1, b2, b3, b4, b5⟩ := HBR.out
      have zR : R < W1.heap.size := HBR.out.lt
      go_wp2_with fail
      refine (specMax 0 (Sw.left (rs i) (s.cs i) - (rs i).rm) _).mono ?_
      rintro e w9 ⟨rfl, hw9⟩
      subst w9
      rw [HE3.out]
      clear b0 b1 b2 b3 b4 b5 zR
      obtain ⟨n1, n2, n3, n4, n5, n6⟩ := HNR.out
      · have HS2 := Lib.hid (HS1.out.setL i (Sw.stays (rs i) (s.cs i)))
        obtain ⟨⟨p0, p1, p2, p3⟩, ⟨p1f, p2f, p3f⟩, ⟨⟨lx, l0⟩, l0f⟩, k0, k0f⟩ := HS1.out.cells hlt
        obtain ⟨d1, d2, d3, d4, d5, d6⟩ := HS1.out.far
        have zP : po < W1.heap.size := HS1.out.out.lt
        have zw1 : w.heap.size < W1.heap.size := HS1.out.slot.lt
        have zL : gl < W1.heap.size := HS1.out.lst.lt
        obtain ⟨af, cf, rfl⟩ := own_shape HS1.out.fl
        obtain ⟨at_, ct, rfl⟩ := own_shape HS1.out.tk
        clear HS1
        clear k0 k0f p3 p3f
        go_wp2_with (at_builtin; refine wpList_append_lies _ rfl _ _ 23 rfl (w.heap.size + 1) 2 i1 (.int .i64 0) 1 8 Tryd.underlying23 hi1 hy0 hy1 hy2 rfl (by decide) _ _ _ rfl (HS2.out.fl.alloc _) ⟨W1.heap.size, 0, none⟩ 1 1 [.int .i64 (Sw.flows (rs i) (s.cs i))] rfl rfl ?a1 ?a2 ?a3 ?a4 ?a5 ?a6 (W1.heap.size + 1) ?a7 ?_)
        case a1 =>
          intro j u hj
          match j, hj with
          | 0, hj => simp at hj; subst hj; exact (congrArg (fun k => World.cell? _ ⟨k, 0, none⟩) (show W1.heap.size = (W1.setCell ⟨gl, i * 6 + 1, none⟩ (.int .i64 (Sw.stays (rs i) (s.cs i)))).heap.size from by simp)).trans (cell_new _ _ _)
        try (case a2 => first | rfl | (intro u hu; simp at hu; subst hu; rfl))
        try (case a3 => omega)
        try (case a4 => (unfold maxLen; omega))
        try (case a5 => omega)
        try (case a6 => first | omega | (simp; omega))
        try (case a7 => simp)
        intro g3 cap3 W3 hown hgrow hat hlt3
        have HS3 : Hid (SpL w n rs f gl c po gc (.slice (some ⟨g3, 0, none⟩) (i + 1) cap3) (.slice at_ i ct) (i + 1) i ⟨s.cs, Sw.upd s.st i (Sw.stays (rs i) (s.cs i)), s.tk, Sw.upd s.fl i (Sw.flows (rs i) (s.cs i)), s.sea⟩ (W3.setCell ⟨po, 1, none⟩ (.slice (some ⟨g3, 0, none⟩) (i + 1) cap3))) := HS2.out.pushF hgrow hown (by simpa using hat)
        have far3 : ∀ k, k < W1.heap.size → k ≠ gl → (Value.slice af i cf).ownBlock ≠ some k → W3.heap[k]? = W1.heap[k]? := fun k h1 h2 h3 => by
          rw [hgrow.block k (by simp; omega) (fun e => h3 e.symm), blk_alloc_lt _ _ _ (by simp; omega)]
          exact blk_setCell_other _ _ _ _ (by show k ≠ gl; exact h2)
        have e3p := far3 po zP d4 (fun e => (HS2.out.ff po e).1 rfl)
        have p1' : W3.cell? ⟨po, 1, none⟩ = some (.slice af i cf) := (World.cell?_of_block (a := ⟨po, 1, none⟩) e3p).trans p1
        have p1f' : W3.frozen? ⟨po, 1, none⟩ = false := (World.frozen?_of_block (a := ⟨po, 1, none⟩) e3p).trans p1f
        have p2' : W3.cell? ⟨po, 2, none⟩ = some (.slice at_ i ct) := (World.cell?_of_block (a := ⟨po, 2, none⟩) e3p).trans p2
        have HBR3 : Hid (RcCells R 0 (rs i) (W3.setCell ⟨po, 1, none⟩ (.slice (some ⟨g3, 0, none⟩) (i + 1) cap3))) := (HBR.out.block (far3 R HBR.out.lt n2.symm n5)).block (blk_setCell_other _ _ _ _ (by show R ≠ po; exact n1.symm))
        have zP3 : po < W3.heap.size := World.block_lt_of_cell? _ _ p1'
        clear hown hgrow hat hlt3 far3 e3p HS2 HBR p0 p1 p2 p1f p2f l0 l0f zP zL p2'
        go_upto_region 17 with fail
        clear p1' p1f' zP3
        generalize (W3.setCell ⟨po, 1, none⟩ (.slice (some ⟨g3, 0, none⟩) (i + 1) cap3)) = W3 at *
        have p2' : W3.cell? ⟨po, 2, none⟩ = some (.slice at_ i ct) := HS3.out.out.cell (i := 2) (by omega)
        have zP3 : po < W3.heap.size := HS3.out.out.lt
        have zw3 : w.heap.size < W3.heap.size := HS3.out.slot.lt
        have zR3 : R < W3.heap.size := HBR3.out.lt
        have HO3 : Hid ((W3.alloc (.cells #[.int .i64 (Sw.taken (rs i) (s.cs i))] 2)).ownsRow (w.heap.size + 1) 2 1 (.slice at_ i ct) i (inVs s.tk i)) := HS3.out.tk.alloc _
        go_wp2_with (at_builtin; refine wpList_append_lies _ rfl _ _ 23 rfl (w.heap.size + 1) 2 i1 (.int .i64 0) 1 8 Tryd.underlying23 hi1 hy0 hy1 hy2 rfl (by decide) (.slice at_ i ct) i (inVs s.tk i) rfl HO3.out ⟨W3.heap.size, 0, none⟩ 1 1 [.int .i64 (Sw.taken (rs i) (s.cs i))] rfl rfl ?b1 ?b2 ?b3 ?b4 ?b5 ?b6 (W3.heap.size + 1) ?b7 ?_)
        try (case b1 => (intro j u hj; match j, hj with
          | 0, hj => (simp at hj; subst hj; simp [Addr.add])))
        try (case b2 => first | rfl | (intro u hu; simp at hu; subst hu; rfl))
        try (case b3 => omega)
        try (case b4 => (unfold maxLen; omega))
        try (case b5 => omega)
        try (case b6 => first | omega | (simp; omega))
        try (case b7 => simp)
        intro g5 cap5 W5 hown hgrow hat hlt5
        have HS5 : Hid (SpL w n rs f gl c po gc (.slice (some ⟨g3, 0, none⟩) (i + 1) cap3) (.slice (some ⟨g5, 0, none⟩) (i + 1) cap5) (i + 1) (i + 1) ⟨s.cs, Sw.upd s.st i (Sw.stays (rs i) (s.cs i)), Sw.upd s.tk i (Sw.taken (rs i) (s.cs i)), Sw.upd s.fl i (Sw.flows (rs i) (s.cs i)), s.sea⟩ (W5.setCell ⟨po, 2, none⟩ (.slice (some ⟨g5, 0, none⟩) (i + 1) cap5))) := HS3.out.pushT hgrow hown (by simpa using hat)
        have far5 : ∀ k, k < W3.heap.size → (Value.slice at_ i ct).ownBlock ≠ some k → W5.heap[k]? = W3.heap[k]? := fun k h1 h3 => by
          rw [hgrow.block k (by simp; omega) (fun e => h3 e.symm), blk_alloc_lt _ _ _ h1]
        have e5p := far5 po zP3 (fun e => (HS3.out.tt po e).1 rfl)
        have p2'' : W5.cell? ⟨po, 2, none⟩ = some (.slice at_ i ct) := (World.cell?_of_block (a := ⟨po, 2, none⟩) e5p).trans p2'
        have p2f'' : W5.frozen? ⟨po, 2, none⟩ = false := (World.frozen?_of_block (a := ⟨po, 2, none⟩) e5p).trans (HS3.out.out.frozen 2)
        have zP5 : po < W5.heap.size := World.block_lt_of_cell? _ _ p2''
        have HBR5 : Hid (RcCells R 0 (rs i) (W5.setCell ⟨po, 2, none⟩ (.slice (some ⟨g5, 0, none⟩) (i + 1) cap5))) := (HBR3.out.block (far5 R zR3 n6)).block (blk_setCell_other _ _ _ _ (by show R ≠ po; exact n1.symm))
        clear hown hgrow hat hlt5 far5 e5p HS3 HBR3 p2' zP3 zR3 zw3
        go_upto_region 18 with fail
        clear p2'' p2f'' zP5
        generalize (W5.setCell ⟨po, 2, none⟩ (.slice (some ⟨g5, 0, none⟩) (i + 1) cap5)) = W5 at *
        obtain ⟨b0, b1, b2, b3, b4, b5⟩ := HBR5.out
        clear b0 b1 b2 b3 b4
        have zP5 : po < W5.heap.size := HS5.out.out.lt
        have zR5 : R < W5.heap.size := HBR5.out.lt
        have p3' : W5.cell? ⟨po, 3, none⟩ = some (.int .i64 s.sea) := HS5.out.out.cell (i := 3) (by omega)
        have p3f' : W5.frozen? ⟨po, 3, none⟩ = false := HS5.out.out.frozen 3
        have hsa := HBD.out.2.1
        obtain ⟨sa0, sa1⟩ := hsa
        by_cases hd : (rs i).dn = -1
        · have HD1 := Lib.hid hd
          rw [hd] at b5
          clear hd
          go_wp2_with fail
          go_roundw
          case rel =>
            refine ⟨i + 1, .slice (some ⟨g3, 0, none⟩) (i + 1) cap3, .slice (some ⟨g5, 0, none⟩) (i + 1) cap5, by omega, by go_num, (HS5.out.setS _).congr ?_⟩
            rw [HN.out]
            unfold Sw.thenSt
            rw [if_pos HD1.out, if_pos HD1.out]
          case measure => simp [intOf]; omega
        · have hdd : (i : Int) < (rs i).dn ∧ (rs i).dn < (n : Int) := by
            rcases HD.out with k | k
            · exact absurd k hd
            · exact k
          obtain ⟨D, hD⟩ : ∃ D : Nat, (rs i).dn = (D : Int) := ⟨(rs i).dn.toNat, by omega⟩
          have HDD : Hid ((rs i).dn = (D : Int)) := hD
          rw [hD] at b5 hdd
          have hD1 : D < n := by omega
          have hD1z : (D : Int) < (n : Int) := by omega
          have hD3 : ((D : Int) == -1) = false := by simp
          obtain ⟨_, _, _, k0, k0f⟩ := HS5.out.cells hD1
          obtain ⟨k10, k11⟩ := HBD.out.1 D (by omega) hD1
          obtain ⟨fd0, fd1⟩ := HQ.out D hD1
          have k0' : W5.cell? ⟨gc, D, none⟩ = some (.int .i64 (s.cs D - f D)) := k0
          have k0f' : W5.frozen? ⟨gc, D, none⟩ = false := k0f
          have zC5 : gc < W5.heap.size := World.block_lt_of_cell? _ _ k0'
          clear hd hD hdd k0 k0f
          go_wp2_with fail
          go_region
          go_wp2_with fail
          go_roundw
          case rel =>
            refine ⟨i + 1, .slice (some ⟨g3, 0, none⟩) (i + 1) cap3, .slice (some ⟨g5, 0, none⟩) (i + 1) cap5, by omega, by go_num, ?_⟩
            have ht : (rs i).dn.toNat = D := by rw [HDD.out]; simp
            have hne : ¬ (rs i).dn = -1 := by rw [HDD.out]; omega
            refine (((HS5.out.setC D _ (s.cs D + Sw.flows (rs i) (s.cs i)) (by omega)).congr ?_).below (Below.refl _ _).drew)
            rw [HN.out]
            unfold Sw.thenSt
            rw [if_neg hne, if_neg hne, ht]
          case measure => simp [intOf]; omega
    · obtain rfl : i = n := by omega
      obtain ⟨⟨q0, q1, q2, q3, q4⟩, ⟨f0, f1, f2, f3, f4⟩⟩ := hS.out.slot.kept
      have hzs := hS.out.slot.lt
      have hzp : po < wr.heap.size := hS.out.out.lt
      obtain ⟨gf, cf, rfl, HF1, hgf⟩ := own_vs hS.out.fl hn1
      obtain ⟨gt, ct, rfl, HT1, hgt⟩ := own_vs hS.out.tk hn1
      have hfg : gl ≠ gf ∧ gl ≠ gt ∧ gf ≠ gt := by
        obtain ⟨_, h1, _, h2⟩ := hS.out.ff gf rfl
        obtain ⟨_, h3, _⟩ := hS.out.tt gt rfl
        exact ⟨fun e => h1 e.symm, fun e => h3 e.symm, fun e => h2 (by rw [e]; rfl)⟩
      have HSP : Hid (OutL (w.heap.size + 1) i gl gf gt (Sw.after rs (Sw.run rs f i)) (Sw.run rs f i).fl (Sw.run rs f i).tk wr) := ⟨⟨by have := hS.out.far.2.1; omega, hgf, hgt⟩, hfg, hS.out.lst, HF1, HT1⟩
      have HOK := Lib.hid (Sw.step_ok (m := i) (rs := rs) (rain := f) ⟨HR.out, rfl, HQ.out⟩)
      generalize Sw.run rs f i = s at *
      have p0 : wr.cell? ⟨po, 0, none⟩ = some (.slice (some ⟨gl, 0, none⟩) i c) := hS.out.out.cell (i := 0) (by omega)
      have p1 : wr.cell? ⟨po, 1, none⟩ = some (.slice (some ⟨gf, 0, none⟩) i cf) := hS.out.out.cell (i := 1) (by omega)
      have p2 : wr.cell? ⟨po, 2, none⟩ = some (.slice (some ⟨gt, 0, none⟩) i ct) := hS.out.out.cell (i := 2) (by omega)
      have p3 : wr.cell? ⟨po, 3, none⟩ = some (.int .i64 s.sea) := hS.out.out.cell (i := 3) (by omega)
      have p4 : wr.cell? ⟨po, 4, none⟩ = some (.int .i64 0) := hS.out.out.cell (i := 4) (by omega)
      have hF := Lib.hid (hS.out.slot.fin (.slice (some ⟨gl, 0, none⟩) i c) (.slice (some ⟨gf, 0, none⟩) i cf) (.slice (some ⟨gt, 0, none⟩) i ct) (.int .i64 s.sea) (.int .i64 0))
      have hgl2 := hS.out.far.2.1
      clear HF1 HT1
      go_wp2_with fail
      exact bodyPost_ret (v := vRo i gl gf gt c cf ct s.sea 0) (by
        obtain ⟨⟨x0, x1, x2, x3, x4⟩, _⟩ := hF.out
        simp only [results, Tryd.results8]
        simp [go_sem, x0, x1, x2, x3, x4]) rfl ⟨Or.inr ⟨s, gl, gf, gt, c, cf, ct, HOK.out, rfl, (HSP.out.put _ _ _ _ _).lower (by omega)⟩, hF.out.2⟩

/-- The model's SewerStep, whatever is handed in. -/
theorem specStep_any (a b : Option Addr) (n cn m cm : Nat) (rs : Nat → Sw.Rc) (f : Nat → Int) (w : World) (h : RcsAt a n rs w) (h2 : IntsAt b m f w) :
    Calls Tryd.prog 8 #[.slice a n cn, .slice b m cm] w fun e w' => SpEnd w n rs (Sw.stepF n m rs f) e w' ∧ Below w.heap.size w w' := by
  by_cases ho : 400 < n ∨ 400 < m
  · refine (specStep_over a b n cn m cm w ho).mono ?_
    rintro e w' ⟨rfl, hb⟩
    exact ⟨Or.inl ⟨2, Sw.stepF_over ho, by decide, rfl⟩, hb⟩
  · by_cases hr : Sw.Right n rs ∧ m = n ∧ Sw.RainOk n f
    · obtain ⟨hr, rfl, hq⟩ := hr
      obtain ⟨lb, rfl, hl⟩ : ∃ lb, a = some ⟨lb, 0, none⟩ ∧ ∀ i, i < m → RcCells lb (i * 6) (rs i) w := by
        exact h.all (by have := hr.1.1; omega)
      obtain ⟨rb, rfl, hq2⟩ : ∃ rb, b = some ⟨rb, 0, none⟩ ∧ ∀ i, i < m → w.cell? ⟨rb, i, none⟩ = some (.int .i64 (f i)) := by
        rcases h2 with h | h
        · have := hr.1.1; omega
        · exact h
      rw [Sw.stepF_in ho]
      exact specStep_go lb rb m cn cm rs f w hl hq2 hr hq
    · refine (specStep_no a b n cn m cm rs f w h h2 ho hr).mono ?_
      rintro e w' ⟨rfl, hb⟩
      refine ⟨Or.inl ⟨1, ?_, by decide, rfl⟩, hb⟩
      rw [Sw.stepF_in ho]
      by_cases h1 : Sw.Right n rs
      · exact Sw.step_no2 (fun k => hr ⟨h1, k⟩)
      · exact Sw.step_no1 h1
end Go.Proofs.YtokbhkcpkilcmaaDoor
