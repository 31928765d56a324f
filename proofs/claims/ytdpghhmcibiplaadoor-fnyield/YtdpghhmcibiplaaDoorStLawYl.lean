/-
  The law FnYield.
-/
import Derived.Test.YtdpghhmcibiplaaDoorStLwY
namespace Go.Proofs.YtdpghhmcibiplaaDoor
open Go.RowKit Go.Deep

theorem two {i : Nat} (h : i < 2) : i = 0 ∨ i = 1 := by omega
theorem prs_len (c : Nat → St.Pr) : ∀ n, (((List.range n).map c).flatMap prCells).length = n * 2 := by
  intro n
  induction n with
  | zero => rfl
  | succ n ih => rw [List.range_succ, List.map_append, List.flatMap_append, List.length_append, ih]; simp [prCells]; omega
theorem prs_at {g n : Nat} {c : Nat → St.Pr} {w : World} (h : PrsAt (some ⟨g, 0, none⟩) n c w) : ∀ j u, (((List.range n).map c).flatMap prCells)[j]? = some u → w.cell? ((⟨g, 0, none⟩ : Addr).add j) = some u := by
  rcases h with rfl | ⟨b, e, h⟩
  · intro j u hj; simp at hj
  · injection e with e
    injection e with e _ _
    subst e
    induction n with
    | zero => intro j u hj; simp at hj
    | succ n ih =>
      intro j u hj
      rw [List.range_succ, List.map_append, List.flatMap_append] at hj
      rw [Addr.add_lit, Nat.zero_add]
      by_cases hlt : j < n * 2
      · rw [List.getElem?_append_left (by rw [prs_len]; exact hlt)] at hj
        have := ih (fun i hi => h i (by omega)) j u hj
        rwa [Addr.add_lit, Nat.zero_add] at this
      · rw [List.getElem?_append_right (by rw [prs_len]; omega), prs_len] at hj
        obtain ⟨h1, h2⟩ := h n (by omega)
        have hj2 : j - n * 2 = 0 ∨ j - n * 2 = 1 := by
          have := (List.getElem?_eq_some_iff.1 hj).1
          simp [prCells] at this; omega
        rcases hj2 with e | e
        · rw [e] at hj; simp [prCells] at hj; rw [← hj, show j = n * 2 by omega]; exact h1
        · rw [e] at hj; simp [prCells] at hj; rw [← hj, show j = n * 2 + 1 by omega]; exact h2
theorem prs_one (c : Nat → St.Pr) (n : Nat) : ∀ u ∈ ((List.range n).map c).flatMap prCells, u.oneCell' = true := by
  intro u hu
  simp [prCells] at hu
  obtain ⟨_, _, hu⟩ := hu
  rcases hu with rfl | rfl <;> rfl
theorem st_mk {gq gr n : Nat} {c : Nat → St.Pr} {w : World} (h : PrBlk 156 gq n (prList ((List.range n).map c)) w) (hr : w.rowIs gr 78 2 (d3 (.int .i64 0) (.int .i64 1000) (.int .i64 0))) : StAt (some ⟨gq, 0, none⟩) n c (some ⟨gr, 0, none⟩) 1 St.allR w := by
  refine ⟨Or.inr ⟨gq, rfl, fun i hi => ?_⟩, Or.inr ⟨gr, rfl, fun i hi => ?_⟩⟩
  · have e : prList ((List.range n).map c) i = c i := by simp [prList, hi]
    have h0 := h.cell (i := i) (k := 0) hi (by omega)
    have h1 := h.cell (i := i) (k := 1) hi (by omega)
    rw [e] at h0 h1
    exact ⟨h0, h1⟩
  · obtain rfl : i = 0 := by omega
    exact ⟨hr.cell (i := 0) (by omega), hr.cell (i := 1) (by omega)⟩
set_option maxRecDepth 100000 in
set_option maxHeartbeats 16000000 in
theorem yield_law (a : Option Addr) (len cap : Nat) (w : World) (h : Bytes a len w) (hl : len ≤ 1048576) (hg : Et w ∧ TabOk w) :
    Calls Tryd.prog 10 #[.slice a len cap] w fun e w' => e = .returned (.bool true) ∧ Below w.heap.size w w' := by
  have hlz : ¬ (1048576 : Int) < (len : Int) := by omega
  have H := Lib.hid h
  have HG := Lib.hid hg
  obtain ⟨i0, hi, hz0, hz1, hz2⟩ := info_parts dinfo_i64
  obtain ⟨j0, hj, hy0, hy1, hy2⟩ := info_parts dinfo_mark
  clear h hg
  go_enter Tryd.func10, Tryd.ntmps10
  go_wp2_with fail
  refine (drawYield_any a len cap _ H.out hl).mono ?_
  rintro e W1 hD
  obtain ⟨ca, cn, ck, ra, rn, rk, v, c, r, vi, n, f, rfl, ⟨hpc, hpr⟩, ⟨hfi, hn⟩, hb⟩ := hD
  obtain ⟨W2, hW2⟩ : ∃ W2, W2 = W1.alloc (.cells #[.slice ca cn ck, .slice ra rn rk, .int .i64 v] 66) := ⟨_, rfl⟩
  have hb2 : Below W1.heap.size W1 W2 := by rw [hW2]; exact ybel_alloc _ _
  have HN : Hid (n ≤ 16) := hn
  obtain ⟨bS, hbS⟩ : ∃ bS, bS = W1.heap.size := ⟨_, rfl⟩
  have BK : Hid (YkS w bS ca cn ck ra rn rk v c r vi n f W2) := ⟨by rw [hW2, hbS]; exact drow3 W1 _ _ _ _, ⟨hpc.below hb2, hpr.below hb2⟩, hfi.same (fun k _ hl => hb2.block k hl), hb.trans (hb2.mono hb.size), ⟨(HG.out.1.below hb).below hb2, tab_below (tab_below HG.out.2 hb) hb2⟩⟩
  obtain ⟨ia, ik, hvi, hI⟩ := BK.out.fi.ints
  subst hvi
  have HI := Lib.hid hI
  have HW2 := Lib.hid hW2
  have HBS := Lib.hid hbS
  clear hpc hpr hfi hb hb2 hn hI hW2 hbS
  go_wp2_with fail
  rw [← HW2.out]
  try rw [← HBS.out]
  clear HW2 HBS
  refine (sYield_any ca cn ck c ra rn rk r v ia n ik f _ BK.out.st HI.out (by have := HN.out; omega)).mono ?_
  rintro e W3 ⟨⟨y, rfl, hy⟩, hgr⟩
  have BK2 := Lib.hid (BK.out.below hgr.bel)
  clear BK HI hgr
  have BK := BK2
  clear BK2
  have hnn := HN.out
  have hn4 : ¬ (400 : Int) < (n : Int) := by omega
  by_cases hyn : y < 0
  · go_wp2_with fail
    go_ret
    exact ⟨rfl, BK.out.bel⟩
  obtain ⟨⟨b0, b1, b2⟩, _⟩ := d3_cells BK.out.row
  go_wp2_with fail
  clear b0 b1 b2
  refine (sRight_any ca cn ck c ra rn rk r v _ BK.out.st).mono ?_
  rintro e W4 ⟨⟨b, rfl, hbt⟩, hgr⟩
  have BK2 := Lib.hid (BK.out.below hgr.bel)
  clear BK hgr
  have BK := BK2
  clear BK2
  cases b
  · clear hbt
    go_wp2_with fail
    go_ret
    exact ⟨rfl, BK.out.bel⟩
  have HS := Lib.hid (hbt.1 rfl)
  have HY := Lib.hid (ylz_of hy.out (by omega) HS.out (by omega))
  clear hbt
  go_wp2_with fail
  refine wp_region_held_drew (S := fun V => Below W4.heap.size W4 V) (by kernel_rfl) (Below.refl _ _).drew (fun hHeld => ?_)
  obtain ⟨Z, hZ⟩ : ∃ Z, Z = W4.drew := ⟨_, rfl⟩
  rw [← hZ] at hHeld ⊢
  clear hZ
  refine take_do (i := 0) (v := (stV ca cn ck ra rn rk v)) rfl (by kernel_rfl) (by kernel_rfl) (by kernel_rfl) (fun _ _ _ h => h) (by rfl) ?_ (by assumption) ?_
  · intro w hSw
    obtain ⟨⟨a0, a1, a2⟩, _⟩ := d3_cells (yrow_below BK.out.row hSw)
    go_simp
  simp only [Act.put, List.setIfInBounds_toArray, List.set_cons_zero, List.set_cons_succ]
  refine take_do (i := 1) (v := (.slice ia n ik)) rfl (by kernel_rfl) (by kernel_rfl) (by kernel_rfl) (fun _ _ _ h => h) (by rfl) ?_ (by assumption) ?_
  · intro w hSw
    skip
    go_simp
  simp only [Act.put, List.setIfInBounds_toArray, List.set_cons_zero, List.set_cons_succ]
  refine take_call (i := 2) rfl (by kernel_rfl) (fun K2 hK => ?_)
  go_simp
  refine (lwCopyF_any (BK.out.below hHeld).fi (by have := HN.out; omega)).mono ?_
  rintro e Za ⟨⟨ax, kx, rfl, hi2⟩, hb⟩
  have CI := Lib.hid hi2
  clear hi2
  go_wp2_with fail
  refine hK.out _ _ (hHeld.trans (hb.mono hHeld.size)) (fun hHeld2 => ?_)
  clear hK hHeld
  have hHeld := hHeld2
  clear hHeld2
  clear hb
  refine take_call (i := 3) rfl (by kernel_rfl) (fun K2 hK => ?_)
  go_simp
  refine (implYield_any ca cn ck c ra rn rk r v ax n kx f _ (BK.out.below hHeld).st CI.out (by have := HN.out; omega)).mono ?_
  rintro e Zb ⟨⟨y2, rfl, hyy⟩, hgr⟩
  obtain rfl := YEnd.one hyy.out hy.out
  have hb := hgr.bel
  clear hgr hyy CI
  go_wp2_with fail
  refine hK.out _ _ (hHeld.trans (hb.mono hHeld.size)) (fun hHeld2 => ?_)
  clear hK hHeld
  have hHeld := hHeld2
  clear hHeld2
  clear hb
  refine take_call (i := 4) rfl (by kernel_rfl) (fun K2 hK => ?_)
  go_simp
  refine hK.out _ _ hHeld (fun _ => ?_)
  clear hK
  refine wpAnyH_done (by kernel_rfl) ?_ _
  have BK2 := Lib.hid (BK.out.below hHeld)
  clear BK hHeld hy
  have BK := BK2
  clear BK2
  have HC2 : Hid (2 ≤ cn) := HS.out.1.1.1
  have HCN : Hid (cn ≤ 30) := HS.out.1.1.2
  obtain ⟨gc, hgc, hca⟩ : ∃ gc, ca = some ⟨gc, 0, none⟩ ∧ PrsAt ca cn c Zb := by
    obtain ⟨b, e, _⟩ := BK.out.st.cu.all (by have := HC2.out; omega)
    exact ⟨b, e, BK.out.st.cu⟩
  subst hgc
  have HCA := Lib.hid hca
  clear hca
  go_wp2_with fail
  go_cut [6] (fun p V => ∃ qa qk gr gb, p = .pointer (some ⟨gb, 0, none⟩) ∧ Hid (V.rowIs gb 66 3 (d3 (.slice qa cn qk) (.slice (some ⟨gr, 0, none⟩) 1 1) (.int .i64 v)) ∧ StAt qa cn c (some ⟨gr, 0, none⟩) 1 St.allR V ∧ Below Zb.heap.size Zb V))
  case first =>
    refine wp_region_held_drew (S := fun V => Below Zb.heap.size Zb V) (by kernel_rfl) (Below.refl _ _).drew (fun hHeld => ?_)
    obtain ⟨Z, hZ⟩ : ∃ Z, Z = Zb.drew := ⟨_, rfl⟩
    rw [← hZ] at hHeld ⊢
    clear hZ
    refine take_do (i := 1) (v := (.pointer (some ⟨bS, 0, none⟩))) rfl (by kernel_rfl) (by kernel_rfl) (by kernel_rfl) (fun _ _ _ h => h) (by rfl) ?_ (by assumption) ?_
    · intro w hSw
      skip
      go_simp
    simp only [Act.put, List.setIfInBounds_toArray, List.set_cons_zero, List.set_cons_succ]
    refine take_do (i := 2) (v := (.slice (some ⟨gc, 0, none⟩) cn ck)) rfl (by kernel_rfl) (by kernel_rfl) (by kernel_rfl) (fun _ _ _ h => h) (by rfl) ?_ (by assumption) ?_
    · intro w hSw
      obtain ⟨⟨a0, a1, a2⟩, _⟩ := d3_cells (yrow_below BK.out.row hSw)
      go_simp
    simp only [Act.put, List.setIfInBounds_toArray, List.set_cons_zero, List.set_cons_succ]
    refine take_do (i := 4) (v := (.agg #[.int .i64 0, .int .i64 1000])) rfl (by kernel_rfl) (by kernel_rfl) (by kernel_rfl) (fun _ _ _ h => h) (by rfl) ?_ (by assumption) ?_
    · intro w hSw
      skip
      go_simp
    simp only [Act.put, List.setIfInBounds_toArray, List.set_cons_zero, List.set_cons_succ]
    refine take_do (i := 6) (v := (.pointer (some ⟨bS, 2, none⟩))) rfl (by kernel_rfl) (by kernel_rfl) (by kernel_rfl) (fun _ _ _ h => h) (by rfl) ?_ (by assumption) ?_
    · intro w hSw
      skip
      go_simp
    simp only [Act.put, List.setIfInBounds_toArray, List.set_cons_zero, List.set_cons_succ]
    refine take_do (i := 7) (v := (.int .i64 v)) rfl (by kernel_rfl) (by kernel_rfl) (by kernel_rfl) (fun _ _ _ h => h) (by rfl) ?_ (by assumption) ?_
    · intro w hSw
      obtain ⟨⟨a0, a1, a2⟩, _⟩ := d3_cells (yrow_below BK.out.row hSw)
      go_simp
    simp only [Act.put, List.setIfInBounds_toArray, List.set_cons_zero, List.set_cons_succ]
    refine wpAnyH_ready (rs := [0, 5, 9]) (by kernel_rfl) (by simp) (AllReadyH.cons (at_drop (i := 0) rfl) (fun K2 hK => ?_) (AllReadyH.cons (at_drop (i := 5) rfl) (fun K2 hK => ?_) (AllReadyH.cons (at_drop (i := 9) rfl) (fun K2 hK => ?_) (AllReadyH.nil))))
    · obtain ⟨Z17, hZ17⟩ : ∃ Z17, Z17 = Z.alloc (.cells #[] 156) := ⟨_, rfl⟩
      have hb : Below Z.heap.size Z Z17 := by rw [hZ17]; exact ybel_alloc _ _
      obtain ⟨gs, hgs⟩ : ∃ gs, gs = Z.heap.size := ⟨_, rfl⟩
      have HSB : Hid (Z17.rowIs gs 156 0 (d3 (.int .i64 0) (.int .i64 0) (.int .i64 0))) := by
        show World.rowIs _ _ _ _ _
        rw [hZ17, hgs]
        refine ⟨_, blk_alloc_new _ _, rfl, fun i hi => ?_⟩
        first | omega | (rcases two hi with rfl | rfl <;> rfl) | (rcases three hi with rfl | rfl | rfl <;> rfl) | (rcases six hi with rfl | rfl | rfl | rfl | rfl | rfl <;> rfl)
      have Ggs : Hid (Zb.heap.size ≤ gs) := by show _ ≤ _; rw [hgs]; exact hHeld.size
      go_simp
      rw [← hZ17, ← hgs]
      refine hK.out _ _ (hHeld.trans (hb.mono hHeld.size)) (fun hHeld2 => ?_)
      clear hK hHeld
      have hHeld := hHeld2
      clear hHeld2
      clear hb hZ17 hgs
      refine wpAnyH_ready (rs := [3, 5, 9]) (by kernel_rfl) (by simp) (AllReadyH.cons (at_drop (i := 3) rfl) (fun K2 hK => ?_) (AllReadyH.cons (at_drop (i := 5) rfl) (fun K2 hK => ?_) (AllReadyH.cons (at_drop (i := 9) rfl) (fun K2 hK => ?_) (AllReadyH.nil))))
      · have HOS : Hid (Z17.ownsRow Zb.heap.size 156 2 (.slice (some ⟨gs, 0, none⟩) 0 0) 0 []) := by
          show World.ownsRow _ _ _ _ _ _ _
          obtain ⟨cur, h1, h2, _⟩ := HSB.out
          have e : cur = #[] := Array.eq_empty_of_size_eq_zero h2
          subst e
          exact ⟨rfl, Or.inr ⟨_, 0, #[], rfl, Ggs.out, h1, Nat.le_refl _, Nat.zero_le _, rfl, rfl⟩⟩
        have HCC := Lib.hid (HCA.out.same (fun b _ hl => hHeld.block b hl))
        refine step_append_ownx rfl (.tmp 38) (.tmp 40) 63 rfl Zb.heap.size 156 j0 (.agg #[.int .i64 0, .int .i64 0]) 2 16 Tryd.underlying63 hj hy0 hy1 hy2 rfl (by decide) (.slice (some ⟨gs, 0, none⟩) 0 0) 0 [] rfl HOS.out ⟨gc, 0, none⟩ cn ck (((List.range cn).map c).flatMap prCells) rfl (prs_len c cn) (prs_at HCC.out) (prs_one c cn) (by have := HCN.out; unfold maxLen; omega) (by have := HCN.out; omega) hHeld.size ?_
        intro v' Z18 hown hgrow
        have hbN : Below Zb.heap.size Zb Z18 := ⟨hgrow.os.trans hHeld.os, hgrow.tape.trans hHeld.tape, hgrow.output.trans hHeld.output, Nat.le_trans hHeld.size hgrow.size, fun q hq => (hgrow.block q (Nat.lt_of_lt_of_le hq hHeld.size) (fun e => by have h1 := Ggs.out; injection e with e; have e2 : q = gs := e; omega)).trans (hHeld.block q hq)⟩
        have hown2 : Z18.ownsRow Zb.heap.size 156 2 v' ((List.range cn).map c).length (((List.range cn).map c).flatMap prCells) := by simpa using hown
        obtain ⟨gq, kq, hv', _, hblk⟩ : ∃ g k, v' = .slice (some ⟨g, 0, none⟩) cn k ∧ Zb.heap.size ≤ g ∧ PrBlk 156 g cn (prList ((List.range cn).map c)) Z18 := by
          rcases own_prs hown2 with ⟨_, e⟩ | ⟨g, k, e1, e2, e3⟩
          · have := congrArg List.length e; have h2 := HC2.out; simp at this; omega
          · simp at e1 e3; exact ⟨g, k, e1, e2, e3⟩
        subst hv'
        have HQA := Lib.hid hblk
        refine hK.out _ _ hbN (fun hHeld2 => ?_)
        clear hK hHeld hown hgrow hbN hown2 hblk HOS HCC HSB Ggs
        have hHeld := hHeld2
        clear hHeld2
        simp only [Act.put, List.setIfInBounds_toArray, List.set_cons_zero, List.set_cons_succ]
        refine wpAnyH_ready (rs := [5, 9]) (by kernel_rfl) (by simp) (AllReadyH.cons (at_drop (i := 5) rfl) (fun K2 hK => ?_) (AllReadyH.cons (at_drop (i := 9) rfl) (fun K2 hK => ?_) (AllReadyH.nil)))
        · obtain ⟨Z19, hZ19⟩ : ∃ Z19, Z19 = Z18.alloc (.cells #[.int .i64 0, .int .i64 1000] 78) := ⟨_, rfl⟩
          have hb : Below Z18.heap.size Z18 Z19 := by rw [hZ19]; exact ybel_alloc _ _
          obtain ⟨gr, hgr⟩ : ∃ gr, gr = Z18.heap.size := ⟨_, rfl⟩
          have HRR : Hid (Z19.rowIs gr 78 2 (d3 (.int .i64 0) (.int .i64 1000) (.int .i64 0))) := by
            show World.rowIs _ _ _ _ _
            rw [hZ19, hgr]
            refine ⟨_, blk_alloc_new _ _, rfl, fun i hi => ?_⟩
            first | omega | (rcases two hi with rfl | rfl <;> rfl) | (rcases three hi with rfl | rfl | rfl <;> rfl) | (rcases six hi with rfl | rfl | rfl | rfl | rfl | rfl <;> rfl)
          have Ggr : Hid (Zb.heap.size ≤ gr) := by show _ ≤ _; rw [hgr]; exact hHeld.size
          replace HQA := Lib.hid (HQA.out.below hb)
          go_simp
          rw [← hZ19, ← hgr]
          refine hK.out _ _ (hHeld.trans (hb.mono hHeld.size)) (fun hHeld2 => ?_)
          clear hK hHeld
          have hHeld := hHeld2
          clear hHeld2
          clear hb hZ19 hgr
          refine take_do (i := 8) (v := (.agg #[(.slice (some ⟨gq, 0, none⟩) cn kq), (.slice (some ⟨gr, 0, none⟩) 1 1), (.int .i64 v)])) rfl (by kernel_rfl) (by kernel_rfl) (by kernel_rfl) (fun _ _ _ h => h) (by rfl) ?_ (by assumption) ?_
          · intro w hSw
            skip
            go_simp
          simp only [Act.put, List.setIfInBounds_toArray, List.set_cons_zero, List.set_cons_succ]
          refine take_call (i := 9) rfl (by kernel_rfl) (fun K2 hK => ?_)
          obtain ⟨Z20, hZ20⟩ : ∃ Z20, Z20 = Z19.alloc (.cells #[.slice none 0 0, .slice none 0 0, .int .i64 0] 66) := ⟨_, rfl⟩
          have hb : Below Z19.heap.size Z19 Z20 := by rw [hZ20]; exact ybel_alloc _ _
          obtain ⟨gb, hgb⟩ : ∃ gb, gb = Z19.heap.size := ⟨_, rfl⟩
          have HZB : Hid (Z20.rowIs gb 66 3 (d3 (.slice none 0 0) (.slice none 0 0) (.int .i64 0))) := by
            show World.rowIs _ _ _ _ _
            rw [hZ20, hgb]
            refine ⟨_, blk_alloc_new _ _, rfl, fun i hi => ?_⟩
            first | omega | (rcases two hi with rfl | rfl <;> rfl) | (rcases three hi with rfl | rfl | rfl <;> rfl) | (rcases six hi with rfl | rfl | rfl | rfl | rfl | rfl <;> rfl)
          have Ggb : Hid (Zb.heap.size ≤ gb) := by show _ ≤ _; rw [hgb]; exact hHeld.size
          replace HRR := Lib.hid (yrow_below HRR.out hb)
          replace HQA := Lib.hid (HQA.out.below hb)
          go_simp
          rw [← hZ20, ← hgb]
          refine hK.out _ _ (hHeld.trans (hb.mono hHeld.size)) (fun hHeld2 => ?_)
          clear hK hHeld
          have hHeld := hHeld2
          clear hHeld2
          clear hb hZ20 hgb
          obtain ⟨⟨o0, o1, o2⟩, z0, z1, z2⟩ := d3_cells HZB.out
          have l0 := HZB.out.lt
          obtain ⟨WZ, hWZ⟩ : ∃ WZ, WZ = ((Z20.setCell ⟨gb, 0, none⟩ (.slice (some ⟨gq, 0, none⟩) cn kq)).setCell ⟨gb, 1, none⟩ (.slice (some ⟨gr, 0, none⟩) 1 1)).setCell ⟨gb, 2, none⟩ (.int .i64 v) := ⟨_, rfl⟩
          have hbZ : Below Zb.heap.size Zb WZ := by rw [hWZ]; exact ((hHeld.setCell (p := ⟨gb, 0, none⟩) Ggb.out _).setCell (p := ⟨gb, 1, none⟩) Ggb.out _).setCell (p := ⟨gb, 2, none⟩) Ggb.out _
          have HFM : Hid (WZ.rowIs gb 66 3 (d3 (.slice (some ⟨gq, 0, none⟩) cn kq) (.slice (some ⟨gr, 0, none⟩) 1 1) (.int .i64 v))) := by
            show World.rowIs _ _ _ _ _
            rw [hWZ]
            obtain ⟨cur, h1, h2, h3⟩ := ((HZB.out.set 0 (.slice (some ⟨gq, 0, none⟩) cn kq)).set 1 (.slice (some ⟨gr, 0, none⟩) 1 1)).set 2 (.int .i64 v)
            refine ⟨cur, h1, h2, fun i hi => ?_⟩
            rw [h3 i hi]
            rcases three hi with rfl | rfl | rfl <;> rfl
          have hne1 : gq ≠ gb := pr_ap HQA.out HZB.out (by decide)
          have hne2 : gr ≠ gb := row_ap HRR.out HZB.out (by decide)
          have hbo : ∀ q, q ≠ gb → WZ.heap[q]? = Z20.heap[q]? := fun q hq => by rw [hWZ]; exact (blk_setCell_other _ _ _ _ hq).trans ((blk_setCell_other _ _ _ _ hq).trans (blk_setCell_other _ _ _ _ hq))
          have HSA : Hid (StAt (some ⟨gq, 0, none⟩) cn c (some ⟨gr, 0, none⟩) 1 St.allR WZ) := st_mk (HQA.out.block (hbo _ hne1)) (HRR.out.of_block (hbo _ hne2))
          have HWZ := Lib.hid hWZ
          have HBZ := Lib.hid hbZ
          clear hWZ hbZ hne1 hne2 hbo
          refine take_call (i := 10) rfl (by kernel_rfl) (fun K2 hK => ?_)
          go_simp
          rw [← HWZ.out]
          refine hK.out _ _ HBZ.out (fun hHeld2 => ?_)
          clear hK hHeld hHeld2 HWZ o0 o1 o2 z0 z1 z2 l0
          refine wpAnyH_done (by kernel_rfl) ?_ _
          go_wp2_with fail
          go_meet
          case rel => exact ⟨_, _, gr, gb, rfl, HFM.out, HSA.out, HBZ.out⟩
        · obtain ⟨Z21, hZ21⟩ : ∃ Z21, Z21 = Z18.alloc (.cells #[.slice none 0 0, .slice none 0 0, .int .i64 0] 66) := ⟨_, rfl⟩
          have hb : Below Z18.heap.size Z18 Z21 := by rw [hZ21]; exact ybel_alloc _ _
          obtain ⟨gb, hgb⟩ : ∃ gb, gb = Z18.heap.size := ⟨_, rfl⟩
          have HZB : Hid (Z21.rowIs gb 66 3 (d3 (.slice none 0 0) (.slice none 0 0) (.int .i64 0))) := by
            show World.rowIs _ _ _ _ _
            rw [hZ21, hgb]
            refine ⟨_, blk_alloc_new _ _, rfl, fun i hi => ?_⟩
            first | omega | (rcases two hi with rfl | rfl <;> rfl) | (rcases three hi with rfl | rfl | rfl <;> rfl) | (rcases six hi with rfl | rfl | rfl | rfl | rfl | rfl <;> rfl)
          have Ggb : Hid (Zb.heap.size ≤ gb) := by show _ ≤ _; rw [hgb]; exact hHeld.size
          replace HQA := Lib.hid (HQA.out.below hb)
          go_simp
          rw [← hZ21, ← hgb]
          refine hK.out _ _ (hHeld.trans (hb.mono hHeld.size)) (fun hHeld2 => ?_)
          clear hK hHeld
          have hHeld := hHeld2
          clear hHeld2
          clear hb hZ21 hgb
          refine take_call (i := 5) rfl (by kernel_rfl) (fun K2 hK => ?_)
          obtain ⟨Z22, hZ22⟩ : ∃ Z22, Z22 = Z21.alloc (.cells #[.int .i64 0, .int .i64 1000] 78) := ⟨_, rfl⟩
          have hb : Below Z21.heap.size Z21 Z22 := by rw [hZ22]; exact ybel_alloc _ _
          obtain ⟨gr, hgr⟩ : ∃ gr, gr = Z21.heap.size := ⟨_, rfl⟩
          have HRR : Hid (Z22.rowIs gr 78 2 (d3 (.int .i64 0) (.int .i64 1000) (.int .i64 0))) := by
            show World.rowIs _ _ _ _ _
            rw [hZ22, hgr]
            refine ⟨_, blk_alloc_new _ _, rfl, fun i hi => ?_⟩
            first | omega | (rcases two hi with rfl | rfl <;> rfl) | (rcases three hi with rfl | rfl | rfl <;> rfl) | (rcases six hi with rfl | rfl | rfl | rfl | rfl | rfl <;> rfl)
          have Ggr : Hid (Zb.heap.size ≤ gr) := by show _ ≤ _; rw [hgr]; exact hHeld.size
          replace HZB := Lib.hid (yrow_below HZB.out hb)
          replace HQA := Lib.hid (HQA.out.below hb)
          go_simp
          rw [← hZ22, ← hgr]
          refine hK.out _ _ (hHeld.trans (hb.mono hHeld.size)) (fun hHeld2 => ?_)
          clear hK hHeld
          have hHeld := hHeld2
          clear hHeld2
          clear hb hZ22 hgr
          refine take_do (i := 8) (v := (.agg #[(.slice (some ⟨gq, 0, none⟩) cn kq), (.slice (some ⟨gr, 0, none⟩) 1 1), (.int .i64 v)])) rfl (by kernel_rfl) (by kernel_rfl) (by kernel_rfl) (fun _ _ _ h => h) (by rfl) ?_ (by assumption) ?_
          · intro w hSw
            skip
            go_simp
          simp only [Act.put, List.setIfInBounds_toArray, List.set_cons_zero, List.set_cons_succ]
          obtain ⟨⟨o0, o1, o2⟩, z0, z1, z2⟩ := d3_cells HZB.out
          have l0 := HZB.out.lt
          obtain ⟨WZ, hWZ⟩ : ∃ WZ, WZ = ((Z22.setCell ⟨gb, 0, none⟩ (.slice (some ⟨gq, 0, none⟩) cn kq)).setCell ⟨gb, 1, none⟩ (.slice (some ⟨gr, 0, none⟩) 1 1)).setCell ⟨gb, 2, none⟩ (.int .i64 v) := ⟨_, rfl⟩
          have hbZ : Below Zb.heap.size Zb WZ := by rw [hWZ]; exact ((hHeld.setCell (p := ⟨gb, 0, none⟩) Ggb.out _).setCell (p := ⟨gb, 1, none⟩) Ggb.out _).setCell (p := ⟨gb, 2, none⟩) Ggb.out _
          have HFM : Hid (WZ.rowIs gb 66 3 (d3 (.slice (some ⟨gq, 0, none⟩) cn kq) (.slice (some ⟨gr, 0, none⟩) 1 1) (.int .i64 v))) := by
            show World.rowIs _ _ _ _ _
            rw [hWZ]
            obtain ⟨cur, h1, h2, h3⟩ := ((HZB.out.set 0 (.slice (some ⟨gq, 0, none⟩) cn kq)).set 1 (.slice (some ⟨gr, 0, none⟩) 1 1)).set 2 (.int .i64 v)
            refine ⟨cur, h1, h2, fun i hi => ?_⟩
            rw [h3 i hi]
            rcases three hi with rfl | rfl | rfl <;> rfl
          have hne1 : gq ≠ gb := pr_ap HQA.out HZB.out (by decide)
          have hne2 : gr ≠ gb := row_ap HRR.out HZB.out (by decide)
          have hbo : ∀ q, q ≠ gb → WZ.heap[q]? = Z22.heap[q]? := fun q hq => by rw [hWZ]; exact (blk_setCell_other _ _ _ _ hq).trans ((blk_setCell_other _ _ _ _ hq).trans (blk_setCell_other _ _ _ _ hq))
          have HSA : Hid (StAt (some ⟨gq, 0, none⟩) cn c (some ⟨gr, 0, none⟩) 1 St.allR WZ) := st_mk (HQA.out.block (hbo _ hne1)) (HRR.out.of_block (hbo _ hne2))
          have HWZ := Lib.hid hWZ
          have HBZ := Lib.hid hbZ
          clear hWZ hbZ hne1 hne2 hbo
          refine take_call (i := 10) rfl (by kernel_rfl) (fun K2 hK => ?_)
          go_simp
          rw [← HWZ.out]
          refine hK.out _ _ HBZ.out (fun hHeld2 => ?_)
          clear hK hHeld hHeld2 HWZ o0 o1 o2 z0 z1 z2 l0
          refine wpAnyH_done (by kernel_rfl) ?_ _
          go_wp2_with fail
          go_meet
          case rel => exact ⟨_, _, gr, gb, rfl, HFM.out, HSA.out, HBZ.out⟩
      · obtain ⟨Z23, hZ23⟩ : ∃ Z23, Z23 = Z17.alloc (.cells #[.int .i64 0, .int .i64 1000] 78) := ⟨_, rfl⟩
        have hb : Below Z17.heap.size Z17 Z23 := by rw [hZ23]; exact ybel_alloc _ _
        obtain ⟨gr, hgr⟩ : ∃ gr, gr = Z17.heap.size := ⟨_, rfl⟩
        have HRR : Hid (Z23.rowIs gr 78 2 (d3 (.int .i64 0) (.int .i64 1000) (.int .i64 0))) := by
          show World.rowIs _ _ _ _ _
          rw [hZ23, hgr]
          refine ⟨_, blk_alloc_new _ _, rfl, fun i hi => ?_⟩
          first | omega | (rcases two hi with rfl | rfl <;> rfl) | (rcases three hi with rfl | rfl | rfl <;> rfl) | (rcases six hi with rfl | rfl | rfl | rfl | rfl | rfl <;> rfl)
        have Ggr : Hid (Zb.heap.size ≤ gr) := by show _ ≤ _; rw [hgr]; exact hHeld.size
        replace HSB := Lib.hid (yrow_below HSB.out hb)
        go_simp
        rw [← hZ23, ← hgr]
        refine hK.out _ _ (hHeld.trans (hb.mono hHeld.size)) (fun hHeld2 => ?_)
        clear hK hHeld
        have hHeld := hHeld2
        clear hHeld2
        clear hb hZ23 hgr
        refine wpAnyH_ready (rs := [3, 9]) (by kernel_rfl) (by simp) (AllReadyH.cons (at_drop (i := 3) rfl) (fun K2 hK => ?_) (AllReadyH.cons (at_drop (i := 9) rfl) (fun K2 hK => ?_) (AllReadyH.nil)))
        · have HOS : Hid (Z23.ownsRow Zb.heap.size 156 2 (.slice (some ⟨gs, 0, none⟩) 0 0) 0 []) := by
            show World.ownsRow _ _ _ _ _ _ _
            obtain ⟨cur, h1, h2, _⟩ := HSB.out
            have e : cur = #[] := Array.eq_empty_of_size_eq_zero h2
            subst e
            exact ⟨rfl, Or.inr ⟨_, 0, #[], rfl, Ggs.out, h1, Nat.le_refl _, Nat.zero_le _, rfl, rfl⟩⟩
          have HCC := Lib.hid (HCA.out.same (fun b _ hl => hHeld.block b hl))
          refine step_append_ownx rfl (.tmp 38) (.tmp 40) 63 rfl Zb.heap.size 156 j0 (.agg #[.int .i64 0, .int .i64 0]) 2 16 Tryd.underlying63 hj hy0 hy1 hy2 rfl (by decide) (.slice (some ⟨gs, 0, none⟩) 0 0) 0 [] rfl HOS.out ⟨gc, 0, none⟩ cn ck (((List.range cn).map c).flatMap prCells) rfl (prs_len c cn) (prs_at HCC.out) (prs_one c cn) (by have := HCN.out; unfold maxLen; omega) (by have := HCN.out; omega) hHeld.size ?_
          intro v' Z24 hown hgrow
          have hbN : Below Zb.heap.size Zb Z24 := ⟨hgrow.os.trans hHeld.os, hgrow.tape.trans hHeld.tape, hgrow.output.trans hHeld.output, Nat.le_trans hHeld.size hgrow.size, fun q hq => (hgrow.block q (Nat.lt_of_lt_of_le hq hHeld.size) (fun e => by have h1 := Ggs.out; injection e with e; have e2 : q = gs := e; omega)).trans (hHeld.block q hq)⟩
          have hown2 : Z24.ownsRow Zb.heap.size 156 2 v' ((List.range cn).map c).length (((List.range cn).map c).flatMap prCells) := by simpa using hown
          obtain ⟨gq, kq, hv', _, hblk⟩ : ∃ g k, v' = .slice (some ⟨g, 0, none⟩) cn k ∧ Zb.heap.size ≤ g ∧ PrBlk 156 g cn (prList ((List.range cn).map c)) Z24 := by
            rcases own_prs hown2 with ⟨_, e⟩ | ⟨g, k, e1, e2, e3⟩
            · have := congrArg List.length e; have h2 := HC2.out; simp at this; omega
            · simp at e1 e3; exact ⟨g, k, e1, e2, e3⟩
          subst hv'
          have HQA := Lib.hid hblk
          replace HRR := Lib.hid (HRR.out.of_block (hgrow.block _ HRR.out.lt (fun e => row_ap HRR.out HSB.out (by decide) (by injection e))))
          refine hK.out _ _ hbN (fun hHeld2 => ?_)
          clear hK hHeld hown hgrow hbN hown2 hblk HOS HCC HSB Ggs
          have hHeld := hHeld2
          clear hHeld2
          simp only [Act.put, List.setIfInBounds_toArray, List.set_cons_zero, List.set_cons_succ]
          refine take_do (i := 8) (v := (.agg #[(.slice (some ⟨gq, 0, none⟩) cn kq), (.slice (some ⟨gr, 0, none⟩) 1 1), (.int .i64 v)])) rfl (by kernel_rfl) (by kernel_rfl) (by kernel_rfl) (fun _ _ _ h => h) (by rfl) ?_ (by assumption) ?_
          · intro w hSw
            skip
            go_simp
          simp only [Act.put, List.setIfInBounds_toArray, List.set_cons_zero, List.set_cons_succ]
          refine take_call (i := 9) rfl (by kernel_rfl) (fun K2 hK => ?_)
          obtain ⟨Z25, hZ25⟩ : ∃ Z25, Z25 = Z24.alloc (.cells #[.slice none 0 0, .slice none 0 0, .int .i64 0] 66) := ⟨_, rfl⟩
          have hb : Below Z24.heap.size Z24 Z25 := by rw [hZ25]; exact ybel_alloc _ _
          obtain ⟨gb, hgb⟩ : ∃ gb, gb = Z24.heap.size := ⟨_, rfl⟩
          have HZB : Hid (Z25.rowIs gb 66 3 (d3 (.slice none 0 0) (.slice none 0 0) (.int .i64 0))) := by
            show World.rowIs _ _ _ _ _
            rw [hZ25, hgb]
            refine ⟨_, blk_alloc_new _ _, rfl, fun i hi => ?_⟩
            first | omega | (rcases two hi with rfl | rfl <;> rfl) | (rcases three hi with rfl | rfl | rfl <;> rfl) | (rcases six hi with rfl | rfl | rfl | rfl | rfl | rfl <;> rfl)
          have Ggb : Hid (Zb.heap.size ≤ gb) := by show _ ≤ _; rw [hgb]; exact hHeld.size
          replace HRR := Lib.hid (yrow_below HRR.out hb)
          replace HQA := Lib.hid (HQA.out.below hb)
          go_simp
          rw [← hZ25, ← hgb]
          refine hK.out _ _ (hHeld.trans (hb.mono hHeld.size)) (fun hHeld2 => ?_)
          clear hK hHeld
          have hHeld := hHeld2
          clear hHeld2
          clear hb hZ25 hgb
          obtain ⟨⟨o0, o1, o2⟩, z0, z1, z2⟩ := d3_cells HZB.out
          have l0 := HZB.out.lt
          obtain ⟨WZ, hWZ⟩ : ∃ WZ, WZ = ((Z25.setCell ⟨gb, 0, none⟩ (.slice (some ⟨gq, 0, none⟩) cn kq)).setCell ⟨gb, 1, none⟩ (.slice (some ⟨gr, 0, none⟩) 1 1)).setCell ⟨gb, 2, none⟩ (.int .i64 v) := ⟨_, rfl⟩
          have hbZ : Below Zb.heap.size Zb WZ := by rw [hWZ]; exact ((hHeld.setCell (p := ⟨gb, 0, none⟩) Ggb.out _).setCell (p := ⟨gb, 1, none⟩) Ggb.out _).setCell (p := ⟨gb, 2, none⟩) Ggb.out _
          have HFM : Hid (WZ.rowIs gb 66 3 (d3 (.slice (some ⟨gq, 0, none⟩) cn kq) (.slice (some ⟨gr, 0, none⟩) 1 1) (.int .i64 v))) := by
            show World.rowIs _ _ _ _ _
            rw [hWZ]
            obtain ⟨cur, h1, h2, h3⟩ := ((HZB.out.set 0 (.slice (some ⟨gq, 0, none⟩) cn kq)).set 1 (.slice (some ⟨gr, 0, none⟩) 1 1)).set 2 (.int .i64 v)
            refine ⟨cur, h1, h2, fun i hi => ?_⟩
            rw [h3 i hi]
            rcases three hi with rfl | rfl | rfl <;> rfl
          have hne1 : gq ≠ gb := pr_ap HQA.out HZB.out (by decide)
          have hne2 : gr ≠ gb := row_ap HRR.out HZB.out (by decide)
          have hbo : ∀ q, q ≠ gb → WZ.heap[q]? = Z25.heap[q]? := fun q hq => by rw [hWZ]; exact (blk_setCell_other _ _ _ _ hq).trans ((blk_setCell_other _ _ _ _ hq).trans (blk_setCell_other _ _ _ _ hq))
          have HSA : Hid (StAt (some ⟨gq, 0, none⟩) cn c (some ⟨gr, 0, none⟩) 1 St.allR WZ) := st_mk (HQA.out.block (hbo _ hne1)) (HRR.out.of_block (hbo _ hne2))
          have HWZ := Lib.hid hWZ
          have HBZ := Lib.hid hbZ
          clear hWZ hbZ hne1 hne2 hbo
          refine take_call (i := 10) rfl (by kernel_rfl) (fun K2 hK => ?_)
          go_simp
          rw [← HWZ.out]
          refine hK.out _ _ HBZ.out (fun hHeld2 => ?_)
          clear hK hHeld hHeld2 HWZ o0 o1 o2 z0 z1 z2 l0
          refine wpAnyH_done (by kernel_rfl) ?_ _
          go_wp2_with fail
          go_meet
          case rel => exact ⟨_, _, gr, gb, rfl, HFM.out, HSA.out, HBZ.out⟩
        · obtain ⟨Z26, hZ26⟩ : ∃ Z26, Z26 = Z23.alloc (.cells #[.slice none 0 0, .slice none 0 0, .int .i64 0] 66) := ⟨_, rfl⟩
          have hb : Below Z23.heap.size Z23 Z26 := by rw [hZ26]; exact ybel_alloc _ _
          obtain ⟨gb, hgb⟩ : ∃ gb, gb = Z23.heap.size := ⟨_, rfl⟩
          have HZB : Hid (Z26.rowIs gb 66 3 (d3 (.slice none 0 0) (.slice none 0 0) (.int .i64 0))) := by
            show World.rowIs _ _ _ _ _
            rw [hZ26, hgb]
            refine ⟨_, blk_alloc_new _ _, rfl, fun i hi => ?_⟩
            first | omega | (rcases two hi with rfl | rfl <;> rfl) | (rcases three hi with rfl | rfl | rfl <;> rfl) | (rcases six hi with rfl | rfl | rfl | rfl | rfl | rfl <;> rfl)
          have Ggb : Hid (Zb.heap.size ≤ gb) := by show _ ≤ _; rw [hgb]; exact hHeld.size
          replace HSB := Lib.hid (yrow_below HSB.out hb)
          replace HRR := Lib.hid (yrow_below HRR.out hb)
          go_simp
          rw [← hZ26, ← hgb]
          refine hK.out _ _ (hHeld.trans (hb.mono hHeld.size)) (fun hHeld2 => ?_)
          clear hK hHeld
          have hHeld := hHeld2
          clear hHeld2
          clear hb hZ26 hgb
          refine take_call (i := 3) rfl (by kernel_rfl) (fun K2 hK => ?_)
          have HOS : Hid (Z26.ownsRow Zb.heap.size 156 2 (.slice (some ⟨gs, 0, none⟩) 0 0) 0 []) := by
            show World.ownsRow _ _ _ _ _ _ _
            obtain ⟨cur, h1, h2, _⟩ := HSB.out
            have e : cur = #[] := Array.eq_empty_of_size_eq_zero h2
            subst e
            exact ⟨rfl, Or.inr ⟨_, 0, #[], rfl, Ggs.out, h1, Nat.le_refl _, Nat.zero_le _, rfl, rfl⟩⟩
          have HCC := Lib.hid (HCA.out.same (fun b _ hl => hHeld.block b hl))
          refine step_append_ownx rfl (.tmp 38) (.tmp 40) 63 rfl Zb.heap.size 156 j0 (.agg #[.int .i64 0, .int .i64 0]) 2 16 Tryd.underlying63 hj hy0 hy1 hy2 rfl (by decide) (.slice (some ⟨gs, 0, none⟩) 0 0) 0 [] rfl HOS.out ⟨gc, 0, none⟩ cn ck (((List.range cn).map c).flatMap prCells) rfl (prs_len c cn) (prs_at HCC.out) (prs_one c cn) (by have := HCN.out; unfold maxLen; omega) (by have := HCN.out; omega) hHeld.size ?_
          intro v' Z27 hown hgrow
          have hbN : Below Zb.heap.size Zb Z27 := ⟨hgrow.os.trans hHeld.os, hgrow.tape.trans hHeld.tape, hgrow.output.trans hHeld.output, Nat.le_trans hHeld.size hgrow.size, fun q hq => (hgrow.block q (Nat.lt_of_lt_of_le hq hHeld.size) (fun e => by have h1 := Ggs.out; injection e with e; have e2 : q = gs := e; omega)).trans (hHeld.block q hq)⟩
          have hown2 : Z27.ownsRow Zb.heap.size 156 2 v' ((List.range cn).map c).length (((List.range cn).map c).flatMap prCells) := by simpa using hown
          obtain ⟨gq, kq, hv', _, hblk⟩ : ∃ g k, v' = .slice (some ⟨g, 0, none⟩) cn k ∧ Zb.heap.size ≤ g ∧ PrBlk 156 g cn (prList ((List.range cn).map c)) Z27 := by
            rcases own_prs hown2 with ⟨_, e⟩ | ⟨g, k, e1, e2, e3⟩
            · have := congrArg List.length e; have h2 := HC2.out; simp at this; omega
            · simp at e1 e3; exact ⟨g, k, e1, e2, e3⟩
          subst hv'
          have HQA := Lib.hid hblk
          replace HRR := Lib.hid (HRR.out.of_block (hgrow.block _ HRR.out.lt (fun e => row_ap HRR.out HSB.out (by decide) (by injection e))))
          replace HZB := Lib.hid (HZB.out.of_block (hgrow.block _ HZB.out.lt (fun e => row_ap HZB.out HSB.out (by decide) (by injection e))))
          refine hK.out _ _ hbN (fun hHeld2 => ?_)
          clear hK hHeld hown hgrow hbN hown2 hblk HOS HCC HSB Ggs
          have hHeld := hHeld2
          clear hHeld2
          simp only [Act.put, List.setIfInBounds_toArray, List.set_cons_zero, List.set_cons_succ]
          refine take_do (i := 8) (v := (.agg #[(.slice (some ⟨gq, 0, none⟩) cn kq), (.slice (some ⟨gr, 0, none⟩) 1 1), (.int .i64 v)])) rfl (by kernel_rfl) (by kernel_rfl) (by kernel_rfl) (fun _ _ _ h => h) (by rfl) ?_ (by assumption) ?_
          · intro w hSw
            skip
            go_simp
          simp only [Act.put, List.setIfInBounds_toArray, List.set_cons_zero, List.set_cons_succ]
          obtain ⟨⟨o0, o1, o2⟩, z0, z1, z2⟩ := d3_cells HZB.out
          have l0 := HZB.out.lt
          obtain ⟨WZ, hWZ⟩ : ∃ WZ, WZ = ((Z27.setCell ⟨gb, 0, none⟩ (.slice (some ⟨gq, 0, none⟩) cn kq)).setCell ⟨gb, 1, none⟩ (.slice (some ⟨gr, 0, none⟩) 1 1)).setCell ⟨gb, 2, none⟩ (.int .i64 v) := ⟨_, rfl⟩
          have hbZ : Below Zb.heap.size Zb WZ := by rw [hWZ]; exact ((hHeld.setCell (p := ⟨gb, 0, none⟩) Ggb.out _).setCell (p := ⟨gb, 1, none⟩) Ggb.out _).setCell (p := ⟨gb, 2, none⟩) Ggb.out _
          have HFM : Hid (WZ.rowIs gb 66 3 (d3 (.slice (some ⟨gq, 0, none⟩) cn kq) (.slice (some ⟨gr, 0, none⟩) 1 1) (.int .i64 v))) := by
            show World.rowIs _ _ _ _ _
            rw [hWZ]
            obtain ⟨cur, h1, h2, h3⟩ := ((HZB.out.set 0 (.slice (some ⟨gq, 0, none⟩) cn kq)).set 1 (.slice (some ⟨gr, 0, none⟩) 1 1)).set 2 (.int .i64 v)
            refine ⟨cur, h1, h2, fun i hi => ?_⟩
            rw [h3 i hi]
            rcases three hi with rfl | rfl | rfl <;> rfl
          have hne1 : gq ≠ gb := pr_ap HQA.out HZB.out (by decide)
          have hne2 : gr ≠ gb := row_ap HRR.out HZB.out (by decide)
          have hbo : ∀ q, q ≠ gb → WZ.heap[q]? = Z27.heap[q]? := fun q hq => by rw [hWZ]; exact (blk_setCell_other _ _ _ _ hq).trans ((blk_setCell_other _ _ _ _ hq).trans (blk_setCell_other _ _ _ _ hq))
          have HSA : Hid (StAt (some ⟨gq, 0, none⟩) cn c (some ⟨gr, 0, none⟩) 1 St.allR WZ) := st_mk (HQA.out.block (hbo _ hne1)) (HRR.out.of_block (hbo _ hne2))
          have HWZ := Lib.hid hWZ
          have HBZ := Lib.hid hbZ
          clear hWZ hbZ hne1 hne2 hbo
          refine take_call (i := 10) rfl (by kernel_rfl) (fun K2 hK => ?_)
          go_simp
          rw [← HWZ.out]
          refine hK.out _ _ HBZ.out (fun hHeld2 => ?_)
          clear hK hHeld hHeld2 HWZ o0 o1 o2 z0 z1 z2 l0
          refine wpAnyH_done (by kernel_rfl) ?_ _
          go_wp2_with fail
          go_meet
          case rel => exact ⟨_, _, gr, gb, rfl, HFM.out, HSA.out, HBZ.out⟩
      · obtain ⟨Z28, hZ28⟩ : ∃ Z28, Z28 = Z17.alloc (.cells #[.slice none 0 0, .slice none 0 0, .int .i64 0] 66) := ⟨_, rfl⟩
        have hb : Below Z17.heap.size Z17 Z28 := by rw [hZ28]; exact ybel_alloc _ _
        obtain ⟨gb, hgb⟩ : ∃ gb, gb = Z17.heap.size := ⟨_, rfl⟩
        have HZB : Hid (Z28.rowIs gb 66 3 (d3 (.slice none 0 0) (.slice none 0 0) (.int .i64 0))) := by
          show World.rowIs _ _ _ _ _
          rw [hZ28, hgb]
          refine ⟨_, blk_alloc_new _ _, rfl, fun i hi => ?_⟩
          first | omega | (rcases two hi with rfl | rfl <;> rfl) | (rcases three hi with rfl | rfl | rfl <;> rfl) | (rcases six hi with rfl | rfl | rfl | rfl | rfl | rfl <;> rfl)
        have Ggb : Hid (Zb.heap.size ≤ gb) := by show _ ≤ _; rw [hgb]; exact hHeld.size
        replace HSB := Lib.hid (yrow_below HSB.out hb)
        go_simp
        rw [← hZ28, ← hgb]
        refine hK.out _ _ (hHeld.trans (hb.mono hHeld.size)) (fun hHeld2 => ?_)
        clear hK hHeld
        have hHeld := hHeld2
        clear hHeld2
        clear hb hZ28 hgb
        refine wpAnyH_ready (rs := [3, 5]) (by kernel_rfl) (by simp) (AllReadyH.cons (at_drop (i := 3) rfl) (fun K2 hK => ?_) (AllReadyH.cons (at_drop (i := 5) rfl) (fun K2 hK => ?_) (AllReadyH.nil)))
        · have HOS : Hid (Z28.ownsRow Zb.heap.size 156 2 (.slice (some ⟨gs, 0, none⟩) 0 0) 0 []) := by
            show World.ownsRow _ _ _ _ _ _ _
            obtain ⟨cur, h1, h2, _⟩ := HSB.out
            have e : cur = #[] := Array.eq_empty_of_size_eq_zero h2
            subst e
            exact ⟨rfl, Or.inr ⟨_, 0, #[], rfl, Ggs.out, h1, Nat.le_refl _, Nat.zero_le _, rfl, rfl⟩⟩
          have HCC := Lib.hid (HCA.out.same (fun b _ hl => hHeld.block b hl))
          refine step_append_ownx rfl (.tmp 38) (.tmp 40) 63 rfl Zb.heap.size 156 j0 (.agg #[.int .i64 0, .int .i64 0]) 2 16 Tryd.underlying63 hj hy0 hy1 hy2 rfl (by decide) (.slice (some ⟨gs, 0, none⟩) 0 0) 0 [] rfl HOS.out ⟨gc, 0, none⟩ cn ck (((List.range cn).map c).flatMap prCells) rfl (prs_len c cn) (prs_at HCC.out) (prs_one c cn) (by have := HCN.out; unfold maxLen; omega) (by have := HCN.out; omega) hHeld.size ?_
          intro v' Z29 hown hgrow
          have hbN : Below Zb.heap.size Zb Z29 := ⟨hgrow.os.trans hHeld.os, hgrow.tape.trans hHeld.tape, hgrow.output.trans hHeld.output, Nat.le_trans hHeld.size hgrow.size, fun q hq => (hgrow.block q (Nat.lt_of_lt_of_le hq hHeld.size) (fun e => by have h1 := Ggs.out; injection e with e; have e2 : q = gs := e; omega)).trans (hHeld.block q hq)⟩
          have hown2 : Z29.ownsRow Zb.heap.size 156 2 v' ((List.range cn).map c).length (((List.range cn).map c).flatMap prCells) := by simpa using hown
          obtain ⟨gq, kq, hv', _, hblk⟩ : ∃ g k, v' = .slice (some ⟨g, 0, none⟩) cn k ∧ Zb.heap.size ≤ g ∧ PrBlk 156 g cn (prList ((List.range cn).map c)) Z29 := by
            rcases own_prs hown2 with ⟨_, e⟩ | ⟨g, k, e1, e2, e3⟩
            · have := congrArg List.length e; have h2 := HC2.out; simp at this; omega
            · simp at e1 e3; exact ⟨g, k, e1, e2, e3⟩
          subst hv'
          have HQA := Lib.hid hblk
          replace HZB := Lib.hid (HZB.out.of_block (hgrow.block _ HZB.out.lt (fun e => row_ap HZB.out HSB.out (by decide) (by injection e))))
          refine hK.out _ _ hbN (fun hHeld2 => ?_)
          clear hK hHeld hown hgrow hbN hown2 hblk HOS HCC HSB Ggs
          have hHeld := hHeld2
          clear hHeld2
          simp only [Act.put, List.setIfInBounds_toArray, List.set_cons_zero, List.set_cons_succ]
          refine take_call (i := 5) rfl (by kernel_rfl) (fun K2 hK => ?_)
          obtain ⟨Z30, hZ30⟩ : ∃ Z30, Z30 = Z29.alloc (.cells #[.int .i64 0, .int .i64 1000] 78) := ⟨_, rfl⟩
          have hb : Below Z29.heap.size Z29 Z30 := by rw [hZ30]; exact ybel_alloc _ _
          obtain ⟨gr, hgr⟩ : ∃ gr, gr = Z29.heap.size := ⟨_, rfl⟩
          have HRR : Hid (Z30.rowIs gr 78 2 (d3 (.int .i64 0) (.int .i64 1000) (.int .i64 0))) := by
            show World.rowIs _ _ _ _ _
            rw [hZ30, hgr]
            refine ⟨_, blk_alloc_new _ _, rfl, fun i hi => ?_⟩
            first | omega | (rcases two hi with rfl | rfl <;> rfl) | (rcases three hi with rfl | rfl | rfl <;> rfl) | (rcases six hi with rfl | rfl | rfl | rfl | rfl | rfl <;> rfl)
          have Ggr : Hid (Zb.heap.size ≤ gr) := by show _ ≤ _; rw [hgr]; exact hHeld.size
          replace HZB := Lib.hid (yrow_below HZB.out hb)
          replace HQA := Lib.hid (HQA.out.below hb)
          go_simp
          rw [← hZ30, ← hgr]
          refine hK.out _ _ (hHeld.trans (hb.mono hHeld.size)) (fun hHeld2 => ?_)
          clear hK hHeld
          have hHeld := hHeld2
          clear hHeld2
          clear hb hZ30 hgr
          refine take_do (i := 8) (v := (.agg #[(.slice (some ⟨gq, 0, none⟩) cn kq), (.slice (some ⟨gr, 0, none⟩) 1 1), (.int .i64 v)])) rfl (by kernel_rfl) (by kernel_rfl) (by kernel_rfl) (fun _ _ _ h => h) (by rfl) ?_ (by assumption) ?_
          · intro w hSw
            skip
            go_simp
          simp only [Act.put, List.setIfInBounds_toArray, List.set_cons_zero, List.set_cons_succ]
          obtain ⟨⟨o0, o1, o2⟩, z0, z1, z2⟩ := d3_cells HZB.out
          have l0 := HZB.out.lt
          obtain ⟨WZ, hWZ⟩ : ∃ WZ, WZ = ((Z30.setCell ⟨gb, 0, none⟩ (.slice (some ⟨gq, 0, none⟩) cn kq)).setCell ⟨gb, 1, none⟩ (.slice (some ⟨gr, 0, none⟩) 1 1)).setCell ⟨gb, 2, none⟩ (.int .i64 v) := ⟨_, rfl⟩
          have hbZ : Below Zb.heap.size Zb WZ := by rw [hWZ]; exact ((hHeld.setCell (p := ⟨gb, 0, none⟩) Ggb.out _).setCell (p := ⟨gb, 1, none⟩) Ggb.out _).setCell (p := ⟨gb, 2, none⟩) Ggb.out _
          have HFM : Hid (WZ.rowIs gb 66 3 (d3 (.slice (some ⟨gq, 0, none⟩) cn kq) (.slice (some ⟨gr, 0, none⟩) 1 1) (.int .i64 v))) := by
            show World.rowIs _ _ _ _ _
            rw [hWZ]
            obtain ⟨cur, h1, h2, h3⟩ := ((HZB.out.set 0 (.slice (some ⟨gq, 0, none⟩) cn kq)).set 1 (.slice (some ⟨gr, 0, none⟩) 1 1)).set 2 (.int .i64 v)
            refine ⟨cur, h1, h2, fun i hi => ?_⟩
            rw [h3 i hi]
            rcases three hi with rfl | rfl | rfl <;> rfl
          have hne1 : gq ≠ gb := pr_ap HQA.out HZB.out (by decide)
          have hne2 : gr ≠ gb := row_ap HRR.out HZB.out (by decide)
          have hbo : ∀ q, q ≠ gb → WZ.heap[q]? = Z30.heap[q]? := fun q hq => by rw [hWZ]; exact (blk_setCell_other _ _ _ _ hq).trans ((blk_setCell_other _ _ _ _ hq).trans (blk_setCell_other _ _ _ _ hq))
          have HSA : Hid (StAt (some ⟨gq, 0, none⟩) cn c (some ⟨gr, 0, none⟩) 1 St.allR WZ) := st_mk (HQA.out.block (hbo _ hne1)) (HRR.out.of_block (hbo _ hne2))
          have HWZ := Lib.hid hWZ
          have HBZ := Lib.hid hbZ
          clear hWZ hbZ hne1 hne2 hbo
          refine take_call (i := 10) rfl (by kernel_rfl) (fun K2 hK => ?_)
          go_simp
          rw [← HWZ.out]
          refine hK.out _ _ HBZ.out (fun hHeld2 => ?_)
          clear hK hHeld hHeld2 HWZ o0 o1 o2 z0 z1 z2 l0
          refine wpAnyH_done (by kernel_rfl) ?_ _
          go_wp2_with fail
          go_meet
          case rel => exact ⟨_, _, gr, gb, rfl, HFM.out, HSA.out, HBZ.out⟩
        · obtain ⟨Z31, hZ31⟩ : ∃ Z31, Z31 = Z28.alloc (.cells #[.int .i64 0, .int .i64 1000] 78) := ⟨_, rfl⟩
          have hb : Below Z28.heap.size Z28 Z31 := by rw [hZ31]; exact ybel_alloc _ _
          obtain ⟨gr, hgr⟩ : ∃ gr, gr = Z28.heap.size := ⟨_, rfl⟩
          have HRR : Hid (Z31.rowIs gr 78 2 (d3 (.int .i64 0) (.int .i64 1000) (.int .i64 0))) := by
            show World.rowIs _ _ _ _ _
            rw [hZ31, hgr]
            refine ⟨_, blk_alloc_new _ _, rfl, fun i hi => ?_⟩
            first | omega | (rcases two hi with rfl | rfl <;> rfl) | (rcases three hi with rfl | rfl | rfl <;> rfl) | (rcases six hi with rfl | rfl | rfl | rfl | rfl | rfl <;> rfl)
          have Ggr : Hid (Zb.heap.size ≤ gr) := by show _ ≤ _; rw [hgr]; exact hHeld.size
          replace HSB := Lib.hid (yrow_below HSB.out hb)
          replace HZB := Lib.hid (yrow_below HZB.out hb)
          go_simp
          rw [← hZ31, ← hgr]
          refine hK.out _ _ (hHeld.trans (hb.mono hHeld.size)) (fun hHeld2 => ?_)
          clear hK hHeld
          have hHeld := hHeld2
          clear hHeld2
          clear hb hZ31 hgr
          refine take_call (i := 3) rfl (by kernel_rfl) (fun K2 hK => ?_)
          have HOS : Hid (Z31.ownsRow Zb.heap.size 156 2 (.slice (some ⟨gs, 0, none⟩) 0 0) 0 []) := by
            show World.ownsRow _ _ _ _ _ _ _
            obtain ⟨cur, h1, h2, _⟩ := HSB.out
            have e : cur = #[] := Array.eq_empty_of_size_eq_zero h2
            subst e
            exact ⟨rfl, Or.inr ⟨_, 0, #[], rfl, Ggs.out, h1, Nat.le_refl _, Nat.zero_le _, rfl, rfl⟩⟩
          have HCC := Lib.hid (HCA.out.same (fun b _ hl => hHeld.block b hl))
          refine step_append_ownx rfl (.tmp 38) (.tmp 40) 63 rfl Zb.heap.size 156 j0 (.agg #[.int .i64 0, .int .i64 0]) 2 16 Tryd.underlying63 hj hy0 hy1 hy2 rfl (by decide) (.slice (some ⟨gs, 0, none⟩) 0 0) 0 [] rfl HOS.out ⟨gc, 0, none⟩ cn ck (((List.range cn).map c).flatMap prCells) rfl (prs_len c cn) (prs_at HCC.out) (prs_one c cn) (by have := HCN.out; unfold maxLen; omega) (by have := HCN.out; omega) hHeld.size ?_
          intro v' Z32 hown hgrow
          have hbN : Below Zb.heap.size Zb Z32 := ⟨hgrow.os.trans hHeld.os, hgrow.tape.trans hHeld.tape, hgrow.output.trans hHeld.output, Nat.le_trans hHeld.size hgrow.size, fun q hq => (hgrow.block q (Nat.lt_of_lt_of_le hq hHeld.size) (fun e => by have h1 := Ggs.out; injection e with e; have e2 : q = gs := e; omega)).trans (hHeld.block q hq)⟩
          have hown2 : Z32.ownsRow Zb.heap.size 156 2 v' ((List.range cn).map c).length (((List.range cn).map c).flatMap prCells) := by simpa using hown
          obtain ⟨gq, kq, hv', _, hblk⟩ : ∃ g k, v' = .slice (some ⟨g, 0, none⟩) cn k ∧ Zb.heap.size ≤ g ∧ PrBlk 156 g cn (prList ((List.range cn).map c)) Z32 := by
            rcases own_prs hown2 with ⟨_, e⟩ | ⟨g, k, e1, e2, e3⟩
            · have := congrArg List.length e; have h2 := HC2.out; simp at this; omega
            · simp at e1 e3; exact ⟨g, k, e1, e2, e3⟩
          subst hv'
          have HQA := Lib.hid hblk
          replace HRR := Lib.hid (HRR.out.of_block (hgrow.block _ HRR.out.lt (fun e => row_ap HRR.out HSB.out (by decide) (by injection e))))
          replace HZB := Lib.hid (HZB.out.of_block (hgrow.block _ HZB.out.lt (fun e => row_ap HZB.out HSB.out (by decide) (by injection e))))
          refine hK.out _ _ hbN (fun hHeld2 => ?_)
          clear hK hHeld hown hgrow hbN hown2 hblk HOS HCC HSB Ggs
          have hHeld := hHeld2
          clear hHeld2
          simp only [Act.put, List.setIfInBounds_toArray, List.set_cons_zero, List.set_cons_succ]
          refine take_do (i := 8) (v := (.agg #[(.slice (some ⟨gq, 0, none⟩) cn kq), (.slice (some ⟨gr, 0, none⟩) 1 1), (.int .i64 v)])) rfl (by kernel_rfl) (by kernel_rfl) (by kernel_rfl) (fun _ _ _ h => h) (by rfl) ?_ (by assumption) ?_
          · intro w hSw
            skip
            go_simp
          simp only [Act.put, List.setIfInBounds_toArray, List.set_cons_zero, List.set_cons_succ]
          obtain ⟨⟨o0, o1, o2⟩, z0, z1, z2⟩ := d3_cells HZB.out
          have l0 := HZB.out.lt
          obtain ⟨WZ, hWZ⟩ : ∃ WZ, WZ = ((Z32.setCell ⟨gb, 0, none⟩ (.slice (some ⟨gq, 0, none⟩) cn kq)).setCell ⟨gb, 1, none⟩ (.slice (some ⟨gr, 0, none⟩) 1 1)).setCell ⟨gb, 2, none⟩ (.int .i64 v) := ⟨_, rfl⟩
          have hbZ : Below Zb.heap.size Zb WZ := by rw [hWZ]; exact ((hHeld.setCell (p := ⟨gb, 0, none⟩) Ggb.out _).setCell (p := ⟨gb, 1, none⟩) Ggb.out _).setCell (p := ⟨gb, 2, none⟩) Ggb.out _
          have HFM : Hid (WZ.rowIs gb 66 3 (d3 (.slice (some ⟨gq, 0, none⟩) cn kq) (.slice (some ⟨gr, 0, none⟩) 1 1) (.int .i64 v))) := by
            show World.rowIs _ _ _ _ _
            rw [hWZ]
            obtain ⟨cur, h1, h2, h3⟩ := ((HZB.out.set 0 (.slice (some ⟨gq, 0, none⟩) cn kq)).set 1 (.slice (some ⟨gr, 0, none⟩) 1 1)).set 2 (.int .i64 v)
            refine ⟨cur, h1, h2, fun i hi => ?_⟩
            rw [h3 i hi]
            rcases three hi with rfl | rfl | rfl <;> rfl
          have hne1 : gq ≠ gb := pr_ap HQA.out HZB.out (by decide)
          have hne2 : gr ≠ gb := row_ap HRR.out HZB.out (by decide)
          have hbo : ∀ q, q ≠ gb → WZ.heap[q]? = Z32.heap[q]? := fun q hq => by rw [hWZ]; exact (blk_setCell_other _ _ _ _ hq).trans ((blk_setCell_other _ _ _ _ hq).trans (blk_setCell_other _ _ _ _ hq))
          have HSA : Hid (StAt (some ⟨gq, 0, none⟩) cn c (some ⟨gr, 0, none⟩) 1 St.allR WZ) := st_mk (HQA.out.block (hbo _ hne1)) (HRR.out.of_block (hbo _ hne2))
          have HWZ := Lib.hid hWZ
          have HBZ := Lib.hid hbZ
          clear hWZ hbZ hne1 hne2 hbo
          refine take_call (i := 10) rfl (by kernel_rfl) (fun K2 hK => ?_)
          go_simp
          rw [← HWZ.out]
          refine hK.out _ _ HBZ.out (fun hHeld2 => ?_)
          clear hK hHeld hHeld2 HWZ o0 o1 o2 z0 z1 z2 l0
          refine wpAnyH_done (by kernel_rfl) ?_ _
          go_wp2_with fail
          go_meet
          case rel => exact ⟨_, _, gr, gb, rfl, HFM.out, HSA.out, HBZ.out⟩
    · obtain ⟨Z33, hZ33⟩ : ∃ Z33, Z33 = Z.alloc (.cells #[.int .i64 0, .int .i64 1000] 78) := ⟨_, rfl⟩
      have hb : Below Z.heap.size Z Z33 := by rw [hZ33]; exact ybel_alloc _ _
      obtain ⟨gr, hgr⟩ : ∃ gr, gr = Z.heap.size := ⟨_, rfl⟩
      have HRR : Hid (Z33.rowIs gr 78 2 (d3 (.int .i64 0) (.int .i64 1000) (.int .i64 0))) := by
        show World.rowIs _ _ _ _ _
        rw [hZ33, hgr]
        refine ⟨_, blk_alloc_new _ _, rfl, fun i hi => ?_⟩
        first | omega | (rcases two hi with rfl | rfl <;> rfl) | (rcases three hi with rfl | rfl | rfl <;> rfl) | (rcases six hi with rfl | rfl | rfl | rfl | rfl | rfl <;> rfl)
      have Ggr : Hid (Zb.heap.size ≤ gr) := by show _ ≤ _; rw [hgr]; exact hHeld.size
      go_simp
      rw [← hZ33, ← hgr]
      refine hK.out _ _ (hHeld.trans (hb.mono hHeld.size)) (fun hHeld2 => ?_)
      clear hK hHeld
      have hHeld := hHeld2
      clear hHeld2
      clear hb hZ33 hgr
      refine wpAnyH_ready (rs := [0, 9]) (by kernel_rfl) (by simp) (AllReadyH.cons (at_drop (i := 0) rfl) (fun K2 hK => ?_) (AllReadyH.cons (at_drop (i := 9) rfl) (fun K2 hK => ?_) (AllReadyH.nil)))
      · obtain ⟨Z34, hZ34⟩ : ∃ Z34, Z34 = Z33.alloc (.cells #[] 156) := ⟨_, rfl⟩
        have hb : Below Z33.heap.size Z33 Z34 := by rw [hZ34]; exact ybel_alloc _ _
        obtain ⟨gs, hgs⟩ : ∃ gs, gs = Z33.heap.size := ⟨_, rfl⟩
        have HSB : Hid (Z34.rowIs gs 156 0 (d3 (.int .i64 0) (.int .i64 0) (.int .i64 0))) := by
          show World.rowIs _ _ _ _ _
          rw [hZ34, hgs]
          refine ⟨_, blk_alloc_new _ _, rfl, fun i hi => ?_⟩
          first | omega | (rcases two hi with rfl | rfl <;> rfl) | (rcases three hi with rfl | rfl | rfl <;> rfl) | (rcases six hi with rfl | rfl | rfl | rfl | rfl | rfl <;> rfl)
        have Ggs : Hid (Zb.heap.size ≤ gs) := by show _ ≤ _; rw [hgs]; exact hHeld.size
        replace HRR := Lib.hid (yrow_below HRR.out hb)
        go_simp
        rw [← hZ34, ← hgs]
        refine hK.out _ _ (hHeld.trans (hb.mono hHeld.size)) (fun hHeld2 => ?_)
        clear hK hHeld
        have hHeld := hHeld2
        clear hHeld2
        clear hb hZ34 hgs
        refine wpAnyH_ready (rs := [3, 9]) (by kernel_rfl) (by simp) (AllReadyH.cons (at_drop (i := 3) rfl) (fun K2 hK => ?_) (AllReadyH.cons (at_drop (i := 9) rfl) (fun K2 hK => ?_) (AllReadyH.nil)))
        · have HOS : Hid (Z34.ownsRow Zb.heap.size 156 2 (.slice (some ⟨gs, 0, none⟩) 0 0) 0 []) := by
            show World.ownsRow _ _ _ _ _ _ _
            obtain ⟨cur, h1, h2, _⟩ := HSB.out
            have e : cur = #[] := Array.eq_empty_of_size_eq_zero h2
            subst e
            exact ⟨rfl, Or.inr ⟨_, 0, #[], rfl, Ggs.out, h1, Nat.le_refl _, Nat.zero_le _, rfl, rfl⟩⟩
          have HCC := Lib.hid (HCA.out.same (fun b _ hl => hHeld.block b hl))
          refine step_append_ownx rfl (.tmp 38) (.tmp 40) 63 rfl Zb.heap.size 156 j0 (.agg #[.int .i64 0, .int .i64 0]) 2 16 Tryd.underlying63 hj hy0 hy1 hy2 rfl (by decide) (.slice (some ⟨gs, 0, none⟩) 0 0) 0 [] rfl HOS.out ⟨gc, 0, none⟩ cn ck (((List.range cn).map c).flatMap prCells) rfl (prs_len c cn) (prs_at HCC.out) (prs_one c cn) (by have := HCN.out; unfold maxLen; omega) (by have := HCN.out; omega) hHeld.size ?_
          intro v' Z35 hown hgrow
          have hbN : Below Zb.heap.size Zb Z35 := ⟨hgrow.os.trans hHeld.os, hgrow.tape.trans hHeld.tape, hgrow.output.trans hHeld.output, Nat.le_trans hHeld.size hgrow.size, fun q hq => (hgrow.block q (Nat.lt_of_lt_of_le hq hHeld.size) (fun e => by have h1 := Ggs.out; injection e with e; have e2 : q = gs := e; omega)).trans (hHeld.block q hq)⟩
          have hown2 : Z35.ownsRow Zb.heap.size 156 2 v' ((List.range cn).map c).length (((List.range cn).map c).flatMap prCells) := by simpa using hown
          obtain ⟨gq, kq, hv', _, hblk⟩ : ∃ g k, v' = .slice (some ⟨g, 0, none⟩) cn k ∧ Zb.heap.size ≤ g ∧ PrBlk 156 g cn (prList ((List.range cn).map c)) Z35 := by
            rcases own_prs hown2 with ⟨_, e⟩ | ⟨g, k, e1, e2, e3⟩
            · have := congrArg List.length e; have h2 := HC2.out; simp at this; omega
            · simp at e1 e3; exact ⟨g, k, e1, e2, e3⟩
          subst hv'
          have HQA := Lib.hid hblk
          replace HRR := Lib.hid (HRR.out.of_block (hgrow.block _ HRR.out.lt (fun e => row_ap HRR.out HSB.out (by decide) (by injection e))))
          refine hK.out _ _ hbN (fun hHeld2 => ?_)
          clear hK hHeld hown hgrow hbN hown2 hblk HOS HCC HSB Ggs
          have hHeld := hHeld2
          clear hHeld2
          simp only [Act.put, List.setIfInBounds_toArray, List.set_cons_zero, List.set_cons_succ]
          refine take_do (i := 8) (v := (.agg #[(.slice (some ⟨gq, 0, none⟩) cn kq), (.slice (some ⟨gr, 0, none⟩) 1 1), (.int .i64 v)])) rfl (by kernel_rfl) (by kernel_rfl) (by kernel_rfl) (fun _ _ _ h => h) (by rfl) ?_ (by assumption) ?_
          · intro w hSw
            skip
            go_simp
          simp only [Act.put, List.setIfInBounds_toArray, List.set_cons_zero, List.set_cons_succ]
          refine take_call (i := 9) rfl (by kernel_rfl) (fun K2 hK => ?_)
          obtain ⟨Z36, hZ36⟩ : ∃ Z36, Z36 = Z35.alloc (.cells #[.slice none 0 0, .slice none 0 0, .int .i64 0] 66) := ⟨_, rfl⟩
          have hb : Below Z35.heap.size Z35 Z36 := by rw [hZ36]; exact ybel_alloc _ _
          obtain ⟨gb, hgb⟩ : ∃ gb, gb = Z35.heap.size := ⟨_, rfl⟩
          have HZB : Hid (Z36.rowIs gb 66 3 (d3 (.slice none 0 0) (.slice none 0 0) (.int .i64 0))) := by
            show World.rowIs _ _ _ _ _
            rw [hZ36, hgb]
            refine ⟨_, blk_alloc_new _ _, rfl, fun i hi => ?_⟩
            first | omega | (rcases two hi with rfl | rfl <;> rfl) | (rcases three hi with rfl | rfl | rfl <;> rfl) | (rcases six hi with rfl | rfl | rfl | rfl | rfl | rfl <;> rfl)
          have Ggb : Hid (Zb.heap.size ≤ gb) := by show _ ≤ _; rw [hgb]; exact hHeld.size
          replace HRR := Lib.hid (yrow_below HRR.out hb)
          replace HQA := Lib.hid (HQA.out.below hb)
          go_simp
          rw [← hZ36, ← hgb]
          refine hK.out _ _ (hHeld.trans (hb.mono hHeld.size)) (fun hHeld2 => ?_)
          clear hK hHeld
          have hHeld := hHeld2
          clear hHeld2
          clear hb hZ36 hgb
          obtain ⟨⟨o0, o1, o2⟩, z0, z1, z2⟩ := d3_cells HZB.out
          have l0 := HZB.out.lt
          obtain ⟨WZ, hWZ⟩ : ∃ WZ, WZ = ((Z36.setCell ⟨gb, 0, none⟩ (.slice (some ⟨gq, 0, none⟩) cn kq)).setCell ⟨gb, 1, none⟩ (.slice (some ⟨gr, 0, none⟩) 1 1)).setCell ⟨gb, 2, none⟩ (.int .i64 v) := ⟨_, rfl⟩
          have hbZ : Below Zb.heap.size Zb WZ := by rw [hWZ]; exact ((hHeld.setCell (p := ⟨gb, 0, none⟩) Ggb.out _).setCell (p := ⟨gb, 1, none⟩) Ggb.out _).setCell (p := ⟨gb, 2, none⟩) Ggb.out _
          have HFM : Hid (WZ.rowIs gb 66 3 (d3 (.slice (some ⟨gq, 0, none⟩) cn kq) (.slice (some ⟨gr, 0, none⟩) 1 1) (.int .i64 v))) := by
            show World.rowIs _ _ _ _ _
            rw [hWZ]
            obtain ⟨cur, h1, h2, h3⟩ := ((HZB.out.set 0 (.slice (some ⟨gq, 0, none⟩) cn kq)).set 1 (.slice (some ⟨gr, 0, none⟩) 1 1)).set 2 (.int .i64 v)
            refine ⟨cur, h1, h2, fun i hi => ?_⟩
            rw [h3 i hi]
            rcases three hi with rfl | rfl | rfl <;> rfl
          have hne1 : gq ≠ gb := pr_ap HQA.out HZB.out (by decide)
          have hne2 : gr ≠ gb := row_ap HRR.out HZB.out (by decide)
          have hbo : ∀ q, q ≠ gb → WZ.heap[q]? = Z36.heap[q]? := fun q hq => by rw [hWZ]; exact (blk_setCell_other _ _ _ _ hq).trans ((blk_setCell_other _ _ _ _ hq).trans (blk_setCell_other _ _ _ _ hq))
          have HSA : Hid (StAt (some ⟨gq, 0, none⟩) cn c (some ⟨gr, 0, none⟩) 1 St.allR WZ) := st_mk (HQA.out.block (hbo _ hne1)) (HRR.out.of_block (hbo _ hne2))
          have HWZ := Lib.hid hWZ
          have HBZ := Lib.hid hbZ
          clear hWZ hbZ hne1 hne2 hbo
          refine take_call (i := 10) rfl (by kernel_rfl) (fun K2 hK => ?_)
          go_simp
          rw [← HWZ.out]
          refine hK.out _ _ HBZ.out (fun hHeld2 => ?_)
          clear hK hHeld hHeld2 HWZ o0 o1 o2 z0 z1 z2 l0
          refine wpAnyH_done (by kernel_rfl) ?_ _
          go_wp2_with fail
          go_meet
          case rel => exact ⟨_, _, gr, gb, rfl, HFM.out, HSA.out, HBZ.out⟩
        · obtain ⟨Z37, hZ37⟩ : ∃ Z37, Z37 = Z34.alloc (.cells #[.slice none 0 0, .slice none 0 0, .int .i64 0] 66) := ⟨_, rfl⟩
          have hb : Below Z34.heap.size Z34 Z37 := by rw [hZ37]; exact ybel_alloc _ _
          obtain ⟨gb, hgb⟩ : ∃ gb, gb = Z34.heap.size := ⟨_, rfl⟩
          have HZB : Hid (Z37.rowIs gb 66 3 (d3 (.slice none 0 0) (.slice none 0 0) (.int .i64 0))) := by
            show World.rowIs _ _ _ _ _
            rw [hZ37, hgb]
            refine ⟨_, blk_alloc_new _ _, rfl, fun i hi => ?_⟩
            first | omega | (rcases two hi with rfl | rfl <;> rfl) | (rcases three hi with rfl | rfl | rfl <;> rfl) | (rcases six hi with rfl | rfl | rfl | rfl | rfl | rfl <;> rfl)
          have Ggb : Hid (Zb.heap.size ≤ gb) := by show _ ≤ _; rw [hgb]; exact hHeld.size
          replace HSB := Lib.hid (yrow_below HSB.out hb)
          replace HRR := Lib.hid (yrow_below HRR.out hb)
          go_simp
          rw [← hZ37, ← hgb]
          refine hK.out _ _ (hHeld.trans (hb.mono hHeld.size)) (fun hHeld2 => ?_)
          clear hK hHeld
          have hHeld := hHeld2
          clear hHeld2
          clear hb hZ37 hgb
          refine take_call (i := 3) rfl (by kernel_rfl) (fun K2 hK => ?_)
          have HOS : Hid (Z37.ownsRow Zb.heap.size 156 2 (.slice (some ⟨gs, 0, none⟩) 0 0) 0 []) := by
            show World.ownsRow _ _ _ _ _ _ _
            obtain ⟨cur, h1, h2, _⟩ := HSB.out
            have e : cur = #[] := Array.eq_empty_of_size_eq_zero h2
            subst e
            exact ⟨rfl, Or.inr ⟨_, 0, #[], rfl, Ggs.out, h1, Nat.le_refl _, Nat.zero_le _, rfl, rfl⟩⟩
          have HCC := Lib.hid (HCA.out.same (fun b _ hl => hHeld.block b hl))
          refine step_append_ownx rfl (.tmp 38) (.tmp 40) 63 rfl Zb.heap.size 156 j0 (.agg #[.int .i64 0, .int .i64 0]) 2 16 Tryd.underlying63 hj hy0 hy1 hy2 rfl (by decide) (.slice (some ⟨gs, 0, none⟩) 0 0) 0 [] rfl HOS.out ⟨gc, 0, none⟩ cn ck (((List.range cn).map c).flatMap prCells) rfl (prs_len c cn) (prs_at HCC.out) (prs_one c cn) (by have := HCN.out; unfold maxLen; omega) (by have := HCN.out; omega) hHeld.size ?_
          intro v' Z38 hown hgrow
          have hbN : Below Zb.heap.size Zb Z38 := ⟨hgrow.os.trans hHeld.os, hgrow.tape.trans hHeld.tape, hgrow.output.trans hHeld.output, Nat.le_trans hHeld.size hgrow.size, fun q hq => (hgrow.block q (Nat.lt_of_lt_of_le hq hHeld.size) (fun e => by have h1 := Ggs.out; injection e with e; have e2 : q = gs := e; omega)).trans (hHeld.block q hq)⟩
          have hown2 : Z38.ownsRow Zb.heap.size 156 2 v' ((List.range cn).map c).length (((List.range cn).map c).flatMap prCells) := by simpa using hown
          obtain ⟨gq, kq, hv', _, hblk⟩ : ∃ g k, v' = .slice (some ⟨g, 0, none⟩) cn k ∧ Zb.heap.size ≤ g ∧ PrBlk 156 g cn (prList ((List.range cn).map c)) Z38 := by
            rcases own_prs hown2 with ⟨_, e⟩ | ⟨g, k, e1, e2, e3⟩
            · have := congrArg List.length e; have h2 := HC2.out; simp at this; omega
            · simp at e1 e3; exact ⟨g, k, e1, e2, e3⟩
          subst hv'
          have HQA := Lib.hid hblk
          replace HRR := Lib.hid (HRR.out.of_block (hgrow.block _ HRR.out.lt (fun e => row_ap HRR.out HSB.out (by decide) (by injection e))))
          replace HZB := Lib.hid (HZB.out.of_block (hgrow.block _ HZB.out.lt (fun e => row_ap HZB.out HSB.out (by decide) (by injection e))))
          refine hK.out _ _ hbN (fun hHeld2 => ?_)
          clear hK hHeld hown hgrow hbN hown2 hblk HOS HCC HSB Ggs
          have hHeld := hHeld2
          clear hHeld2
          simp only [Act.put, List.setIfInBounds_toArray, List.set_cons_zero, List.set_cons_succ]
          refine take_do (i := 8) (v := (.agg #[(.slice (some ⟨gq, 0, none⟩) cn kq), (.slice (some ⟨gr, 0, none⟩) 1 1), (.int .i64 v)])) rfl (by kernel_rfl) (by kernel_rfl) (by kernel_rfl) (fun _ _ _ h => h) (by rfl) ?_ (by assumption) ?_
          · intro w hSw
            skip
            go_simp
          simp only [Act.put, List.setIfInBounds_toArray, List.set_cons_zero, List.set_cons_succ]
          obtain ⟨⟨o0, o1, o2⟩, z0, z1, z2⟩ := d3_cells HZB.out
          have l0 := HZB.out.lt
          obtain ⟨WZ, hWZ⟩ : ∃ WZ, WZ = ((Z38.setCell ⟨gb, 0, none⟩ (.slice (some ⟨gq, 0, none⟩) cn kq)).setCell ⟨gb, 1, none⟩ (.slice (some ⟨gr, 0, none⟩) 1 1)).setCell ⟨gb, 2, none⟩ (.int .i64 v) := ⟨_, rfl⟩
          have hbZ : Below Zb.heap.size Zb WZ := by rw [hWZ]; exact ((hHeld.setCell (p := ⟨gb, 0, none⟩) Ggb.out _).setCell (p := ⟨gb, 1, none⟩) Ggb.out _).setCell (p := ⟨gb, 2, none⟩) Ggb.out _
          have HFM : Hid (WZ.rowIs gb 66 3 (d3 (.slice (some ⟨gq, 0, none⟩) cn kq) (.slice (some ⟨gr, 0, none⟩) 1 1) (.int .i64 v))) := by
            show World.rowIs _ _ _ _ _
            rw [hWZ]
            obtain ⟨cur, h1, h2, h3⟩ := ((HZB.out.set 0 (.slice (some ⟨gq, 0, none⟩) cn kq)).set 1 (.slice (some ⟨gr, 0, none⟩) 1 1)).set 2 (.int .i64 v)
            refine ⟨cur, h1, h2, fun i hi => ?_⟩
            rw [h3 i hi]
            rcases three hi with rfl | rfl | rfl <;> rfl
          have hne1 : gq ≠ gb := pr_ap HQA.out HZB.out (by decide)
          have hne2 : gr ≠ gb := row_ap HRR.out HZB.out (by decide)
          have hbo : ∀ q, q ≠ gb → WZ.heap[q]? = Z38.heap[q]? := fun q hq => by rw [hWZ]; exact (blk_setCell_other _ _ _ _ hq).trans ((blk_setCell_other _ _ _ _ hq).trans (blk_setCell_other _ _ _ _ hq))
          have HSA : Hid (StAt (some ⟨gq, 0, none⟩) cn c (some ⟨gr, 0, none⟩) 1 St.allR WZ) := st_mk (HQA.out.block (hbo _ hne1)) (HRR.out.of_block (hbo _ hne2))
          have HWZ := Lib.hid hWZ
          have HBZ := Lib.hid hbZ
          clear hWZ hbZ hne1 hne2 hbo
          refine take_call (i := 10) rfl (by kernel_rfl) (fun K2 hK => ?_)
          go_simp
          rw [← HWZ.out]
          refine hK.out _ _ HBZ.out (fun hHeld2 => ?_)
          clear hK hHeld hHeld2 HWZ o0 o1 o2 z0 z1 z2 l0
          refine wpAnyH_done (by kernel_rfl) ?_ _
          go_wp2_with fail
          go_meet
          case rel => exact ⟨_, _, gr, gb, rfl, HFM.out, HSA.out, HBZ.out⟩
      · obtain ⟨Z39, hZ39⟩ : ∃ Z39, Z39 = Z33.alloc (.cells #[.slice none 0 0, .slice none 0 0, .int .i64 0] 66) := ⟨_, rfl⟩
        have hb : Below Z33.heap.size Z33 Z39 := by rw [hZ39]; exact ybel_alloc _ _
        obtain ⟨gb, hgb⟩ : ∃ gb, gb = Z33.heap.size := ⟨_, rfl⟩
        have HZB : Hid (Z39.rowIs gb 66 3 (d3 (.slice none 0 0) (.slice none 0 0) (.int .i64 0))) := by
          show World.rowIs _ _ _ _ _
          rw [hZ39, hgb]
          refine ⟨_, blk_alloc_new _ _, rfl, fun i hi => ?_⟩
          first | omega | (rcases two hi with rfl | rfl <;> rfl) | (rcases three hi with rfl | rfl | rfl <;> rfl) | (rcases six hi with rfl | rfl | rfl | rfl | rfl | rfl <;> rfl)
        have Ggb : Hid (Zb.heap.size ≤ gb) := by show _ ≤ _; rw [hgb]; exact hHeld.size
        replace HRR := Lib.hid (yrow_below HRR.out hb)
        go_simp
        rw [← hZ39, ← hgb]
        refine hK.out _ _ (hHeld.trans (hb.mono hHeld.size)) (fun hHeld2 => ?_)
        clear hK hHeld
        have hHeld := hHeld2
        clear hHeld2
        clear hb hZ39 hgb
        refine take_call (i := 0) rfl (by kernel_rfl) (fun K2 hK => ?_)
        obtain ⟨Z40, hZ40⟩ : ∃ Z40, Z40 = Z39.alloc (.cells #[] 156) := ⟨_, rfl⟩
        have hb : Below Z39.heap.size Z39 Z40 := by rw [hZ40]; exact ybel_alloc _ _
        obtain ⟨gs, hgs⟩ : ∃ gs, gs = Z39.heap.size := ⟨_, rfl⟩
        have HSB : Hid (Z40.rowIs gs 156 0 (d3 (.int .i64 0) (.int .i64 0) (.int .i64 0))) := by
          show World.rowIs _ _ _ _ _
          rw [hZ40, hgs]
          refine ⟨_, blk_alloc_new _ _, rfl, fun i hi => ?_⟩
          first | omega | (rcases two hi with rfl | rfl <;> rfl) | (rcases three hi with rfl | rfl | rfl <;> rfl) | (rcases six hi with rfl | rfl | rfl | rfl | rfl | rfl <;> rfl)
        have Ggs : Hid (Zb.heap.size ≤ gs) := by show _ ≤ _; rw [hgs]; exact hHeld.size
        replace HRR := Lib.hid (yrow_below HRR.out hb)
        replace HZB := Lib.hid (yrow_below HZB.out hb)
        go_simp
        rw [← hZ40, ← hgs]
        refine hK.out _ _ (hHeld.trans (hb.mono hHeld.size)) (fun hHeld2 => ?_)
        clear hK hHeld
        have hHeld := hHeld2
        clear hHeld2
        clear hb hZ40 hgs
        refine take_call (i := 3) rfl (by kernel_rfl) (fun K2 hK => ?_)
        have HOS : Hid (Z40.ownsRow Zb.heap.size 156 2 (.slice (some ⟨gs, 0, none⟩) 0 0) 0 []) := by
          show World.ownsRow _ _ _ _ _ _ _
          obtain ⟨cur, h1, h2, _⟩ := HSB.out
          have e : cur = #[] := Array.eq_empty_of_size_eq_zero h2
          subst e
          exact ⟨rfl, Or.inr ⟨_, 0, #[], rfl, Ggs.out, h1, Nat.le_refl _, Nat.zero_le _, rfl, rfl⟩⟩
        have HCC := Lib.hid (HCA.out.same (fun b _ hl => hHeld.block b hl))
        refine step_append_ownx rfl (.tmp 38) (.tmp 40) 63 rfl Zb.heap.size 156 j0 (.agg #[.int .i64 0, .int .i64 0]) 2 16 Tryd.underlying63 hj hy0 hy1 hy2 rfl (by decide) (.slice (some ⟨gs, 0, none⟩) 0 0) 0 [] rfl HOS.out ⟨gc, 0, none⟩ cn ck (((List.range cn).map c).flatMap prCells) rfl (prs_len c cn) (prs_at HCC.out) (prs_one c cn) (by have := HCN.out; unfold maxLen; omega) (by have := HCN.out; omega) hHeld.size ?_
        intro v' Z41 hown hgrow
        have hbN : Below Zb.heap.size Zb Z41 := ⟨hgrow.os.trans hHeld.os, hgrow.tape.trans hHeld.tape, hgrow.output.trans hHeld.output, Nat.le_trans hHeld.size hgrow.size, fun q hq => (hgrow.block q (Nat.lt_of_lt_of_le hq hHeld.size) (fun e => by have h1 := Ggs.out; injection e with e; have e2 : q = gs := e; omega)).trans (hHeld.block q hq)⟩
        have hown2 : Z41.ownsRow Zb.heap.size 156 2 v' ((List.range cn).map c).length (((List.range cn).map c).flatMap prCells) := by simpa using hown
        obtain ⟨gq, kq, hv', _, hblk⟩ : ∃ g k, v' = .slice (some ⟨g, 0, none⟩) cn k ∧ Zb.heap.size ≤ g ∧ PrBlk 156 g cn (prList ((List.range cn).map c)) Z41 := by
          rcases own_prs hown2 with ⟨_, e⟩ | ⟨g, k, e1, e2, e3⟩
          · have := congrArg List.length e; have h2 := HC2.out; simp at this; omega
          · simp at e1 e3; exact ⟨g, k, e1, e2, e3⟩
        subst hv'
        have HQA := Lib.hid hblk
        replace HRR := Lib.hid (HRR.out.of_block (hgrow.block _ HRR.out.lt (fun e => row_ap HRR.out HSB.out (by decide) (by injection e))))
        replace HZB := Lib.hid (HZB.out.of_block (hgrow.block _ HZB.out.lt (fun e => row_ap HZB.out HSB.out (by decide) (by injection e))))
        refine hK.out _ _ hbN (fun hHeld2 => ?_)
        clear hK hHeld hown hgrow hbN hown2 hblk HOS HCC HSB Ggs
        have hHeld := hHeld2
        clear hHeld2
        simp only [Act.put, List.setIfInBounds_toArray, List.set_cons_zero, List.set_cons_succ]
        refine take_do (i := 8) (v := (.agg #[(.slice (some ⟨gq, 0, none⟩) cn kq), (.slice (some ⟨gr, 0, none⟩) 1 1), (.int .i64 v)])) rfl (by kernel_rfl) (by kernel_rfl) (by kernel_rfl) (fun _ _ _ h => h) (by rfl) ?_ (by assumption) ?_
        · intro w hSw
          skip
          go_simp
        simp only [Act.put, List.setIfInBounds_toArray, List.set_cons_zero, List.set_cons_succ]
        obtain ⟨⟨o0, o1, o2⟩, z0, z1, z2⟩ := d3_cells HZB.out
        have l0 := HZB.out.lt
        obtain ⟨WZ, hWZ⟩ : ∃ WZ, WZ = ((Z41.setCell ⟨gb, 0, none⟩ (.slice (some ⟨gq, 0, none⟩) cn kq)).setCell ⟨gb, 1, none⟩ (.slice (some ⟨gr, 0, none⟩) 1 1)).setCell ⟨gb, 2, none⟩ (.int .i64 v) := ⟨_, rfl⟩
        have hbZ : Below Zb.heap.size Zb WZ := by rw [hWZ]; exact ((hHeld.setCell (p := ⟨gb, 0, none⟩) Ggb.out _).setCell (p := ⟨gb, 1, none⟩) Ggb.out _).setCell (p := ⟨gb, 2, none⟩) Ggb.out _
        have HFM : Hid (WZ.rowIs gb 66 3 (d3 (.slice (some ⟨gq, 0, none⟩) cn kq) (.slice (some ⟨gr, 0, none⟩) 1 1) (.int .i64 v))) := by
          show World.rowIs _ _ _ _ _
          rw [hWZ]
          obtain ⟨cur, h1, h2, h3⟩ := ((HZB.out.set 0 (.slice (some ⟨gq, 0, none⟩) cn kq)).set 1 (.slice (some ⟨gr, 0, none⟩) 1 1)).set 2 (.int .i64 v)
          refine ⟨cur, h1, h2, fun i hi => ?_⟩
          rw [h3 i hi]
          rcases three hi with rfl | rfl | rfl <;> rfl
        have hne1 : gq ≠ gb := pr_ap HQA.out HZB.out (by decide)
        have hne2 : gr ≠ gb := row_ap HRR.out HZB.out (by decide)
        have hbo : ∀ q, q ≠ gb → WZ.heap[q]? = Z41.heap[q]? := fun q hq => by rw [hWZ]; exact (blk_setCell_other _ _ _ _ hq).trans ((blk_setCell_other _ _ _ _ hq).trans (blk_setCell_other _ _ _ _ hq))
        have HSA : Hid (StAt (some ⟨gq, 0, none⟩) cn c (some ⟨gr, 0, none⟩) 1 St.allR WZ) := st_mk (HQA.out.block (hbo _ hne1)) (HRR.out.of_block (hbo _ hne2))
        have HWZ := Lib.hid hWZ
        have HBZ := Lib.hid hbZ
        clear hWZ hbZ hne1 hne2 hbo
        refine take_call (i := 10) rfl (by kernel_rfl) (fun K2 hK => ?_)
        go_simp
        rw [← HWZ.out]
        refine hK.out _ _ HBZ.out (fun hHeld2 => ?_)
        clear hK hHeld hHeld2 HWZ o0 o1 o2 z0 z1 z2 l0
        refine wpAnyH_done (by kernel_rfl) ?_ _
        go_wp2_with fail
        go_meet
        case rel => exact ⟨_, _, gr, gb, rfl, HFM.out, HSA.out, HBZ.out⟩
    · obtain ⟨Z42, hZ42⟩ : ∃ Z42, Z42 = Z.alloc (.cells #[.slice none 0 0, .slice none 0 0, .int .i64 0] 66) := ⟨_, rfl⟩
      have hb : Below Z.heap.size Z Z42 := by rw [hZ42]; exact ybel_alloc _ _
      obtain ⟨gb, hgb⟩ : ∃ gb, gb = Z.heap.size := ⟨_, rfl⟩
      have HZB : Hid (Z42.rowIs gb 66 3 (d3 (.slice none 0 0) (.slice none 0 0) (.int .i64 0))) := by
        show World.rowIs _ _ _ _ _
        rw [hZ42, hgb]
        refine ⟨_, blk_alloc_new _ _, rfl, fun i hi => ?_⟩
        first | omega | (rcases two hi with rfl | rfl <;> rfl) | (rcases three hi with rfl | rfl | rfl <;> rfl) | (rcases six hi with rfl | rfl | rfl | rfl | rfl | rfl <;> rfl)
      have Ggb : Hid (Zb.heap.size ≤ gb) := by show _ ≤ _; rw [hgb]; exact hHeld.size
      go_simp
      rw [← hZ42, ← hgb]
      refine hK.out _ _ (hHeld.trans (hb.mono hHeld.size)) (fun hHeld2 => ?_)
      clear hK hHeld
      have hHeld := hHeld2
      clear hHeld2
      clear hb hZ42 hgb
      refine wpAnyH_ready (rs := [0, 5]) (by kernel_rfl) (by simp) (AllReadyH.cons (at_drop (i := 0) rfl) (fun K2 hK => ?_) (AllReadyH.cons (at_drop (i := 5) rfl) (fun K2 hK => ?_) (AllReadyH.nil)))
      · obtain ⟨Z43, hZ43⟩ : ∃ Z43, Z43 = Z42.alloc (.cells #[] 156) := ⟨_, rfl⟩
        have hb : Below Z42.heap.size Z42 Z43 := by rw [hZ43]; exact ybel_alloc _ _
        obtain ⟨gs, hgs⟩ : ∃ gs, gs = Z42.heap.size := ⟨_, rfl⟩
        have HSB : Hid (Z43.rowIs gs 156 0 (d3 (.int .i64 0) (.int .i64 0) (.int .i64 0))) := by
          show World.rowIs _ _ _ _ _
          rw [hZ43, hgs]
          refine ⟨_, blk_alloc_new _ _, rfl, fun i hi => ?_⟩
          first | omega | (rcases two hi with rfl | rfl <;> rfl) | (rcases three hi with rfl | rfl | rfl <;> rfl) | (rcases six hi with rfl | rfl | rfl | rfl | rfl | rfl <;> rfl)
        have Ggs : Hid (Zb.heap.size ≤ gs) := by show _ ≤ _; rw [hgs]; exact hHeld.size
        replace HZB := Lib.hid (yrow_below HZB.out hb)
        go_simp
        rw [← hZ43, ← hgs]
        refine hK.out _ _ (hHeld.trans (hb.mono hHeld.size)) (fun hHeld2 => ?_)
        clear hK hHeld
        have hHeld := hHeld2
        clear hHeld2
        clear hb hZ43 hgs
        refine wpAnyH_ready (rs := [3, 5]) (by kernel_rfl) (by simp) (AllReadyH.cons (at_drop (i := 3) rfl) (fun K2 hK => ?_) (AllReadyH.cons (at_drop (i := 5) rfl) (fun K2 hK => ?_) (AllReadyH.nil)))
        · have HOS : Hid (Z43.ownsRow Zb.heap.size 156 2 (.slice (some ⟨gs, 0, none⟩) 0 0) 0 []) := by
            show World.ownsRow _ _ _ _ _ _ _
            obtain ⟨cur, h1, h2, _⟩ := HSB.out
            have e : cur = #[] := Array.eq_empty_of_size_eq_zero h2
            subst e
            exact ⟨rfl, Or.inr ⟨_, 0, #[], rfl, Ggs.out, h1, Nat.le_refl _, Nat.zero_le _, rfl, rfl⟩⟩
          have HCC := Lib.hid (HCA.out.same (fun b _ hl => hHeld.block b hl))
          refine step_append_ownx rfl (.tmp 38) (.tmp 40) 63 rfl Zb.heap.size 156 j0 (.agg #[.int .i64 0, .int .i64 0]) 2 16 Tryd.underlying63 hj hy0 hy1 hy2 rfl (by decide) (.slice (some ⟨gs, 0, none⟩) 0 0) 0 [] rfl HOS.out ⟨gc, 0, none⟩ cn ck (((List.range cn).map c).flatMap prCells) rfl (prs_len c cn) (prs_at HCC.out) (prs_one c cn) (by have := HCN.out; unfold maxLen; omega) (by have := HCN.out; omega) hHeld.size ?_
          intro v' Z44 hown hgrow
          have hbN : Below Zb.heap.size Zb Z44 := ⟨hgrow.os.trans hHeld.os, hgrow.tape.trans hHeld.tape, hgrow.output.trans hHeld.output, Nat.le_trans hHeld.size hgrow.size, fun q hq => (hgrow.block q (Nat.lt_of_lt_of_le hq hHeld.size) (fun e => by have h1 := Ggs.out; injection e with e; have e2 : q = gs := e; omega)).trans (hHeld.block q hq)⟩
          have hown2 : Z44.ownsRow Zb.heap.size 156 2 v' ((List.range cn).map c).length (((List.range cn).map c).flatMap prCells) := by simpa using hown
          obtain ⟨gq, kq, hv', _, hblk⟩ : ∃ g k, v' = .slice (some ⟨g, 0, none⟩) cn k ∧ Zb.heap.size ≤ g ∧ PrBlk 156 g cn (prList ((List.range cn).map c)) Z44 := by
            rcases own_prs hown2 with ⟨_, e⟩ | ⟨g, k, e1, e2, e3⟩
            · have := congrArg List.length e; have h2 := HC2.out; simp at this; omega
            · simp at e1 e3; exact ⟨g, k, e1, e2, e3⟩
          subst hv'
          have HQA := Lib.hid hblk
          replace HZB := Lib.hid (HZB.out.of_block (hgrow.block _ HZB.out.lt (fun e => row_ap HZB.out HSB.out (by decide) (by injection e))))
          refine hK.out _ _ hbN (fun hHeld2 => ?_)
          clear hK hHeld hown hgrow hbN hown2 hblk HOS HCC HSB Ggs
          have hHeld := hHeld2
          clear hHeld2
          simp only [Act.put, List.setIfInBounds_toArray, List.set_cons_zero, List.set_cons_succ]
          refine take_call (i := 5) rfl (by kernel_rfl) (fun K2 hK => ?_)
          obtain ⟨Z45, hZ45⟩ : ∃ Z45, Z45 = Z44.alloc (.cells #[.int .i64 0, .int .i64 1000] 78) := ⟨_, rfl⟩
          have hb : Below Z44.heap.size Z44 Z45 := by rw [hZ45]; exact ybel_alloc _ _
          obtain ⟨gr, hgr⟩ : ∃ gr, gr = Z44.heap.size := ⟨_, rfl⟩
          have HRR : Hid (Z45.rowIs gr 78 2 (d3 (.int .i64 0) (.int .i64 1000) (.int .i64 0))) := by
            show World.rowIs _ _ _ _ _
            rw [hZ45, hgr]
            refine ⟨_, blk_alloc_new _ _, rfl, fun i hi => ?_⟩
            first | omega | (rcases two hi with rfl | rfl <;> rfl) | (rcases three hi with rfl | rfl | rfl <;> rfl) | (rcases six hi with rfl | rfl | rfl | rfl | rfl | rfl <;> rfl)
          have Ggr : Hid (Zb.heap.size ≤ gr) := by show _ ≤ _; rw [hgr]; exact hHeld.size
          replace HZB := Lib.hid (yrow_below HZB.out hb)
          replace HQA := Lib.hid (HQA.out.below hb)
          go_simp
          rw [← hZ45, ← hgr]
          refine hK.out _ _ (hHeld.trans (hb.mono hHeld.size)) (fun hHeld2 => ?_)
          clear hK hHeld
          have hHeld := hHeld2
          clear hHeld2
          clear hb hZ45 hgr
          refine take_do (i := 8) (v := (.agg #[(.slice (some ⟨gq, 0, none⟩) cn kq), (.slice (some ⟨gr, 0, none⟩) 1 1), (.int .i64 v)])) rfl (by kernel_rfl) (by kernel_rfl) (by kernel_rfl) (fun _ _ _ h => h) (by rfl) ?_ (by assumption) ?_
          · intro w hSw
            skip
            go_simp
          simp only [Act.put, List.setIfInBounds_toArray, List.set_cons_zero, List.set_cons_succ]
          obtain ⟨⟨o0, o1, o2⟩, z0, z1, z2⟩ := d3_cells HZB.out
          have l0 := HZB.out.lt
          obtain ⟨WZ, hWZ⟩ : ∃ WZ, WZ = ((Z45.setCell ⟨gb, 0, none⟩ (.slice (some ⟨gq, 0, none⟩) cn kq)).setCell ⟨gb, 1, none⟩ (.slice (some ⟨gr, 0, none⟩) 1 1)).setCell ⟨gb, 2, none⟩ (.int .i64 v) := ⟨_, rfl⟩
          have hbZ : Below Zb.heap.size Zb WZ := by rw [hWZ]; exact ((hHeld.setCell (p := ⟨gb, 0, none⟩) Ggb.out _).setCell (p := ⟨gb, 1, none⟩) Ggb.out _).setCell (p := ⟨gb, 2, none⟩) Ggb.out _
          have HFM : Hid (WZ.rowIs gb 66 3 (d3 (.slice (some ⟨gq, 0, none⟩) cn kq) (.slice (some ⟨gr, 0, none⟩) 1 1) (.int .i64 v))) := by
            show World.rowIs _ _ _ _ _
            rw [hWZ]
            obtain ⟨cur, h1, h2, h3⟩ := ((HZB.out.set 0 (.slice (some ⟨gq, 0, none⟩) cn kq)).set 1 (.slice (some ⟨gr, 0, none⟩) 1 1)).set 2 (.int .i64 v)
            refine ⟨cur, h1, h2, fun i hi => ?_⟩
            rw [h3 i hi]
            rcases three hi with rfl | rfl | rfl <;> rfl
          have hne1 : gq ≠ gb := pr_ap HQA.out HZB.out (by decide)
          have hne2 : gr ≠ gb := row_ap HRR.out HZB.out (by decide)
          have hbo : ∀ q, q ≠ gb → WZ.heap[q]? = Z45.heap[q]? := fun q hq => by rw [hWZ]; exact (blk_setCell_other _ _ _ _ hq).trans ((blk_setCell_other _ _ _ _ hq).trans (blk_setCell_other _ _ _ _ hq))
          have HSA : Hid (StAt (some ⟨gq, 0, none⟩) cn c (some ⟨gr, 0, none⟩) 1 St.allR WZ) := st_mk (HQA.out.block (hbo _ hne1)) (HRR.out.of_block (hbo _ hne2))
          have HWZ := Lib.hid hWZ
          have HBZ := Lib.hid hbZ
          clear hWZ hbZ hne1 hne2 hbo
          refine take_call (i := 10) rfl (by kernel_rfl) (fun K2 hK => ?_)
          go_simp
          rw [← HWZ.out]
          refine hK.out _ _ HBZ.out (fun hHeld2 => ?_)
          clear hK hHeld hHeld2 HWZ o0 o1 o2 z0 z1 z2 l0
          refine wpAnyH_done (by kernel_rfl) ?_ _
          go_wp2_with fail
          go_meet
          case rel => exact ⟨_, _, gr, gb, rfl, HFM.out, HSA.out, HBZ.out⟩
        · obtain ⟨Z46, hZ46⟩ : ∃ Z46, Z46 = Z43.alloc (.cells #[.int .i64 0, .int .i64 1000] 78) := ⟨_, rfl⟩
          have hb : Below Z43.heap.size Z43 Z46 := by rw [hZ46]; exact ybel_alloc _ _
          obtain ⟨gr, hgr⟩ : ∃ gr, gr = Z43.heap.size := ⟨_, rfl⟩
          have HRR : Hid (Z46.rowIs gr 78 2 (d3 (.int .i64 0) (.int .i64 1000) (.int .i64 0))) := by
            show World.rowIs _ _ _ _ _
            rw [hZ46, hgr]
            refine ⟨_, blk_alloc_new _ _, rfl, fun i hi => ?_⟩
            first | omega | (rcases two hi with rfl | rfl <;> rfl) | (rcases three hi with rfl | rfl | rfl <;> rfl) | (rcases six hi with rfl | rfl | rfl | rfl | rfl | rfl <;> rfl)
          have Ggr : Hid (Zb.heap.size ≤ gr) := by show _ ≤ _; rw [hgr]; exact hHeld.size
          replace HSB := Lib.hid (yrow_below HSB.out hb)
          replace HZB := Lib.hid (yrow_below HZB.out hb)
          go_simp
          rw [← hZ46, ← hgr]
          refine hK.out _ _ (hHeld.trans (hb.mono hHeld.size)) (fun hHeld2 => ?_)
          clear hK hHeld
          have hHeld := hHeld2
          clear hHeld2
          clear hb hZ46 hgr
          refine take_call (i := 3) rfl (by kernel_rfl) (fun K2 hK => ?_)
          have HOS : Hid (Z46.ownsRow Zb.heap.size 156 2 (.slice (some ⟨gs, 0, none⟩) 0 0) 0 []) := by
            show World.ownsRow _ _ _ _ _ _ _
            obtain ⟨cur, h1, h2, _⟩ := HSB.out
            have e : cur = #[] := Array.eq_empty_of_size_eq_zero h2
            subst e
            exact ⟨rfl, Or.inr ⟨_, 0, #[], rfl, Ggs.out, h1, Nat.le_refl _, Nat.zero_le _, rfl, rfl⟩⟩
          have HCC := Lib.hid (HCA.out.same (fun b _ hl => hHeld.block b hl))
          refine step_append_ownx rfl (.tmp 38) (.tmp 40) 63 rfl Zb.heap.size 156 j0 (.agg #[.int .i64 0, .int .i64 0]) 2 16 Tryd.underlying63 hj hy0 hy1 hy2 rfl (by decide) (.slice (some ⟨gs, 0, none⟩) 0 0) 0 [] rfl HOS.out ⟨gc, 0, none⟩ cn ck (((List.range cn).map c).flatMap prCells) rfl (prs_len c cn) (prs_at HCC.out) (prs_one c cn) (by have := HCN.out; unfold maxLen; omega) (by have := HCN.out; omega) hHeld.size ?_
          intro v' Z47 hown hgrow
          have hbN : Below Zb.heap.size Zb Z47 := ⟨hgrow.os.trans hHeld.os, hgrow.tape.trans hHeld.tape, hgrow.output.trans hHeld.output, Nat.le_trans hHeld.size hgrow.size, fun q hq => (hgrow.block q (Nat.lt_of_lt_of_le hq hHeld.size) (fun e => by have h1 := Ggs.out; injection e with e; have e2 : q = gs := e; omega)).trans (hHeld.block q hq)⟩
          have hown2 : Z47.ownsRow Zb.heap.size 156 2 v' ((List.range cn).map c).length (((List.range cn).map c).flatMap prCells) := by simpa using hown
          obtain ⟨gq, kq, hv', _, hblk⟩ : ∃ g k, v' = .slice (some ⟨g, 0, none⟩) cn k ∧ Zb.heap.size ≤ g ∧ PrBlk 156 g cn (prList ((List.range cn).map c)) Z47 := by
            rcases own_prs hown2 with ⟨_, e⟩ | ⟨g, k, e1, e2, e3⟩
            · have := congrArg List.length e; have h2 := HC2.out; simp at this; omega
            · simp at e1 e3; exact ⟨g, k, e1, e2, e3⟩
          subst hv'
          have HQA := Lib.hid hblk
          replace HRR := Lib.hid (HRR.out.of_block (hgrow.block _ HRR.out.lt (fun e => row_ap HRR.out HSB.out (by decide) (by injection e))))
          replace HZB := Lib.hid (HZB.out.of_block (hgrow.block _ HZB.out.lt (fun e => row_ap HZB.out HSB.out (by decide) (by injection e))))
          refine hK.out _ _ hbN (fun hHeld2 => ?_)
          clear hK hHeld hown hgrow hbN hown2 hblk HOS HCC HSB Ggs
          have hHeld := hHeld2
          clear hHeld2
          simp only [Act.put, List.setIfInBounds_toArray, List.set_cons_zero, List.set_cons_succ]
          refine take_do (i := 8) (v := (.agg #[(.slice (some ⟨gq, 0, none⟩) cn kq), (.slice (some ⟨gr, 0, none⟩) 1 1), (.int .i64 v)])) rfl (by kernel_rfl) (by kernel_rfl) (by kernel_rfl) (fun _ _ _ h => h) (by rfl) ?_ (by assumption) ?_
          · intro w hSw
            skip
            go_simp
          simp only [Act.put, List.setIfInBounds_toArray, List.set_cons_zero, List.set_cons_succ]
          obtain ⟨⟨o0, o1, o2⟩, z0, z1, z2⟩ := d3_cells HZB.out
          have l0 := HZB.out.lt
          obtain ⟨WZ, hWZ⟩ : ∃ WZ, WZ = ((Z47.setCell ⟨gb, 0, none⟩ (.slice (some ⟨gq, 0, none⟩) cn kq)).setCell ⟨gb, 1, none⟩ (.slice (some ⟨gr, 0, none⟩) 1 1)).setCell ⟨gb, 2, none⟩ (.int .i64 v) := ⟨_, rfl⟩
          have hbZ : Below Zb.heap.size Zb WZ := by rw [hWZ]; exact ((hHeld.setCell (p := ⟨gb, 0, none⟩) Ggb.out _).setCell (p := ⟨gb, 1, none⟩) Ggb.out _).setCell (p := ⟨gb, 2, none⟩) Ggb.out _
          have HFM : Hid (WZ.rowIs gb 66 3 (d3 (.slice (some ⟨gq, 0, none⟩) cn kq) (.slice (some ⟨gr, 0, none⟩) 1 1) (.int .i64 v))) := by
            show World.rowIs _ _ _ _ _
            rw [hWZ]
            obtain ⟨cur, h1, h2, h3⟩ := ((HZB.out.set 0 (.slice (some ⟨gq, 0, none⟩) cn kq)).set 1 (.slice (some ⟨gr, 0, none⟩) 1 1)).set 2 (.int .i64 v)
            refine ⟨cur, h1, h2, fun i hi => ?_⟩
            rw [h3 i hi]
            rcases three hi with rfl | rfl | rfl <;> rfl
          have hne1 : gq ≠ gb := pr_ap HQA.out HZB.out (by decide)
          have hne2 : gr ≠ gb := row_ap HRR.out HZB.out (by decide)
          have hbo : ∀ q, q ≠ gb → WZ.heap[q]? = Z47.heap[q]? := fun q hq => by rw [hWZ]; exact (blk_setCell_other _ _ _ _ hq).trans ((blk_setCell_other _ _ _ _ hq).trans (blk_setCell_other _ _ _ _ hq))
          have HSA : Hid (StAt (some ⟨gq, 0, none⟩) cn c (some ⟨gr, 0, none⟩) 1 St.allR WZ) := st_mk (HQA.out.block (hbo _ hne1)) (HRR.out.of_block (hbo _ hne2))
          have HWZ := Lib.hid hWZ
          have HBZ := Lib.hid hbZ
          clear hWZ hbZ hne1 hne2 hbo
          refine take_call (i := 10) rfl (by kernel_rfl) (fun K2 hK => ?_)
          go_simp
          rw [← HWZ.out]
          refine hK.out _ _ HBZ.out (fun hHeld2 => ?_)
          clear hK hHeld hHeld2 HWZ o0 o1 o2 z0 z1 z2 l0
          refine wpAnyH_done (by kernel_rfl) ?_ _
          go_wp2_with fail
          go_meet
          case rel => exact ⟨_, _, gr, gb, rfl, HFM.out, HSA.out, HBZ.out⟩
      · obtain ⟨Z48, hZ48⟩ : ∃ Z48, Z48 = Z42.alloc (.cells #[.int .i64 0, .int .i64 1000] 78) := ⟨_, rfl⟩
        have hb : Below Z42.heap.size Z42 Z48 := by rw [hZ48]; exact ybel_alloc _ _
        obtain ⟨gr, hgr⟩ : ∃ gr, gr = Z42.heap.size := ⟨_, rfl⟩
        have HRR : Hid (Z48.rowIs gr 78 2 (d3 (.int .i64 0) (.int .i64 1000) (.int .i64 0))) := by
          show World.rowIs _ _ _ _ _
          rw [hZ48, hgr]
          refine ⟨_, blk_alloc_new _ _, rfl, fun i hi => ?_⟩
          first | omega | (rcases two hi with rfl | rfl <;> rfl) | (rcases three hi with rfl | rfl | rfl <;> rfl) | (rcases six hi with rfl | rfl | rfl | rfl | rfl | rfl <;> rfl)
        have Ggr : Hid (Zb.heap.size ≤ gr) := by show _ ≤ _; rw [hgr]; exact hHeld.size
        replace HZB := Lib.hid (yrow_below HZB.out hb)
        go_simp
        rw [← hZ48, ← hgr]
        refine hK.out _ _ (hHeld.trans (hb.mono hHeld.size)) (fun hHeld2 => ?_)
        clear hK hHeld
        have hHeld := hHeld2
        clear hHeld2
        clear hb hZ48 hgr
        refine take_call (i := 0) rfl (by kernel_rfl) (fun K2 hK => ?_)
        obtain ⟨Z49, hZ49⟩ : ∃ Z49, Z49 = Z48.alloc (.cells #[] 156) := ⟨_, rfl⟩
        have hb : Below Z48.heap.size Z48 Z49 := by rw [hZ49]; exact ybel_alloc _ _
        obtain ⟨gs, hgs⟩ : ∃ gs, gs = Z48.heap.size := ⟨_, rfl⟩
        have HSB : Hid (Z49.rowIs gs 156 0 (d3 (.int .i64 0) (.int .i64 0) (.int .i64 0))) := by
          show World.rowIs _ _ _ _ _
          rw [hZ49, hgs]
          refine ⟨_, blk_alloc_new _ _, rfl, fun i hi => ?_⟩
          first | omega | (rcases two hi with rfl | rfl <;> rfl) | (rcases three hi with rfl | rfl | rfl <;> rfl) | (rcases six hi with rfl | rfl | rfl | rfl | rfl | rfl <;> rfl)
        have Ggs : Hid (Zb.heap.size ≤ gs) := by show _ ≤ _; rw [hgs]; exact hHeld.size
        replace HRR := Lib.hid (yrow_below HRR.out hb)
        replace HZB := Lib.hid (yrow_below HZB.out hb)
        go_simp
        rw [← hZ49, ← hgs]
        refine hK.out _ _ (hHeld.trans (hb.mono hHeld.size)) (fun hHeld2 => ?_)
        clear hK hHeld
        have hHeld := hHeld2
        clear hHeld2
        clear hb hZ49 hgs
        refine take_call (i := 3) rfl (by kernel_rfl) (fun K2 hK => ?_)
        have HOS : Hid (Z49.ownsRow Zb.heap.size 156 2 (.slice (some ⟨gs, 0, none⟩) 0 0) 0 []) := by
          show World.ownsRow _ _ _ _ _ _ _
          obtain ⟨cur, h1, h2, _⟩ := HSB.out
          have e : cur = #[] := Array.eq_empty_of_size_eq_zero h2
          subst e
          exact ⟨rfl, Or.inr ⟨_, 0, #[], rfl, Ggs.out, h1, Nat.le_refl _, Nat.zero_le _, rfl, rfl⟩⟩
        have HCC := Lib.hid (HCA.out.same (fun b _ hl => hHeld.block b hl))
        refine step_append_ownx rfl (.tmp 38) (.tmp 40) 63 rfl Zb.heap.size 156 j0 (.agg #[.int .i64 0, .int .i64 0]) 2 16 Tryd.underlying63 hj hy0 hy1 hy2 rfl (by decide) (.slice (some ⟨gs, 0, none⟩) 0 0) 0 [] rfl HOS.out ⟨gc, 0, none⟩ cn ck (((List.range cn).map c).flatMap prCells) rfl (prs_len c cn) (prs_at HCC.out) (prs_one c cn) (by have := HCN.out; unfold maxLen; omega) (by have := HCN.out; omega) hHeld.size ?_
        intro v' Z50 hown hgrow
        have hbN : Below Zb.heap.size Zb Z50 := ⟨hgrow.os.trans hHeld.os, hgrow.tape.trans hHeld.tape, hgrow.output.trans hHeld.output, Nat.le_trans hHeld.size hgrow.size, fun q hq => (hgrow.block q (Nat.lt_of_lt_of_le hq hHeld.size) (fun e => by have h1 := Ggs.out; injection e with e; have e2 : q = gs := e; omega)).trans (hHeld.block q hq)⟩
        have hown2 : Z50.ownsRow Zb.heap.size 156 2 v' ((List.range cn).map c).length (((List.range cn).map c).flatMap prCells) := by simpa using hown
        obtain ⟨gq, kq, hv', _, hblk⟩ : ∃ g k, v' = .slice (some ⟨g, 0, none⟩) cn k ∧ Zb.heap.size ≤ g ∧ PrBlk 156 g cn (prList ((List.range cn).map c)) Z50 := by
          rcases own_prs hown2 with ⟨_, e⟩ | ⟨g, k, e1, e2, e3⟩
          · have := congrArg List.length e; have h2 := HC2.out; simp at this; omega
          · simp at e1 e3; exact ⟨g, k, e1, e2, e3⟩
        subst hv'
        have HQA := Lib.hid hblk
        replace HRR := Lib.hid (HRR.out.of_block (hgrow.block _ HRR.out.lt (fun e => row_ap HRR.out HSB.out (by decide) (by injection e))))
        replace HZB := Lib.hid (HZB.out.of_block (hgrow.block _ HZB.out.lt (fun e => row_ap HZB.out HSB.out (by decide) (by injection e))))
        refine hK.out _ _ hbN (fun hHeld2 => ?_)
        clear hK hHeld hown hgrow hbN hown2 hblk HOS HCC HSB Ggs
        have hHeld := hHeld2
        clear hHeld2
        simp only [Act.put, List.setIfInBounds_toArray, List.set_cons_zero, List.set_cons_succ]
        refine take_do (i := 8) (v := (.agg #[(.slice (some ⟨gq, 0, none⟩) cn kq), (.slice (some ⟨gr, 0, none⟩) 1 1), (.int .i64 v)])) rfl (by kernel_rfl) (by kernel_rfl) (by kernel_rfl) (fun _ _ _ h => h) (by rfl) ?_ (by assumption) ?_
        · intro w hSw
          skip
          go_simp
        simp only [Act.put, List.setIfInBounds_toArray, List.set_cons_zero, List.set_cons_succ]
        obtain ⟨⟨o0, o1, o2⟩, z0, z1, z2⟩ := d3_cells HZB.out
        have l0 := HZB.out.lt
        obtain ⟨WZ, hWZ⟩ : ∃ WZ, WZ = ((Z50.setCell ⟨gb, 0, none⟩ (.slice (some ⟨gq, 0, none⟩) cn kq)).setCell ⟨gb, 1, none⟩ (.slice (some ⟨gr, 0, none⟩) 1 1)).setCell ⟨gb, 2, none⟩ (.int .i64 v) := ⟨_, rfl⟩
        have hbZ : Below Zb.heap.size Zb WZ := by rw [hWZ]; exact ((hHeld.setCell (p := ⟨gb, 0, none⟩) Ggb.out _).setCell (p := ⟨gb, 1, none⟩) Ggb.out _).setCell (p := ⟨gb, 2, none⟩) Ggb.out _
        have HFM : Hid (WZ.rowIs gb 66 3 (d3 (.slice (some ⟨gq, 0, none⟩) cn kq) (.slice (some ⟨gr, 0, none⟩) 1 1) (.int .i64 v))) := by
          show World.rowIs _ _ _ _ _
          rw [hWZ]
          obtain ⟨cur, h1, h2, h3⟩ := ((HZB.out.set 0 (.slice (some ⟨gq, 0, none⟩) cn kq)).set 1 (.slice (some ⟨gr, 0, none⟩) 1 1)).set 2 (.int .i64 v)
          refine ⟨cur, h1, h2, fun i hi => ?_⟩
          rw [h3 i hi]
          rcases three hi with rfl | rfl | rfl <;> rfl
        have hne1 : gq ≠ gb := pr_ap HQA.out HZB.out (by decide)
        have hne2 : gr ≠ gb := row_ap HRR.out HZB.out (by decide)
        have hbo : ∀ q, q ≠ gb → WZ.heap[q]? = Z50.heap[q]? := fun q hq => by rw [hWZ]; exact (blk_setCell_other _ _ _ _ hq).trans ((blk_setCell_other _ _ _ _ hq).trans (blk_setCell_other _ _ _ _ hq))
        have HSA : Hid (StAt (some ⟨gq, 0, none⟩) cn c (some ⟨gr, 0, none⟩) 1 St.allR WZ) := st_mk (HQA.out.block (hbo _ hne1)) (HRR.out.of_block (hbo _ hne2))
        have HWZ := Lib.hid hWZ
        have HBZ := Lib.hid hbZ
        clear hWZ hbZ hne1 hne2 hbo
        refine take_call (i := 10) rfl (by kernel_rfl) (fun K2 hK => ?_)
        go_simp
        rw [← HWZ.out]
        refine hK.out _ _ HBZ.out (fun hHeld2 => ?_)
        clear hK hHeld hHeld2 HWZ o0 o1 o2 z0 z1 z2 l0
        refine wpAnyH_done (by kernel_rfl) ?_ _
        go_wp2_with fail
        go_meet
        case rel => exact ⟨_, _, gr, gb, rfl, HFM.out, HSA.out, HBZ.out⟩
  case rest =>
    obtain ⟨qa, qk, gr, gp, rfl, hC⟩ := hcut
    obtain ⟨W6, hW6⟩ : ∃ W6, W6 = wc := ⟨_, rfl⟩
    rw [← hW6] at hC ⊢
    clear hW6
    have HP := Lib.hid hC.out.1
    have HST := Lib.hid hC.out.2.1
    have BK2 := Lib.hid (BK.out.below hC.out.2.2)
    clear BK hC HCA
    have BK := BK2
    clear BK2
    obtain ⟨WB, hWB⟩ : ∃ WB, WB = (W6.alloc (.cells #[] 2)).alloc (.cells #[] 2) := ⟨_, rfl⟩
    have hbB : Below W6.heap.size W6 WB := by rw [hWB]; exact ((Below.refl _ _).alloc (Nat.le_refl _) _).alloc (by simp) _
    have hT0 : TwI W6.heap.size (.slice (some ⟨W6.heap.size, 0, none⟩) 0 0) 0 (fun _ => y2) (.slice (some ⟨(W6.alloc (.cells #[] 2)).heap.size, 0, none⟩) 0 0) 0 (fun _ => y2 + 1) WB := by
      rw [hWB]
      refine ⟨World.ownsRow.alloc ⟨rfl, Or.inr ⟨_, 0, #[], rfl, Nat.le_refl _, blk_alloc_new _ _, Nat.le_refl _, Nat.zero_le _, rfl, rfl⟩⟩ _, ⟨rfl, Or.inr ⟨_, 0, #[], rfl, by simp, blk_alloc_new _ _, Nat.le_refl _, Nat.zero_le _, rfl, rfl⟩⟩, fun g h1 h2 => ?_⟩
      simp [Value.ownBlock] at h1 h2
      omega
    have HT0 := Lib.hid hT0
    have HBB := Lib.hid hbB
    have HWB := Lib.hid hWB
    clear hT0 hbB hWB
    have hyl := HY.out.y0
    have hyh := HY.out.y1
    go_wp2_with fail
    rw [← HWB.out]
    go_loopw [7, 8, 9] (fun v7 v8 iv wx => ∃ i : Nat, i ≤ n ∧ iv = .int .i64 i ∧ Hid (TwI W6.heap.size v7 i (fun _ => y2) v8 i (fun _ => y2 + 1) wx ∧ Below W6.heap.size W6 wx)) (fun _ _ iv _ => n - (intOf iv).toNat)
    case atStart => exact ⟨0, Nat.zero_le _, rfl, ⟨by simpa using HT0.out, HBB.out⟩⟩
    case round =>
      clear HT0 HBB HWB
      obtain ⟨i, hi1, rfl, hT⟩ := hrel
      by_cases hlt : i < n
      · have hltz : (i : Int) < (n : Int) := by omega
        have hi00 : (0 : Int) ≤ (i : Int) := by omega
        go_wp2_with (at_builtin; refine wpList_append_own_at _ rfl _ _ 23 rfl W6.heap.size 2 i0 (.int .i64 0) 1 8 Tryd.underlying23 hi hz0 hz1 hz2 rfl (by decide) _ _ _ rfl (World.ownsRow.alloc hT.out.1.one _) ⟨wr.heap.size, 0, none⟩ 1 1 [.int .i64 y2] rfl rfl (cell_one_new _ _ _) ?c2 ?c3 ?c4 ?c5 ?_)
        case c2 => intro u hu; simp at hu; subst hu; rfl
        case c3 => unfold maxLen; omega
        case c4 => omega
        case c5 => have := hT.out.2.size; simp; omega
        intro va wa hown hgrow _ hatb
        have HBa : Hid (Below W6.heap.size W6 wa) := (hT.out.2.alloc hT.out.2.size _).grown hgrow (by have := hT.out.2.size; simp; omega) (fun k hk => (World.ownsRow.lt hT.out.1.one k hk).1)
        have TA := Lib.hid (TwI.push1 hT.out.1 hown hgrow (by simpa using hatb))
        clear hown hgrow hatb hT
        go_wp2_with (at_builtin; refine wpList_append_own_at _ rfl _ _ 23 rfl W6.heap.size 2 i0 (.int .i64 0) 1 8 Tryd.underlying23 hi hz0 hz1 hz2 rfl (by decide) _ _ _ rfl (World.ownsRow.alloc TA.out.two _) ⟨wa.heap.size, 0, none⟩ 1 1 [.int .i64 (y2 + 1)] rfl rfl (cell_one_new _ _ _) ?k2 ?k3 ?k4 ?k5 ?_)
        case k2 => intro u hu; simp at hu; subst hu; rfl
        case k3 => unfold maxLen; omega
        case k4 => omega
        case k5 => have := HBa.out.size; simp; omega
        intro vb wb hown hgrow _ hatb
        have HBb : Hid (Below W6.heap.size W6 wb) := (HBa.out.alloc HBa.out.size _).grown hgrow (by have := HBa.out.size; simp; omega) (fun k hk => (World.ownsRow.lt TA.out.two k hk).1)
        have TB := Lib.hid (TwI.push2 TA.out hown hgrow (by simpa using hatb))
        clear hown hgrow hatb TA HBa
        go_wp2_with fail
        go_roundw
        case rel => exact ⟨i + 1, by omega, by go_num, TB.out, HBb.out⟩
        case measure => simp [intOf]; omega
      · obtain rfl : n = i := by omega
        obtain ⟨a7, k7, e7, h7⟩ := hT.out.1.one.ints
        obtain ⟨a8, k8, e8, h8⟩ := hT.out.1.two.ints
        subst e7 e8
        have I7 := Lib.hid h7
        have I8 := Lib.hid h8
        replace HP := Lib.hid (yrow_below HP.out hT.out.2)
        replace HST := Lib.hid (HST.out.below hT.out.2)
        have BK2 := Lib.hid (BK.out.below hT.out.2)
        clear BK hT h7 h8
        have BK := BK2
        clear BK2
        go_wp2_with fail
        go_cut [10] (fun p V => ∃ gb za zb zc zd ze zk, p = .pointer (some ⟨gb, 0, none⟩) ∧ Hid (V.rowIs gb 61 6 (r6 (.int .i64 za) (.int .i64 zb) (.int .i64 zc) (.int .i64 zd) (.int .i64 ze) (.int .i64 zk)) ∧ RunIs cn c 1 St.allR v n f n (fun _ => y2) ⟨za, zb, zc, zd, ze, zk⟩ ∧ Below wr.heap.size wr V))
        case first =>
          refine wp_region_held_drew (S := fun V => Below wr.heap.size wr V) (by kernel_rfl) (Below.refl _ _).drew (fun hHeld => ?_)
          obtain ⟨Z, hZ⟩ : ∃ Z, Z = wr.drew := ⟨_, rfl⟩
          rw [← hZ] at hHeld ⊢
          clear hZ
          refine take_do (i := 0) (v := (stV qa cn qk (some ⟨gr, 0, none⟩) 1 1 v)) rfl (by kernel_rfl) (by kernel_rfl) (by kernel_rfl) (fun _ _ _ h => h) (by rfl) ?_ (by assumption) ?_
          · intro w hSw
            obtain ⟨⟨a0, a1, a2⟩, _⟩ := d3_cells (yrow_below HP.out hSw)
            go_simp
          simp only [Act.put, List.setIfInBounds_toArray, List.set_cons_zero, List.set_cons_succ]
          refine take_do (i := 1) (v := (.slice ia n ik)) rfl (by kernel_rfl) (by kernel_rfl) (by kernel_rfl) (fun _ _ _ h => h) (by rfl) ?_ (by assumption) ?_
          · intro w hSw
            skip
            go_simp
          simp only [Act.put, List.setIfInBounds_toArray, List.set_cons_zero, List.set_cons_succ]
          refine take_do (i := 3) (v := (.slice a7 n k7)) rfl (by kernel_rfl) (by kernel_rfl) (by kernel_rfl) (fun _ _ _ h => h) (by rfl) ?_ (by assumption) ?_
          · intro w hSw
            skip
            go_simp
          simp only [Act.put, List.setIfInBounds_toArray, List.set_cons_zero, List.set_cons_succ]
          refine wpAnyH_ready (rs := [2, 5]) (by kernel_rfl) (by simp) (AllReadyH.cons (at_drop (i := 2) rfl) (fun K2 hK => ?_) (AllReadyH.cons (at_drop (i := 5) rfl) (fun K2 hK => ?_) (AllReadyH.nil)))
          · go_simp
            refine (lwCopyF_any (BK.out.below hHeld).fi (by have := HN.out; omega)).mono ?_
            rintro e Z1 ⟨⟨ax, kx, rfl, hi2⟩, hb⟩
            have CI := Lib.hid hi2
            clear hi2
            go_wp2_with fail
            refine hK.out _ _ (hHeld.trans (hb.mono hHeld.size)) (fun hHeld2 => ?_)
            clear hK hHeld
            have hHeld := hHeld2
            clear hHeld2
            clear hb
            refine wpAnyH_ready (rs := [4, 5]) (by kernel_rfl) (by simp) (AllReadyH.cons (at_drop (i := 4) rfl) (fun K2 hK => ?_) (AllReadyH.cons (at_drop (i := 5) rfl) (fun K2 hK => ?_) (AllReadyH.nil)))
            · go_simp
              refine (implRun_any qa cn qk c (some ⟨gr, 0, none⟩) 1 1 St.allR v ax n kx f a7 n k7 (fun _ => y2) _ (HST.out.below hHeld) CI.out (I7.out.below hHeld) (by have := HN.out; omega) (by have := HN.out; omega) (BK.out.below hHeld).et.1 (BK.out.below hHeld).et.2).mono ?_
              rintro e Z2 ⟨⟨z, rfl, hz⟩, hb⟩
              obtain ⟨za, zb, zc, zd, ze, zk⟩ := z
              replace CI := Lib.hid (CI.out.below hb)
              go_wp2_with fail
              refine hK.out _ _ (hHeld.trans (hb.mono hHeld.size)) (fun hHeld2 => ?_)
              clear hK hHeld
              have hHeld := hHeld2
              clear hHeld2
              clear hb CI
              refine take_call (i := 5) rfl (by kernel_rfl) (fun K2 hK => ?_)
              obtain ⟨Z3, hZ3⟩ : ∃ Z3, Z3 = Z2.alloc (.cells #[.int .i64 0, .int .i64 0, .int .i64 0, .int .i64 0, .int .i64 0, .int .i64 0] 61) := ⟨_, rfl⟩
              have hb : Below Z2.heap.size Z2 Z3 := by rw [hZ3]; exact ybel_alloc _ _
              obtain ⟨gb, hgb⟩ : ∃ gb, gb = Z2.heap.size := ⟨_, rfl⟩
              have HZB : Hid (Z3.rowIs gb 61 6 (r6 (.int .i64 0) (.int .i64 0) (.int .i64 0) (.int .i64 0) (.int .i64 0) (.int .i64 0))) := by
                show World.rowIs _ _ _ _ _
                rw [hZ3, hgb]
                refine ⟨_, blk_alloc_new _ _, rfl, fun i hi => ?_⟩
                first | omega | (rcases two hi with rfl | rfl <;> rfl) | (rcases three hi with rfl | rfl | rfl <;> rfl) | (rcases six hi with rfl | rfl | rfl | rfl | rfl | rfl <;> rfl)
              have Ggb : Hid (wr.heap.size ≤ gb) := by show _ ≤ _; rw [hgb]; exact hHeld.size
              go_simp
              rw [← hZ3, ← hgb]
              refine hK.out _ _ (hHeld.trans (hb.mono hHeld.size)) (fun hHeld2 => ?_)
              clear hK hHeld
              have hHeld := hHeld2
              clear hHeld2
              clear hb hZ3 hgb
              obtain ⟨⟨o0, o1, o2, o3, o4, o5⟩, z0, z1, z2, z3, z4, z5⟩ := row6_cells HZB.out
              have l0 := HZB.out.lt
              obtain ⟨WZ, hWZ⟩ : ∃ WZ, WZ = ((((((Z3.setCell ⟨gb, 0, none⟩ (.int .i64 za)).setCell ⟨gb, 1, none⟩ (.int .i64 zb)).setCell ⟨gb, 2, none⟩ (.int .i64 zc)).setCell ⟨gb, 3, none⟩ (.int .i64 zd)).setCell ⟨gb, 4, none⟩ (.int .i64 ze)).setCell ⟨gb, 5, none⟩ (.int .i64 zk)) := ⟨_, rfl⟩
              have hbZ : Below wr.heap.size wr WZ := by rw [hWZ]; exact ((((((hHeld.setCell (p := ⟨gb, 0, none⟩) Ggb.out _).setCell (p := ⟨gb, 1, none⟩) Ggb.out _).setCell (p := ⟨gb, 2, none⟩) Ggb.out _).setCell (p := ⟨gb, 3, none⟩) Ggb.out _).setCell (p := ⟨gb, 4, none⟩) Ggb.out _).setCell (p := ⟨gb, 5, none⟩) Ggb.out _)
              have HFM : Hid (WZ.rowIs gb 61 6 (r6 (.int .i64 za) (.int .i64 zb) (.int .i64 zc) (.int .i64 zd) (.int .i64 ze) (.int .i64 zk))) := by show World.rowIs _ _ _ _ _; rw [hWZ]; exact row6_put HZB.out _ _ _ _ _ _
              have HWZ := Lib.hid hWZ
              have HBZ := Lib.hid hbZ
              clear hWZ hbZ
              refine take_call (i := 6) rfl (by kernel_rfl) (fun K2 hK => ?_)
              go_simp
              rw [← HWZ.out]
              refine hK.out _ _ HBZ.out (fun hHeld2 => ?_)
              clear hK hHeld hHeld2 HWZ o0 o1 o2 o3 o4 o5 z0 z1 z2 z3 z4 z5 l0
              refine wpAnyH_done (by kernel_rfl) ?_ _
              go_wp2_with fail
              go_meet
              case rel => exact ⟨gb, za, zb, zc, zd, ze, zk, rfl, HFM.out, hz.out, HBZ.out⟩
            · obtain ⟨Z4, hZ4⟩ : ∃ Z4, Z4 = Z1.alloc (.cells #[.int .i64 0, .int .i64 0, .int .i64 0, .int .i64 0, .int .i64 0, .int .i64 0] 61) := ⟨_, rfl⟩
              have hb : Below Z1.heap.size Z1 Z4 := by rw [hZ4]; exact ybel_alloc _ _
              obtain ⟨gb, hgb⟩ : ∃ gb, gb = Z1.heap.size := ⟨_, rfl⟩
              have HZB : Hid (Z4.rowIs gb 61 6 (r6 (.int .i64 0) (.int .i64 0) (.int .i64 0) (.int .i64 0) (.int .i64 0) (.int .i64 0))) := by
                show World.rowIs _ _ _ _ _
                rw [hZ4, hgb]
                refine ⟨_, blk_alloc_new _ _, rfl, fun i hi => ?_⟩
                first | omega | (rcases two hi with rfl | rfl <;> rfl) | (rcases three hi with rfl | rfl | rfl <;> rfl) | (rcases six hi with rfl | rfl | rfl | rfl | rfl | rfl <;> rfl)
              have Ggb : Hid (wr.heap.size ≤ gb) := by show _ ≤ _; rw [hgb]; exact hHeld.size
              replace CI := Lib.hid (CI.out.below hb)
              go_simp
              rw [← hZ4, ← hgb]
              refine hK.out _ _ (hHeld.trans (hb.mono hHeld.size)) (fun hHeld2 => ?_)
              clear hK hHeld
              have hHeld := hHeld2
              clear hHeld2
              clear hb hZ4 hgb
              refine take_call (i := 4) rfl (by kernel_rfl) (fun K2 hK => ?_)
              go_simp
              refine (implRun_any qa cn qk c (some ⟨gr, 0, none⟩) 1 1 St.allR v ax n kx f a7 n k7 (fun _ => y2) _ (HST.out.below hHeld) CI.out (I7.out.below hHeld) (by have := HN.out; omega) (by have := HN.out; omega) (BK.out.below hHeld).et.1 (BK.out.below hHeld).et.2).mono ?_
              rintro e Z5 ⟨⟨z, rfl, hz⟩, hb⟩
              obtain ⟨za, zb, zc, zd, ze, zk⟩ := z
              replace HZB := Lib.hid (yrow_below HZB.out hb)
              replace CI := Lib.hid (CI.out.below hb)
              go_wp2_with fail
              refine hK.out _ _ (hHeld.trans (hb.mono hHeld.size)) (fun hHeld2 => ?_)
              clear hK hHeld
              have hHeld := hHeld2
              clear hHeld2
              clear hb CI
              obtain ⟨⟨o0, o1, o2, o3, o4, o5⟩, z0, z1, z2, z3, z4, z5⟩ := row6_cells HZB.out
              have l0 := HZB.out.lt
              obtain ⟨WZ, hWZ⟩ : ∃ WZ, WZ = ((((((Z5.setCell ⟨gb, 0, none⟩ (.int .i64 za)).setCell ⟨gb, 1, none⟩ (.int .i64 zb)).setCell ⟨gb, 2, none⟩ (.int .i64 zc)).setCell ⟨gb, 3, none⟩ (.int .i64 zd)).setCell ⟨gb, 4, none⟩ (.int .i64 ze)).setCell ⟨gb, 5, none⟩ (.int .i64 zk)) := ⟨_, rfl⟩
              have hbZ : Below wr.heap.size wr WZ := by rw [hWZ]; exact ((((((hHeld.setCell (p := ⟨gb, 0, none⟩) Ggb.out _).setCell (p := ⟨gb, 1, none⟩) Ggb.out _).setCell (p := ⟨gb, 2, none⟩) Ggb.out _).setCell (p := ⟨gb, 3, none⟩) Ggb.out _).setCell (p := ⟨gb, 4, none⟩) Ggb.out _).setCell (p := ⟨gb, 5, none⟩) Ggb.out _)
              have HFM : Hid (WZ.rowIs gb 61 6 (r6 (.int .i64 za) (.int .i64 zb) (.int .i64 zc) (.int .i64 zd) (.int .i64 ze) (.int .i64 zk))) := by show World.rowIs _ _ _ _ _; rw [hWZ]; exact row6_put HZB.out _ _ _ _ _ _
              have HWZ := Lib.hid hWZ
              have HBZ := Lib.hid hbZ
              clear hWZ hbZ
              refine take_call (i := 6) rfl (by kernel_rfl) (fun K2 hK => ?_)
              go_simp
              rw [← HWZ.out]
              refine hK.out _ _ HBZ.out (fun hHeld2 => ?_)
              clear hK hHeld hHeld2 HWZ o0 o1 o2 o3 o4 o5 z0 z1 z2 z3 z4 z5 l0
              refine wpAnyH_done (by kernel_rfl) ?_ _
              go_wp2_with fail
              go_meet
              case rel => exact ⟨gb, za, zb, zc, zd, ze, zk, rfl, HFM.out, hz.out, HBZ.out⟩
          · obtain ⟨Z6, hZ6⟩ : ∃ Z6, Z6 = Z.alloc (.cells #[.int .i64 0, .int .i64 0, .int .i64 0, .int .i64 0, .int .i64 0, .int .i64 0] 61) := ⟨_, rfl⟩
            have hb : Below Z.heap.size Z Z6 := by rw [hZ6]; exact ybel_alloc _ _
            obtain ⟨gb, hgb⟩ : ∃ gb, gb = Z.heap.size := ⟨_, rfl⟩
            have HZB : Hid (Z6.rowIs gb 61 6 (r6 (.int .i64 0) (.int .i64 0) (.int .i64 0) (.int .i64 0) (.int .i64 0) (.int .i64 0))) := by
              show World.rowIs _ _ _ _ _
              rw [hZ6, hgb]
              refine ⟨_, blk_alloc_new _ _, rfl, fun i hi => ?_⟩
              first | omega | (rcases two hi with rfl | rfl <;> rfl) | (rcases three hi with rfl | rfl | rfl <;> rfl) | (rcases six hi with rfl | rfl | rfl | rfl | rfl | rfl <;> rfl)
            have Ggb : Hid (wr.heap.size ≤ gb) := by show _ ≤ _; rw [hgb]; exact hHeld.size
            go_simp
            rw [← hZ6, ← hgb]
            refine hK.out _ _ (hHeld.trans (hb.mono hHeld.size)) (fun hHeld2 => ?_)
            clear hK hHeld
            have hHeld := hHeld2
            clear hHeld2
            clear hb hZ6 hgb
            refine take_call (i := 2) rfl (by kernel_rfl) (fun K2 hK => ?_)
            go_simp
            refine (lwCopyF_any (BK.out.below hHeld).fi (by have := HN.out; omega)).mono ?_
            rintro e Z7 ⟨⟨ax, kx, rfl, hi2⟩, hb⟩
            replace HZB := Lib.hid (yrow_below HZB.out hb)
            have CI := Lib.hid hi2
            clear hi2
            go_wp2_with fail
            refine hK.out _ _ (hHeld.trans (hb.mono hHeld.size)) (fun hHeld2 => ?_)
            clear hK hHeld
            have hHeld := hHeld2
            clear hHeld2
            clear hb
            refine take_call (i := 4) rfl (by kernel_rfl) (fun K2 hK => ?_)
            go_simp
            refine (implRun_any qa cn qk c (some ⟨gr, 0, none⟩) 1 1 St.allR v ax n kx f a7 n k7 (fun _ => y2) _ (HST.out.below hHeld) CI.out (I7.out.below hHeld) (by have := HN.out; omega) (by have := HN.out; omega) (BK.out.below hHeld).et.1 (BK.out.below hHeld).et.2).mono ?_
            rintro e Z8 ⟨⟨z, rfl, hz⟩, hb⟩
            obtain ⟨za, zb, zc, zd, ze, zk⟩ := z
            replace HZB := Lib.hid (yrow_below HZB.out hb)
            replace CI := Lib.hid (CI.out.below hb)
            go_wp2_with fail
            refine hK.out _ _ (hHeld.trans (hb.mono hHeld.size)) (fun hHeld2 => ?_)
            clear hK hHeld
            have hHeld := hHeld2
            clear hHeld2
            clear hb CI
            obtain ⟨⟨o0, o1, o2, o3, o4, o5⟩, z0, z1, z2, z3, z4, z5⟩ := row6_cells HZB.out
            have l0 := HZB.out.lt
            obtain ⟨WZ, hWZ⟩ : ∃ WZ, WZ = ((((((Z8.setCell ⟨gb, 0, none⟩ (.int .i64 za)).setCell ⟨gb, 1, none⟩ (.int .i64 zb)).setCell ⟨gb, 2, none⟩ (.int .i64 zc)).setCell ⟨gb, 3, none⟩ (.int .i64 zd)).setCell ⟨gb, 4, none⟩ (.int .i64 ze)).setCell ⟨gb, 5, none⟩ (.int .i64 zk)) := ⟨_, rfl⟩
            have hbZ : Below wr.heap.size wr WZ := by rw [hWZ]; exact ((((((hHeld.setCell (p := ⟨gb, 0, none⟩) Ggb.out _).setCell (p := ⟨gb, 1, none⟩) Ggb.out _).setCell (p := ⟨gb, 2, none⟩) Ggb.out _).setCell (p := ⟨gb, 3, none⟩) Ggb.out _).setCell (p := ⟨gb, 4, none⟩) Ggb.out _).setCell (p := ⟨gb, 5, none⟩) Ggb.out _)
            have HFM : Hid (WZ.rowIs gb 61 6 (r6 (.int .i64 za) (.int .i64 zb) (.int .i64 zc) (.int .i64 zd) (.int .i64 ze) (.int .i64 zk))) := by show World.rowIs _ _ _ _ _; rw [hWZ]; exact row6_put HZB.out _ _ _ _ _ _
            have HWZ := Lib.hid hWZ
            have HBZ := Lib.hid hbZ
            clear hWZ hbZ
            refine take_call (i := 6) rfl (by kernel_rfl) (fun K2 hK => ?_)
            go_simp
            rw [← HWZ.out]
            refine hK.out _ _ HBZ.out (fun hHeld2 => ?_)
            clear hK hHeld hHeld2 HWZ o0 o1 o2 o3 o4 o5 z0 z1 z2 z3 z4 z5 l0
            refine wpAnyH_done (by kernel_rfl) ?_ _
            go_wp2_with fail
            go_meet
            case rel => exact ⟨gb, za, zb, zc, zd, ze, zk, rfl, HFM.out, hz.out, HBZ.out⟩
        case rest =>
          obtain ⟨ga, za, zb, zc, zd, ze, zk, rfl, hC⟩ := hcut
          obtain ⟨WC, hWC⟩ : ∃ WC, WC = wc := ⟨_, rfl⟩
          rw [← hWC] at hC ⊢
          clear hWC
          obtain ⟨hzk, hzd⟩ := HY.out.run _ hC.out.2.1
          simp only at hzk hzd
          subst hzk hzd
          have HA := Lib.hid hC.out.1
          replace HP := Lib.hid (yrow_below HP.out hC.out.2.2)
          replace HST := Lib.hid (HST.out.below hC.out.2.2)
          replace I8 := Lib.hid (I8.out.below hC.out.2.2)
          have BK2 := Lib.hid (BK.out.below hC.out.2.2)
          clear BK hC
          have BK := BK2
          clear BK2
          obtain ⟨⟨o0, o1, o2, o3, o4, o5⟩, _⟩ := row6_cells HA.out
          by_cases hmx : y2 = 1000000
          · go_wp2_with fail
            go_ret
            exact ⟨rfl, BK.out.bel⟩
          have hn0 : ¬ n = 0 := fun e => hmx (HY.out.nil e)
          have hn0z : ((n : Int) == 0) = false := by simpa using hn0
          have hmz : (y2 == 1000000) = false := by simpa using hmx
          go_wp2_with fail
          clear o0 o1 o2 o3 o4 o5
          go_cut [11] (fun p V => ∃ gb za zb zc zd ze zk, p = .pointer (some ⟨gb, 0, none⟩) ∧ Hid (V.rowIs gb 61 6 (r6 (.int .i64 za) (.int .i64 zb) (.int .i64 zc) (.int .i64 zd) (.int .i64 ze) (.int .i64 zk)) ∧ RunIs cn c 1 St.allR v n f n (fun _ => y2 + 1) ⟨za, zb, zc, zd, ze, zk⟩ ∧ Below WC.heap.size WC V))
          case first =>
            refine wp_region_held_drew (S := fun V => Below WC.heap.size WC V) (by kernel_rfl) (Below.refl _ _).drew (fun hHeld => ?_)
            obtain ⟨Z, hZ⟩ : ∃ Z, Z = WC.drew := ⟨_, rfl⟩
            rw [← hZ] at hHeld ⊢
            clear hZ
            refine take_do (i := 0) (v := (stV qa cn qk (some ⟨gr, 0, none⟩) 1 1 v)) rfl (by kernel_rfl) (by kernel_rfl) (by kernel_rfl) (fun _ _ _ h => h) (by rfl) ?_ (by assumption) ?_
            · intro w hSw
              obtain ⟨⟨a0, a1, a2⟩, _⟩ := d3_cells (yrow_below HP.out hSw)
              go_simp
            simp only [Act.put, List.setIfInBounds_toArray, List.set_cons_zero, List.set_cons_succ]
            refine take_do (i := 1) (v := (.slice ia n ik)) rfl (by kernel_rfl) (by kernel_rfl) (by kernel_rfl) (fun _ _ _ h => h) (by rfl) ?_ (by assumption) ?_
            · intro w hSw
              skip
              go_simp
            simp only [Act.put, List.setIfInBounds_toArray, List.set_cons_zero, List.set_cons_succ]
            refine take_do (i := 3) (v := (.slice a8 n k8)) rfl (by kernel_rfl) (by kernel_rfl) (by kernel_rfl) (fun _ _ _ h => h) (by rfl) ?_ (by assumption) ?_
            · intro w hSw
              skip
              go_simp
            simp only [Act.put, List.setIfInBounds_toArray, List.set_cons_zero, List.set_cons_succ]
            refine wpAnyH_ready (rs := [2, 5]) (by kernel_rfl) (by simp) (AllReadyH.cons (at_drop (i := 2) rfl) (fun K2 hK => ?_) (AllReadyH.cons (at_drop (i := 5) rfl) (fun K2 hK => ?_) (AllReadyH.nil)))
            · go_simp
              refine (lwCopyF_any (BK.out.below hHeld).fi (by have := HN.out; omega)).mono ?_
              rintro e Z9 ⟨⟨ax, kx, rfl, hi2⟩, hb⟩
              have CI := Lib.hid hi2
              clear hi2
              go_wp2_with fail
              refine hK.out _ _ (hHeld.trans (hb.mono hHeld.size)) (fun hHeld2 => ?_)
              clear hK hHeld
              have hHeld := hHeld2
              clear hHeld2
              clear hb
              refine wpAnyH_ready (rs := [4, 5]) (by kernel_rfl) (by simp) (AllReadyH.cons (at_drop (i := 4) rfl) (fun K2 hK => ?_) (AllReadyH.cons (at_drop (i := 5) rfl) (fun K2 hK => ?_) (AllReadyH.nil)))
              · go_simp
                refine (implRun_any qa cn qk c (some ⟨gr, 0, none⟩) 1 1 St.allR v ax n kx f a8 n k8 (fun _ => y2 + 1) _ (HST.out.below hHeld) CI.out (I8.out.below hHeld) (by have := HN.out; omega) (by have := HN.out; omega) (BK.out.below hHeld).et.1 (BK.out.below hHeld).et.2).mono ?_
                rintro e Z10 ⟨⟨z, rfl, hz⟩, hb⟩
                obtain ⟨za, zb, zc, zd, ze, zk⟩ := z
                replace CI := Lib.hid (CI.out.below hb)
                go_wp2_with fail
                refine hK.out _ _ (hHeld.trans (hb.mono hHeld.size)) (fun hHeld2 => ?_)
                clear hK hHeld
                have hHeld := hHeld2
                clear hHeld2
                clear hb CI
                refine take_call (i := 5) rfl (by kernel_rfl) (fun K2 hK => ?_)
                obtain ⟨Z11, hZ11⟩ : ∃ Z11, Z11 = Z10.alloc (.cells #[.int .i64 0, .int .i64 0, .int .i64 0, .int .i64 0, .int .i64 0, .int .i64 0] 61) := ⟨_, rfl⟩
                have hb : Below Z10.heap.size Z10 Z11 := by rw [hZ11]; exact ybel_alloc _ _
                obtain ⟨gb, hgb⟩ : ∃ gb, gb = Z10.heap.size := ⟨_, rfl⟩
                have HZB : Hid (Z11.rowIs gb 61 6 (r6 (.int .i64 0) (.int .i64 0) (.int .i64 0) (.int .i64 0) (.int .i64 0) (.int .i64 0))) := by
                  show World.rowIs _ _ _ _ _
                  rw [hZ11, hgb]
                  refine ⟨_, blk_alloc_new _ _, rfl, fun i hi => ?_⟩
                  first | omega | (rcases two hi with rfl | rfl <;> rfl) | (rcases three hi with rfl | rfl | rfl <;> rfl) | (rcases six hi with rfl | rfl | rfl | rfl | rfl | rfl <;> rfl)
                have Ggb : Hid (WC.heap.size ≤ gb) := by show _ ≤ _; rw [hgb]; exact hHeld.size
                go_simp
                rw [← hZ11, ← hgb]
                refine hK.out _ _ (hHeld.trans (hb.mono hHeld.size)) (fun hHeld2 => ?_)
                clear hK hHeld
                have hHeld := hHeld2
                clear hHeld2
                clear hb hZ11 hgb
                obtain ⟨⟨o0, o1, o2, o3, o4, o5⟩, z0, z1, z2, z3, z4, z5⟩ := row6_cells HZB.out
                have l0 := HZB.out.lt
                obtain ⟨WZ, hWZ⟩ : ∃ WZ, WZ = ((((((Z11.setCell ⟨gb, 0, none⟩ (.int .i64 za)).setCell ⟨gb, 1, none⟩ (.int .i64 zb)).setCell ⟨gb, 2, none⟩ (.int .i64 zc)).setCell ⟨gb, 3, none⟩ (.int .i64 zd)).setCell ⟨gb, 4, none⟩ (.int .i64 ze)).setCell ⟨gb, 5, none⟩ (.int .i64 zk)) := ⟨_, rfl⟩
                have hbZ : Below WC.heap.size WC WZ := by rw [hWZ]; exact ((((((hHeld.setCell (p := ⟨gb, 0, none⟩) Ggb.out _).setCell (p := ⟨gb, 1, none⟩) Ggb.out _).setCell (p := ⟨gb, 2, none⟩) Ggb.out _).setCell (p := ⟨gb, 3, none⟩) Ggb.out _).setCell (p := ⟨gb, 4, none⟩) Ggb.out _).setCell (p := ⟨gb, 5, none⟩) Ggb.out _)
                have HFM : Hid (WZ.rowIs gb 61 6 (r6 (.int .i64 za) (.int .i64 zb) (.int .i64 zc) (.int .i64 zd) (.int .i64 ze) (.int .i64 zk))) := by show World.rowIs _ _ _ _ _; rw [hWZ]; exact row6_put HZB.out _ _ _ _ _ _
                have HWZ := Lib.hid hWZ
                have HBZ := Lib.hid hbZ
                clear hWZ hbZ
                refine take_call (i := 6) rfl (by kernel_rfl) (fun K2 hK => ?_)
                go_simp
                rw [← HWZ.out]
                refine hK.out _ _ HBZ.out (fun hHeld2 => ?_)
                clear hK hHeld hHeld2 HWZ o0 o1 o2 o3 o4 o5 z0 z1 z2 z3 z4 z5 l0
                refine wpAnyH_done (by kernel_rfl) ?_ _
                go_wp2_with fail
                go_meet
                case rel => exact ⟨gb, za, zb, zc, zd, ze, zk, rfl, HFM.out, hz.out, HBZ.out⟩
              · obtain ⟨Z12, hZ12⟩ : ∃ Z12, Z12 = Z9.alloc (.cells #[.int .i64 0, .int .i64 0, .int .i64 0, .int .i64 0, .int .i64 0, .int .i64 0] 61) := ⟨_, rfl⟩
                have hb : Below Z9.heap.size Z9 Z12 := by rw [hZ12]; exact ybel_alloc _ _
                obtain ⟨gb, hgb⟩ : ∃ gb, gb = Z9.heap.size := ⟨_, rfl⟩
                have HZB : Hid (Z12.rowIs gb 61 6 (r6 (.int .i64 0) (.int .i64 0) (.int .i64 0) (.int .i64 0) (.int .i64 0) (.int .i64 0))) := by
                  show World.rowIs _ _ _ _ _
                  rw [hZ12, hgb]
                  refine ⟨_, blk_alloc_new _ _, rfl, fun i hi => ?_⟩
                  first | omega | (rcases two hi with rfl | rfl <;> rfl) | (rcases three hi with rfl | rfl | rfl <;> rfl) | (rcases six hi with rfl | rfl | rfl | rfl | rfl | rfl <;> rfl)
                have Ggb : Hid (WC.heap.size ≤ gb) := by show _ ≤ _; rw [hgb]; exact hHeld.size
                replace CI := Lib.hid (CI.out.below hb)
                go_simp
                rw [← hZ12, ← hgb]
                refine hK.out _ _ (hHeld.trans (hb.mono hHeld.size)) (fun hHeld2 => ?_)
                clear hK hHeld
                have hHeld := hHeld2
                clear hHeld2
                clear hb hZ12 hgb
                refine take_call (i := 4) rfl (by kernel_rfl) (fun K2 hK => ?_)
                go_simp
                refine (implRun_any qa cn qk c (some ⟨gr, 0, none⟩) 1 1 St.allR v ax n kx f a8 n k8 (fun _ => y2 + 1) _ (HST.out.below hHeld) CI.out (I8.out.below hHeld) (by have := HN.out; omega) (by have := HN.out; omega) (BK.out.below hHeld).et.1 (BK.out.below hHeld).et.2).mono ?_
                rintro e Z13 ⟨⟨z, rfl, hz⟩, hb⟩
                obtain ⟨za, zb, zc, zd, ze, zk⟩ := z
                replace HZB := Lib.hid (yrow_below HZB.out hb)
                replace CI := Lib.hid (CI.out.below hb)
                go_wp2_with fail
                refine hK.out _ _ (hHeld.trans (hb.mono hHeld.size)) (fun hHeld2 => ?_)
                clear hK hHeld
                have hHeld := hHeld2
                clear hHeld2
                clear hb CI
                obtain ⟨⟨o0, o1, o2, o3, o4, o5⟩, z0, z1, z2, z3, z4, z5⟩ := row6_cells HZB.out
                have l0 := HZB.out.lt
                obtain ⟨WZ, hWZ⟩ : ∃ WZ, WZ = ((((((Z13.setCell ⟨gb, 0, none⟩ (.int .i64 za)).setCell ⟨gb, 1, none⟩ (.int .i64 zb)).setCell ⟨gb, 2, none⟩ (.int .i64 zc)).setCell ⟨gb, 3, none⟩ (.int .i64 zd)).setCell ⟨gb, 4, none⟩ (.int .i64 ze)).setCell ⟨gb, 5, none⟩ (.int .i64 zk)) := ⟨_, rfl⟩
                have hbZ : Below WC.heap.size WC WZ := by rw [hWZ]; exact ((((((hHeld.setCell (p := ⟨gb, 0, none⟩) Ggb.out _).setCell (p := ⟨gb, 1, none⟩) Ggb.out _).setCell (p := ⟨gb, 2, none⟩) Ggb.out _).setCell (p := ⟨gb, 3, none⟩) Ggb.out _).setCell (p := ⟨gb, 4, none⟩) Ggb.out _).setCell (p := ⟨gb, 5, none⟩) Ggb.out _)
                have HFM : Hid (WZ.rowIs gb 61 6 (r6 (.int .i64 za) (.int .i64 zb) (.int .i64 zc) (.int .i64 zd) (.int .i64 ze) (.int .i64 zk))) := by show World.rowIs _ _ _ _ _; rw [hWZ]; exact row6_put HZB.out _ _ _ _ _ _
                have HWZ := Lib.hid hWZ
                have HBZ := Lib.hid hbZ
                clear hWZ hbZ
                refine take_call (i := 6) rfl (by kernel_rfl) (fun K2 hK => ?_)
                go_simp
                rw [← HWZ.out]
                refine hK.out _ _ HBZ.out (fun hHeld2 => ?_)
                clear hK hHeld hHeld2 HWZ o0 o1 o2 o3 o4 o5 z0 z1 z2 z3 z4 z5 l0
                refine wpAnyH_done (by kernel_rfl) ?_ _
                go_wp2_with fail
                go_meet
                case rel => exact ⟨gb, za, zb, zc, zd, ze, zk, rfl, HFM.out, hz.out, HBZ.out⟩
            · obtain ⟨Z14, hZ14⟩ : ∃ Z14, Z14 = Z.alloc (.cells #[.int .i64 0, .int .i64 0, .int .i64 0, .int .i64 0, .int .i64 0, .int .i64 0] 61) := ⟨_, rfl⟩
              have hb : Below Z.heap.size Z Z14 := by rw [hZ14]; exact ybel_alloc _ _
              obtain ⟨gb, hgb⟩ : ∃ gb, gb = Z.heap.size := ⟨_, rfl⟩
              have HZB : Hid (Z14.rowIs gb 61 6 (r6 (.int .i64 0) (.int .i64 0) (.int .i64 0) (.int .i64 0) (.int .i64 0) (.int .i64 0))) := by
                show World.rowIs _ _ _ _ _
                rw [hZ14, hgb]
                refine ⟨_, blk_alloc_new _ _, rfl, fun i hi => ?_⟩
                first | omega | (rcases two hi with rfl | rfl <;> rfl) | (rcases three hi with rfl | rfl | rfl <;> rfl) | (rcases six hi with rfl | rfl | rfl | rfl | rfl | rfl <;> rfl)
              have Ggb : Hid (WC.heap.size ≤ gb) := by show _ ≤ _; rw [hgb]; exact hHeld.size
              go_simp
              rw [← hZ14, ← hgb]
              refine hK.out _ _ (hHeld.trans (hb.mono hHeld.size)) (fun hHeld2 => ?_)
              clear hK hHeld
              have hHeld := hHeld2
              clear hHeld2
              clear hb hZ14 hgb
              refine take_call (i := 2) rfl (by kernel_rfl) (fun K2 hK => ?_)
              go_simp
              refine (lwCopyF_any (BK.out.below hHeld).fi (by have := HN.out; omega)).mono ?_
              rintro e Z15 ⟨⟨ax, kx, rfl, hi2⟩, hb⟩
              replace HZB := Lib.hid (yrow_below HZB.out hb)
              have CI := Lib.hid hi2
              clear hi2
              go_wp2_with fail
              refine hK.out _ _ (hHeld.trans (hb.mono hHeld.size)) (fun hHeld2 => ?_)
              clear hK hHeld
              have hHeld := hHeld2
              clear hHeld2
              clear hb
              refine take_call (i := 4) rfl (by kernel_rfl) (fun K2 hK => ?_)
              go_simp
              refine (implRun_any qa cn qk c (some ⟨gr, 0, none⟩) 1 1 St.allR v ax n kx f a8 n k8 (fun _ => y2 + 1) _ (HST.out.below hHeld) CI.out (I8.out.below hHeld) (by have := HN.out; omega) (by have := HN.out; omega) (BK.out.below hHeld).et.1 (BK.out.below hHeld).et.2).mono ?_
              rintro e Z16 ⟨⟨z, rfl, hz⟩, hb⟩
              obtain ⟨za, zb, zc, zd, ze, zk⟩ := z
              replace HZB := Lib.hid (yrow_below HZB.out hb)
              replace CI := Lib.hid (CI.out.below hb)
              go_wp2_with fail
              refine hK.out _ _ (hHeld.trans (hb.mono hHeld.size)) (fun hHeld2 => ?_)
              clear hK hHeld
              have hHeld := hHeld2
              clear hHeld2
              clear hb CI
              obtain ⟨⟨o0, o1, o2, o3, o4, o5⟩, z0, z1, z2, z3, z4, z5⟩ := row6_cells HZB.out
              have l0 := HZB.out.lt
              obtain ⟨WZ, hWZ⟩ : ∃ WZ, WZ = ((((((Z16.setCell ⟨gb, 0, none⟩ (.int .i64 za)).setCell ⟨gb, 1, none⟩ (.int .i64 zb)).setCell ⟨gb, 2, none⟩ (.int .i64 zc)).setCell ⟨gb, 3, none⟩ (.int .i64 zd)).setCell ⟨gb, 4, none⟩ (.int .i64 ze)).setCell ⟨gb, 5, none⟩ (.int .i64 zk)) := ⟨_, rfl⟩
              have hbZ : Below WC.heap.size WC WZ := by rw [hWZ]; exact ((((((hHeld.setCell (p := ⟨gb, 0, none⟩) Ggb.out _).setCell (p := ⟨gb, 1, none⟩) Ggb.out _).setCell (p := ⟨gb, 2, none⟩) Ggb.out _).setCell (p := ⟨gb, 3, none⟩) Ggb.out _).setCell (p := ⟨gb, 4, none⟩) Ggb.out _).setCell (p := ⟨gb, 5, none⟩) Ggb.out _)
              have HFM : Hid (WZ.rowIs gb 61 6 (r6 (.int .i64 za) (.int .i64 zb) (.int .i64 zc) (.int .i64 zd) (.int .i64 ze) (.int .i64 zk))) := by show World.rowIs _ _ _ _ _; rw [hWZ]; exact row6_put HZB.out _ _ _ _ _ _
              have HWZ := Lib.hid hWZ
              have HBZ := Lib.hid hbZ
              clear hWZ hbZ
              refine take_call (i := 6) rfl (by kernel_rfl) (fun K2 hK => ?_)
              go_simp
              rw [← HWZ.out]
              refine hK.out _ _ HBZ.out (fun hHeld2 => ?_)
              clear hK hHeld hHeld2 HWZ o0 o1 o2 o3 o4 o5 z0 z1 z2 z3 z4 z5 l0
              refine wpAnyH_done (by kernel_rfl) ?_ _
              go_wp2_with fail
              go_meet
              case rel => exact ⟨gb, za, zb, zc, zd, ze, zk, rfl, HFM.out, hz.out, HBZ.out⟩
          case rest =>
            obtain ⟨gd, xa, xb, xc, xd, xe, xk, rfl, hC⟩ := hcut
            obtain ⟨WD, hWD⟩ : ∃ WD, WD = wc := ⟨_, rfl⟩
            rw [← hWD] at hC ⊢
            clear hWD
            obtain ⟨hxk, hxd⟩ := HY.out.more hmx _ hC.out.2.1
            simp only at hxk hxd
            subst hxk
            have HE := Lib.hid (BK.out.below hC.out.2.2)
            obtain ⟨⟨o0, o1, o2, o3, o4, o5⟩, _⟩ := row6_cells hC.out.1
            clear hC
            go_wp2_with fail
            go_ret
            exact ⟨rfl, HE.out.bel⟩
theorem yield_all (w : World) (a : Option Addr) (len cap : Nat) (h : Bytes a len w) (_hm : len ≤ 9223372036854775807) (hg : Et w ∧ TabOk w) :
    Calls Tryd.prog 10 #[.slice a len cap] w fun e w' => e = .returned (.bool true) ∧ Below w.heap.size w w' := by
  by_cases hl : len ≤ 1048576
  · exact yield_law a len cap w h hl hg
  · have hz : (1048576 : Int) < (len : Int) := by omega
    go_enter Tryd.func10, Tryd.ntmps10
    go_wp2_with fail
    go_ret
    exact ⟨rfl, Below.refl _ _⟩
end Go.Proofs.YtdpghhmcibiplaaDoor
