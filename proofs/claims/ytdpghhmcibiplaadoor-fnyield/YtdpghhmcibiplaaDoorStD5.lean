/-
  The draw of a store with its inflows.
-/
import Derived.Test.YtdpghhmcibiplaaDoorStD4
namespace Go.Proofs.YtdpghhmcibiplaaDoor
open Go.RowKit Go.Deep

/-- What a drawn store with its inflows looks like. -/
def DyEnd (w : World) (e : Ending) (W : World) : Prop := ∃ ca cn ck ra rn rk v c r vi ni fi, e = .returned (.tuple #[.agg #[.slice ca cn ck, .slice ra rn rk, .int .i64 v], vi]) ∧ (PrsAt ca cn c W ∧ PrsAt ra rn r W) ∧ (FlS w.heap.size vi ni fi W ∧ ni ≤ 16) ∧ Below w.heap.size w W
set_option maxRecDepth 100000 in
set_option maxHeartbeats 4000000 in
theorem drawYield_any (a : Option Addr) (len cap : Nat) (w : World) (h : Bytes a len w) (hl : len ≤ 1048576) :
    Calls Tryd.prog 46 #[.slice a len cap] w fun e w' => DyEnd w e w' := by
  obtain ⟨W0, hW0⟩ : ∃ W0, W0 = w.alloc (.cells #[.slice none 0 0, .slice none 0 0, .int .i64 0] 66) := ⟨_, rfl⟩
  have hb0 : Below w.heap.size w W0 := by rw [hW0]; exact (Below.refl _ _).alloc (Nat.le_refl _) _
  have hr0 : W0.rowIs w.heap.size 66 3 (d3 (.slice none 0 0) (.slice none 0 0) (.int .i64 0)) := by rw [hW0]; exact drow3 w _ _ _ _
  have H := Lib.hid (h.below hb0)
  have HW0 := Lib.hid hW0
  have HB0 := Lib.hid hb0
  have HR0 := Lib.hid hr0
  clear h hW0 hb0 hr0
  go_enter Tryd.func46, Tryd.ntmps46
  go_wp2_with fail
  rw [← HW0.out]
  refine (source_any a len cap _ H.out (by omega)).mono ?_
  rintro e W1 ⟨rfl, hsrc, hb1⟩
  obtain ⟨sb, hsb⟩ : ∃ sb, sb = W0.heap.size := ⟨_, rfl⟩
  rw [← hsb] at hsrc ⊢
  have HB1 : Hid (Below w.heap.size w W1) := HB0.out.trans (hb1.mono HB0.out.size)
  have HR1 : Hid (W1.rowIs w.heap.size 66 3 (d3 (.slice none 0 0) (.slice none 0 0) (.int .i64 0))) := HR0.out.of_block (hb1.block _ HR0.out.lt)
  have HN1 : Hid (w.heap.size < sb ∧ sb < W1.heap.size) := ⟨by rw [hsb]; exact HR0.out.lt, hsrc.lt⟩
  have HS1 := Lib.hid hsrc
  clear hsb hb1 hsrc
  go_wp2_with fail
  refine (store_any sb _ HS1.out).mono ?_
  rintro e W2 ⟨ca, cn, ck, ra, rn, rk, v, c, r, rfl, hbd, ⟨hpc, hpr⟩, hdr⟩
  obtain ⟨W3, hW3⟩ : ∃ W3, W3 = W2.alloc (.cells #[.slice ca cn ck, .slice ra rn rk, .int .i64 v] 66) := ⟨_, rfl⟩
  have HDR : Hid (DR w sb W1.heap.size W2.heap.size ca cn ck ra rn rk v c r W3) := by
    have hb3 : Below W2.heap.size W2 W3 := by rw [hW3]; exact (Below.refl _ _).alloc (Nat.le_refl _) _
    have hn := HN1.out
    refine ⟨(HR1.out.of_block (hdr.2.2.2.2.2 _ HR1.out.lt (by omega))).of_block (hb3.block _ (by have := hdr.2.size; have := HR1.out.lt; omega)), ?_, hpc.same (fun k _ hl => hb3.block k hl), hpr.same (fun k _ hl => hb3.block k hl), hdr.1.below hb3, (HB1.out.trans (hdr.2.below (by omega) HB1.out.size)).trans (hb3.mono (HB1.out.trans (hdr.2.below (by omega) HB1.out.size)).size), hn.1, hn.2, hdr.2.size⟩
    rw [hW3]; exact drow3 W2 _ _ _ _
  obtain ⟨sz, hsz, sz0, sz1⟩ := HDR.out.src.size
  have HW3 := Lib.hid hW3
  clear hW3 hbd hpc hpr hdr
  go_wp2_with fail
  rw [← HW3.out]
  refine wp_region_held_drew (S := BxR W2.heap.size (d3 (.slice ca cn ck) (.slice ra rn rk) (.int .i64 v))) (by kernel_rfl) (World.rowIs.of_block HDR.out.box rfl) (fun hHeld => ?_)
  have D4 : Hid (DR w sb W1.heap.size W2.heap.size ca cn ck ra rn rk v c r W3.drew) := HDR.out.draw ⟨HDR.out.src, Chg.refl _ _⟩
  obtain ⟨W4, hW4⟩ : ∃ W4, W4 = W3.drew := ⟨_, rfl⟩
  have hs4 : W4.cell? ⟨sb, 3, none⟩ = some (.int .i64 sz) := by rw [hW4]; exact hsz
  rw [← hW4] at hHeld D4 ⊢
  clear hW4 hsz HDR HW3
  refine take_do (i := 0) (v := (.agg #[.slice ca cn ck, .slice ra rn rk, .int .i64 v])) rfl (by kernel_rfl) (by kernel_rfl) (by kernel_rfl) (fun _ _ _ h => h) (by rfl) ?_ (by assumption) ?_
  · intro w hSw
    obtain ⟨⟨a0, a1, a2⟩, _⟩ := d3_cells hSw
    go_simp
  simp only [Act.put, List.setIfInBounds_toArray, List.set_cons_zero, List.set_cons_succ]
  refine take_do (i := 1) (v := (.pointer (some ⟨sb, 0, none⟩))) rfl (by kernel_rfl) (by kernel_rfl) (by kernel_rfl) (fun _ _ _ h => h) (by rfl) ?_ (by assumption) ?_
  · intro w hSw
    obtain ⟨⟨a0, a1, a2⟩, _⟩ := d3_cells hSw
    go_simp
  simp only [Act.put, List.setIfInBounds_toArray, List.set_cons_zero, List.set_cons_succ]
  refine take_do (i := 2) (v := (.pointer (some ⟨sb, 0, none⟩))) rfl (by kernel_rfl) (by kernel_rfl) (by kernel_rfl) (fun _ _ _ h => h) (by rfl) ?_ (by assumption) ?_
  · intro w hSw
    obtain ⟨⟨a0, a1, a2⟩, _⟩ := d3_cells hSw
    go_simp
  simp only [Act.put, List.setIfInBounds_toArray, List.set_cons_zero, List.set_cons_succ]
  refine take_do (i := 3) (v := (.pointer (some ⟨sb, 0, none⟩))) rfl (by kernel_rfl) (by kernel_rfl) (by kernel_rfl) (fun _ _ _ h => h) (by rfl) ?_ (by assumption) ?_
  · intro w hSw
    obtain ⟨⟨a0, a1, a2⟩, _⟩ := d3_cells hSw
    go_simp
  simp only [Act.put, List.setIfInBounds_toArray, List.set_cons_zero, List.set_cons_succ]
  refine take_do (i := 4) (v := (.pointer (some ⟨sb, 0, none⟩))) rfl (by kernel_rfl) (by kernel_rfl) (by kernel_rfl) (fun _ _ _ h => h) (by rfl) ?_ (by assumption) ?_
  · intro w hSw
    obtain ⟨⟨a0, a1, a2⟩, _⟩ := d3_cells hSw
    go_simp
  simp only [Act.put, List.setIfInBounds_toArray, List.set_cons_zero, List.set_cons_succ]
  refine take_do (i := 5) (v := (.pointer (some ⟨sb, 3, none⟩))) rfl (by kernel_rfl) (by kernel_rfl) (by kernel_rfl) (fun _ _ _ h => h) (by rfl) ?_ (by assumption) ?_
  · intro w hSw
    obtain ⟨⟨a0, a1, a2⟩, _⟩ := d3_cells hSw
    go_simp
  simp only [Act.put, List.setIfInBounds_toArray, List.set_cons_zero, List.set_cons_succ]
  refine take_call (i := 6) rfl (by kernel_rfl) (fun K2 hK => ?_)
  go_simp
  refine hK.out _ _ hHeld (fun hHeld2 => ?_)
  clear hK hHeld2 hs4
  refine take_do (i := 7) (v := (.int .i64 (4 + sz))) rfl (by kernel_rfl) (by kernel_rfl) (by kernel_rfl) (fun _ _ _ h => h) (by rfl) ?_ (by assumption) ?_
  · intro w hSw
    obtain ⟨⟨a0, a1, a2⟩, _⟩ := d3_cells hSw
    go_simp
    simp [IntKind.wrap, IntKind.bits, IntKind.signed]; omega
  simp only [Act.put, List.setIfInBounds_toArray, List.set_cons_zero, List.set_cons_succ]
  refine take_call (i := 8) rfl (by kernel_rfl) (fun K2 hK => ?_)
  go_simp
  refine (n_any sb (4 + sz) _ D4.out.src (by omega)).mono ?_
  rintro e W5 ⟨⟨q1, rfl, q10, q11, q12⟩, hDr⟩
  have q13 : q1 ≤ 16 := by
    by_cases hq : 1 < 4 + sz
    · have := q11 hq; omega
    · omega
  have D5 := Lib.hid (D4.out.draw hDr)
  obtain ⟨M, hM⟩ : ∃ M : Nat, q1 = (M : Int) := ⟨q1.toNat, by omega⟩
  subst hM
  have hM16 : M ≤ 16 := by omega
  clear hDr q11 q12 D4 q10 q13
  go_wp2_with fail
  refine hK.out _ _ D5.out.box (fun hHeld2 => ?_)
  clear hK hHeld hHeld2
  refine take_call (i := 9) rfl (by kernel_rfl) (fun K2 hK => ?_)
  go_simp
  refine (flows_drawn sb M (by omega) _ D5.out.src).mono ?_
  rintro e WA ⟨vw, rfl, ys, hyl, hil⟩
  have DA := Lib.hid (D5.out.draw hil.2.1)
  have FB : Hid (FlS W5.heap.size vw ys.length (inList ys) WA) := fl_of hil
  have HLT : Hid (w.heap.size < W5.heap.size ∧ sb < W5.heap.size) := ⟨by have := D5.out.num; have := D5.out.src.lt; omega, D5.out.src.lt⟩
  obtain ⟨vwa, vwk, hvw⟩ := ownShape hil.1
  subst hvw
  clear hil D5
  go_wp2_with fail
  refine hK.out _ _ DA.out.box (fun hHeld2 => ?_)
  clear hK hHeld2
  obtain ⟨⟨y0, y1, y2⟩, q0, q1, q2⟩ := d3_cells DA.out.res
  refine take_call (i := 10) rfl (by kernel_rfl) (fun K2 hK => ?_)
  go_simp
  have HQ : Hid (∀ k, k ≠ w.heap.size → (((WA.setCell ⟨w.heap.size, 0, none⟩ (.slice ca cn ck)).setCell ⟨w.heap.size, 1, none⟩ (.slice ra rn rk)).setCell ⟨w.heap.size, 2, none⟩ (.int .i64 v)).heap[k]? = WA.heap[k]?) := fun k hk => ((Below.heap_setCell _ _ _ _ hk).trans (Below.heap_setCell _ _ _ _ hk)).trans (Below.heap_setCell _ _ _ _ hk)
  have hn := DA.out.num
  have HE : Hid (DyEnd w (.returned (.tuple #[.agg #[.slice ca cn ck, .slice ra rn rk, .int .i64 v], .slice vwa ys.length vwk])) (((WA.setCell ⟨w.heap.size, 0, none⟩ (.slice ca cn ck)).setCell ⟨w.heap.size, 1, none⟩ (.slice ra rn rk)).setCell ⟨w.heap.size, 2, none⟩ (.int .i64 v))) := by
    refine ⟨ca, cn, ck, ra, rn, rk, v, c, r, _, ys.length, inList ys, rfl, ⟨?_, ?_⟩, ⟨?_, ?_⟩, ?_⟩
    · exact (DA.out.pc.same (fun k hk _ => HQ.out k (by omega))).at_
    · exact (DA.out.pr.same (fun k hk _ => HQ.out k (by omega))).at_
    · exact (FB.out.same (fun k hk _ => HQ.out k (by have := HLT.out; omega))).lower (Nat.le_of_lt HLT.out.1)
    · omega
    · exact ((DA.out.bel.setCell (Nat.le_refl _) _).setCell (Nat.le_refl _) _).setCell (Nat.le_refl _) _
  refine hK.out _ _ (World.rowIs.of_block DA.out.box (HQ.out _ (by omega))) (fun hHeld2 => ?_)
  clear hK
  refine take_do (i := 11) (v := (.slice vwa M vwk)) rfl (by kernel_rfl) (by kernel_rfl) (by kernel_rfl) (fun _ _ _ h => h) (by rfl) ?_ (by assumption) ?_
  · intro w hSw
    go_simp
  simp only [Act.put, List.setIfInBounds_toArray, List.set_cons_zero, List.set_cons_succ]
  clear hn
  refine wpAnyH_done (by kernel_rfl) ?_ _
  rw [hyl] at HE
  go_wp2_with fail
  refine bodyPost_ret (v := .tuple #[.agg #[.slice ca cn ck, .slice ra rn rk, .int .i64 v], .slice vwa M vwk]) ?_ rfl HE.out
  simp [results, Tryd.results46, go_sem, y0, y1, y2]
end Go.Proofs.YtdpghhmcibiplaaDoor
