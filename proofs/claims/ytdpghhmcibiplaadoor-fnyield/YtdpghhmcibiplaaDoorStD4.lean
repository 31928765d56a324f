/-
  The draw of a store with its flows.
-/
import Derived.Test.YtdpghhmcibiplaaDoorStD3
namespace Go.Proofs.YtdpghhmcibiplaaDoor
open Go.RowKit Go.Deep

/-- Numbers of a call's own. -/
def OwnInts (B g n : Nat) (f : Nat → Int) (W : World) : Prop := InBlk g n f W ∧ B ≤ g
theorem il_own {w : World} {sb : Nat} {v : Value} {zs : List Int} {W : World} (h : IL w sb v zs W) : (v = .slice none 0 0 ∧ zs = []) ∨ ∃ g c, v = .slice (some ⟨g, 0, none⟩) zs.length c ∧ OwnInts w.heap.size g zs.length (inList zs) W := by
  rcases own_ints h.1 with h1 | ⟨g, c, e, hg, hb⟩
  · exact Or.inl h1
  · exact Or.inr ⟨g, c, e, hb, hg⟩
/-- A list that was drawn lies in a block (it may be empty). -/
def FlS (B : Nat) (v : Value) (n : Nat) (f : Nat → Int) (W : World) : Prop := ∃ a c, v = .slice a n c ∧ ((n = 0 ∧ a = none ∧ c = 0) ∨ ∃ g, a = some ⟨g, 0, none⟩ ∧ B ≤ g ∧ InBlk g n f W)
theorem fl_of {w : World} {sb : Nat} {v : Value} {zs : List Int} {W : World} (h : IL w sb v zs W) : FlS w.heap.size v zs.length (inList zs) W := by
  rcases own_ints h.1 with ⟨e, h1⟩ | ⟨g, c, e, hg, hb⟩
  · subst h1; exact ⟨none, 0, e, Or.inl ⟨rfl, rfl, rfl⟩⟩
  · exact ⟨_, c, e, Or.inr ⟨g, rfl, hg, hb⟩⟩
theorem FlS.same {B n : Nat} {v : Value} {f : Nat → Int} {W W' : World} (h : FlS B v n f W) (hb : ∀ k, B ≤ k → k < W.heap.size → W'.heap[k]? = W.heap[k]?) : FlS B v n f W' := by
  obtain ⟨a, c, e, h⟩ := h
  rcases h with h | ⟨g, e1, hg, h⟩
  · exact ⟨a, c, e, Or.inl h⟩
  · exact ⟨a, c, e, Or.inr ⟨g, e1, hg, h.block (hb g hg h.lt)⟩⟩
theorem FlS.lower {B B' n : Nat} {v : Value} {f : Nat → Int} {W : World} (h : FlS B v n f W) (hb : B' ≤ B) : FlS B' v n f W := by
  obtain ⟨a, c, e, h⟩ := h
  exact ⟨a, c, e, h.elim Or.inl (fun ⟨g, e1, hg, h⟩ => Or.inr ⟨g, e1, by omega, h⟩)⟩
theorem ownPrs_lower {B B' : Nat} {a : Option Addr} {n : Nat} {ps : Nat → St.Pr} {W : World} (h : OwnPrs B a n ps W) (hb : B' ≤ B) : OwnPrs B' a n ps W := h.elim Or.inl (fun ⟨g, e, hg, h⟩ => Or.inr ⟨g, e, by omega, h⟩)
/-- What stands while a run is drawn. -/
structure DR (w : World) (sb B bX : Nat) (ca : Option Addr) (cn ck : Nat) (ra : Option Addr) (rn rk : Nat) (v : Int) (c r : Nat → St.Pr) (W : World) : Prop where
  res : W.rowIs w.heap.size 66 3 (d3 (.slice none 0 0) (.slice none 0 0) (.int .i64 0))
  box : W.rowIs bX 66 3 (d3 (.slice ca cn ck) (.slice ra rn rk) (.int .i64 v))
  pc : OwnPrs B ca cn c W
  pr : OwnPrs B ra rn r W
  src : Src sb W
  bel : Below w.heap.size w W
  num : w.heap.size < sb ∧ sb < B ∧ B ≤ bX
theorem DR.draw {w : World} {sb B bX : Nat} {ca : Option Addr} {cn ck : Nat} {ra : Option Addr} {rn rk : Nat} {v : Int} {c r : Nat → St.Pr} {W W' : World} (h : DR w sb B bX ca cn ck ra rn rk v c r W) (hd : Drew sb W W') : DR w sb B bX ca cn ck ra rn rk v c r W' := by
  have hn := h.num
  have blk : ∀ k, k < W.heap.size → k ≠ sb → W'.heap[k]? = W.heap[k]? := hd.2.2.2.2.2
  exact ⟨h.res.of_block (blk _ h.res.lt (by omega)), h.box.of_block (blk _ h.box.lt (by omega)), h.pc.same (fun k hk hl => blk k hl (by omega)), h.pr.same (fun k hk hl => blk k hl (by omega)), hd.1, h.bel.trans (hd.2.below (by omega) (h.bel.size)), h.num⟩
theorem FlS.draw {B n sb : Nat} {v : Value} {f : Nat → Int} {W W' : World} (h : FlS B v n f W) (hd : Drew sb W W') (hs : sb < B) : FlS B v n f W' := h.same (fun k hk hl => hd.2.2.2.2.2 k hl (by omega))
theorem Src.size {sb : Nat} {W : World} (h : Src sb W) : ∃ z : Int, W.cell? ⟨sb, 3, none⟩ = some (.int .i64 z) ∧ 0 ≤ z ∧ z ≤ 12 := by
  obtain ⟨a, len, cap, at_, mix, size, ⟨c0, c1, c2, c3, f0, f1, f2, f3⟩, h1, h2, h3, h4, h5, h6⟩ := h
  exact ⟨size, c3, h4, h5⟩
def BxR (bX : Nat) (A : Nat → Value) (W : World) : Prop := W.rowIs bX 66 3 A
/-- What a drawn run looks like. -/
def DrEnd (w : World) (e : Ending) (W : World) : Prop := ∃ ca cn ck ra rn rk v c r vi ni fi vw nw fw, e = .returned (.tuple #[.agg #[.slice ca cn ck, .slice ra rn rk, .int .i64 v], vi, vw]) ∧ (PrsAt ca cn c W ∧ PrsAt ra rn r W) ∧ (FlS w.heap.size vi ni fi W ∧ ni ≤ 1000) ∧ (FlS w.heap.size vw nw fw W ∧ nw ≤ 1000) ∧ Below w.heap.size w W
set_option maxRecDepth 100000 in
set_option maxHeartbeats 4000000 in
theorem drawRun_any (a : Option Addr) (len cap : Nat) (w : World) (h : Bytes a len w) (hl : len ≤ 1048576) :
    Calls Tryd.prog 45 #[.slice a len cap] w fun e w' => DrEnd w e w' := by
  obtain ⟨W0, hW0⟩ : ∃ W0, W0 = w.alloc (.cells #[.slice none 0 0, .slice none 0 0, .int .i64 0] 66) := ⟨_, rfl⟩
  have hb0 : Below w.heap.size w W0 := by rw [hW0]; exact (Below.refl _ _).alloc (Nat.le_refl _) _
  have hr0 : W0.rowIs w.heap.size 66 3 (d3 (.slice none 0 0) (.slice none 0 0) (.int .i64 0)) := by rw [hW0]; exact drow3 w _ _ _ _
  have H := Lib.hid (h.below hb0)
  have HW0 := Lib.hid hW0
  have HB0 := Lib.hid hb0
  have HR0 := Lib.hid hr0
  clear h hW0 hb0 hr0
  go_enter Tryd.func45, Tryd.ntmps45
  go_wp2_with fail
  rw [← HW0.out]
  refine (source_any a len cap _ H.out (by omega)).mono ?_
  rintro e W1 ⟨rfl, hsrc, hb1⟩
  obtain ⟨sb, hsb⟩ : ∃ sb, sb = W0.heap.size := ⟨_, rfl⟩
  rw [← hsb] at hsrc ⊢
  have HB1 : Hid (Below w.heap.size w W1) := HB0.out.trans (hb1.mono HB0.out.size)
  have HR1 : Hid (W1.rowIs w.heap.size 66 3 (d3 (.slice none 0 0) (.slice none 0 0) (.int .i64 0))) := HR0.out.of_block (hb1.block _ HR0.out.lt)
  have HN1 : Hid (w.heap.size < sb ∧ sb < W1.heap.size) := ⟨by rw [hsb]; exact HR0.out.lt, hsrc.lt⟩
  have HS1 := Lib.hid hsrc
  clear hsb hb1 hsrc
  go_wp2_with fail
  refine (store_any sb _ HS1.out).mono ?_
  rintro e W2 ⟨ca, cn, ck, ra, rn, rk, v, c, r, rfl, hbd, ⟨hpc, hpr⟩, hdr⟩
  obtain ⟨W3, hW3⟩ : ∃ W3, W3 = W2.alloc (.cells #[.slice ca cn ck, .slice ra rn rk, .int .i64 v] 66) := ⟨_, rfl⟩
  have HDR : Hid (DR w sb W1.heap.size W2.heap.size ca cn ck ra rn rk v c r W3) := by
    have hb3 : Below W2.heap.size W2 W3 := by rw [hW3]; exact (Below.refl _ _).alloc (Nat.le_refl _) _
    have hn := HN1.out
    refine ⟨(HR1.out.of_block (hdr.2.2.2.2.2 _ HR1.out.lt (by omega))).of_block (hb3.block _ (by have := hdr.2.size; have := HR1.out.lt; omega)), ?_, hpc.same (fun k _ hl => hb3.block k hl), hpr.same (fun k _ hl => hb3.block k hl), hdr.1.below hb3, (HB1.out.trans (hdr.2.below (by omega) HB1.out.size)).trans (hb3.mono (HB1.out.trans (hdr.2.below (by omega) HB1.out.size)).size), hn.1, hn.2, hdr.2.size⟩
    rw [hW3]; exact drow3 W2 _ _ _ _
  obtain ⟨sz, hsz, sz0, sz1⟩ := HDR.out.src.size
  have HW3 := Lib.hid hW3
  obtain ⟨szq, hszq, _, _⟩ := hdr.1.size
  have hlt2 : sb < W2.heap.size := hdr.1.lt
  have hsame : szq = sz := by
    have h1 : W3.cell? ⟨sb, 3, none⟩ = some (.int .i64 szq) := by rw [hW3]; exact (((Below.refl W2.heap.size W2).alloc (Nat.le_refl _) _).cell (p := ⟨sb, 3, none⟩) hlt2).trans hszq
    rw [hsz] at h1
    simpa using h1.symm
  rw [hsame] at hszq
  clear hW3 hbd hpc hpr hdr hsz hsame
  go_wp2_with fail
  rw [← HW3.out]
  clear hszq hlt2
  refine (n_any sb (4 + sz) _ HDR.out.src (by omega)).mono ?_
  rintro e W4 ⟨⟨q1, rfl, q10, q11, q12⟩, hDr⟩
  have q13 : q1 ≤ 16 := by
    by_cases hq : 1 < 4 + sz
    · have := q11 hq; omega
    · omega
  have D4 := Lib.hid (HDR.out.draw hDr)
  clear hDr q11 q12 HDR
  go_wp2_with fail
  refine (one_any sb 60 _ D4.out.src (by omega)).mono ?_
  rintro e W5 ⟨⟨b, rfl⟩, hDr⟩
  have D5 := Lib.hid (D4.out.draw hDr)
  clear hDr D4
  go_upto_if 21 with fail
  go_cut [7] from 9 (fun nv wc => ∃ N : Nat, N ≤ 402 ∧ nv = .int .i64 N ∧ Hid (DR w sb W1.heap.size W2.heap.size ca cn ck ra rn rk v c r wc))
  case first =>
    cases b with
    | false =>
      go_wp2_with fail
      go_meet
      case rel => exact ⟨q1.toNat, by omega, by rw [Int.toNat_of_nonneg (by omega)], D5⟩
    | true =>
      go_wp2_with fail
      refine (n_any sb 3 _ D5.out.src (by omega)).mono ?_
      rintro e W6 ⟨⟨q2, rfl, q20, q21, _⟩, hDr⟩
      have q22 := q21 (by omega)
      have D6 := Lib.hid (D5.out.draw hDr)
      clear hDr q21
      go_wp2_with fail
      go_meet
      case rel => exact ⟨(399 + q2).toNat, by omega, by rw [Int.toNat_of_nonneg (by omega)], D6⟩
  case rest =>
    obtain ⟨N, hN, rfl, hD⟩ := hcut
    clear D5
    go_wp2_with fail
    refine (flows_drawn sb N (by omega) _ hD.out.src).mono ?_
    rintro e W7 ⟨vi, rfl, zs, hzl, hil⟩
    have D7 := Lib.hid (hD.out.draw hil.2.1)
    have F7 : Hid (FlS wc.heap.size vi zs.length (inList zs) W7) := fl_of hil
    have HLT : Hid (sb < wc.heap.size ∧ w.heap.size ≤ wc.heap.size) := ⟨hD.out.src.lt, hD.out.bel.size⟩
    obtain ⟨via, vik, hvi⟩ := ownShape hil.1
    have HZL := Lib.hid hzl
    clear hil hD hzl
    subst hvi
    go_wp2_with fail
    refine (one_any sb 30 _ D7.out.src (by omega)).mono ?_
    rintro e W8 ⟨⟨b8, rfl⟩, hDr⟩
    have D8 := Lib.hid (D7.out.draw hDr)
    have F8 := Lib.hid (F7.out.draw hDr HLT.out.1)
    clear hDr D7 F7
    go_upto_if 29 with fail
    go_cut [7] from 9 (fun nv wd => ∃ M : Nat, M ≤ 403 ∧ nv = .int .i64 M ∧ Hid (DR w sb W1.heap.size W2.heap.size ca cn ck ra rn rk v c r wd) ∧ Hid (FlS wc.heap.size (.slice via zs.length vik) zs.length (inList zs) wd))
    case first =>
      cases b8 with
      | false =>
        go_wp2_with fail
        go_meet
        case rel => exact ⟨N, by omega, rfl, D8, F8⟩
      | true =>
        go_wp2_with fail
        go_meet
        case rel => exact ⟨N + 1, by omega, by go_num, D8, F8⟩
    case rest =>
      obtain ⟨M, hM, rfl, hD, hF⟩ := hcut
      clear D8 F8
      go_wp2_with fail
      refine wp_region_held_drew (S := BxR W2.heap.size (d3 (.slice ca cn ck) (.slice ra rn rk) (.int .i64 v))) (by kernel_rfl) (World.rowIs.of_block hD.out.box rfl) (fun hHeld => ?_)
      refine take_do (i := 0) (v := (.agg #[.slice ca cn ck, .slice ra rn rk, .int .i64 v])) rfl (by kernel_rfl) (by kernel_rfl) (by kernel_rfl) (fun _ _ _ h => h) (by rfl) ?_ (by assumption) ?_
      · intro w hSw
        obtain ⟨⟨a0, a1, a2⟩, _⟩ := d3_cells hSw
        go_simp
      simp only [Act.put, List.setIfInBounds_toArray, List.set_cons_zero, List.set_cons_succ]
      refine take_do (i := 1) (v := (.slice via zs.length vik)) rfl (by kernel_rfl) (by kernel_rfl) (by kernel_rfl) (fun _ _ _ h => h) (by rfl) ?_ (by assumption) ?_
      · intro w hSw
        obtain ⟨⟨a0, a1, a2⟩, _⟩ := d3_cells hSw
        go_simp
      simp only [Act.put, List.setIfInBounds_toArray, List.set_cons_zero, List.set_cons_succ]
      refine take_do (i := 2) (v := (.pointer (some ⟨sb, 0, none⟩))) rfl (by kernel_rfl) (by kernel_rfl) (by kernel_rfl) (fun _ _ _ h => h) (by rfl) ?_ (by assumption) ?_
      · intro w hSw
        obtain ⟨⟨a0, a1, a2⟩, _⟩ := d3_cells hSw
        go_simp
      simp only [Act.put, List.setIfInBounds_toArray, List.set_cons_zero, List.set_cons_succ]
      refine take_do (i := 3) (v := (.int .i64 M)) rfl (by kernel_rfl) (by kernel_rfl) (by kernel_rfl) (fun _ _ _ h => h) (by rfl) ?_ (by assumption) ?_
      · intro w hSw
        obtain ⟨⟨a0, a1, a2⟩, _⟩ := d3_cells hSw
        go_simp
      simp only [Act.put, List.setIfInBounds_toArray, List.set_cons_zero, List.set_cons_succ]
      have D9 : Hid (DR w sb W1.heap.size W2.heap.size ca cn ck ra rn rk v c r wc.drew) := hD.out.draw ⟨hD.out.src, Chg.refl _ _⟩
      refine take_call (i := 4) rfl (by kernel_rfl) (fun K2 hK => ?_)
      go_simp
      refine (flows_drawn sb M (by omega) _ D9.out.src).mono ?_
      rintro e WA ⟨vw, rfl, ys, hyl, hil⟩
      have DA := Lib.hid (D9.out.draw hil.2.1)
      have FA := Lib.hid (hF.out.draw (hil.2.1) HLT.out.1)
      have FB : Hid (FlS wc.heap.size vw ys.length (inList ys) WA) := fl_of hil
      obtain ⟨vwa, vwk, hvw⟩ := ownShape hil.1
      subst hvw
      clear hil D9
      go_wp2_with fail
      refine hK.out _ _ DA.out.box (fun hHeld2 => ?_)
      clear hK hHeld hHeld2
      obtain ⟨⟨y0, y1, y2⟩, q0, q1, q2⟩ := d3_cells DA.out.res
      refine take_call (i := 5) rfl (by kernel_rfl) (fun K2 hK => ?_)
      go_simp
      have HQ : Hid (∀ k, k ≠ w.heap.size → (((WA.setCell ⟨w.heap.size, 0, none⟩ (.slice ca cn ck)).setCell ⟨w.heap.size, 1, none⟩ (.slice ra rn rk)).setCell ⟨w.heap.size, 2, none⟩ (.int .i64 v)).heap[k]? = WA.heap[k]?) := fun k hk => ((Below.heap_setCell _ _ _ _ hk).trans (Below.heap_setCell _ _ _ _ hk)).trans (Below.heap_setCell _ _ _ _ hk)
      have hn := DA.out.num
      have HE : Hid (DrEnd w (.returned (.tuple #[.agg #[.slice ca cn ck, .slice ra rn rk, .int .i64 v], .slice via zs.length vik, .slice vwa ys.length vwk])) (((WA.setCell ⟨w.heap.size, 0, none⟩ (.slice ca cn ck)).setCell ⟨w.heap.size, 1, none⟩ (.slice ra rn rk)).setCell ⟨w.heap.size, 2, none⟩ (.int .i64 v))) := by
        refine ⟨ca, cn, ck, ra, rn, rk, v, c, r, _, zs.length, inList zs, _, ys.length, inList ys, rfl, ⟨?_, ?_⟩, ⟨?_, ?_⟩, ⟨?_, ?_⟩, ?_⟩
        · exact (DA.out.pc.same (fun k hk _ => HQ.out k (by omega))).at_
        · exact (DA.out.pr.same (fun k hk _ => HQ.out k (by omega))).at_
        · exact (FA.out.same (fun k hk _ => HQ.out k (by have := HLT.out; omega))).lower HLT.out.2
        · have := HZL.out; omega
        · exact (FB.out.same (fun k hk _ => HQ.out k (by have := hD.out.src.lt; omega))).lower (hD.out.bel.size)
        · omega
        · exact ((DA.out.bel.setCell (Nat.le_refl _) _).setCell (Nat.le_refl _) _).setCell (Nat.le_refl _) _
      refine hK.out _ _ (World.rowIs.of_block DA.out.box (HQ.out _ (by omega))) (fun hHeld2 => ?_)
      clear hK
      refine take_do (i := 6) (v := (.slice via zs.length vik)) rfl (by kernel_rfl) (by kernel_rfl) (by kernel_rfl) (fun _ _ _ h => h) (by rfl) ?_ (by assumption) ?_
      · intro w hSw
        go_simp
      simp only [Act.put, List.setIfInBounds_toArray, List.set_cons_zero, List.set_cons_succ]
      refine take_do (i := 7) (v := (.slice vwa M vwk)) rfl (by kernel_rfl) (by kernel_rfl) (by kernel_rfl) (fun _ _ _ h => h) (by rfl) ?_ (by assumption) ?_
      · intro w hSw
        go_simp
      simp only [Act.put, List.setIfInBounds_toArray, List.set_cons_zero, List.set_cons_succ]
      clear hn
      refine wpAnyH_done (by kernel_rfl) ?_ _
      rw [hyl] at HE
      go_wp2_with fail
      refine bodyPost_ret (v := .tuple #[.agg #[.slice ca cn ck, .slice ra rn rk, .int .i64 v], .slice via zs.length vik, .slice vwa M vwk]) ?_ rfl HE.out
      simp [results, Tryd.results45, go_sem, y0, y1, y2]
end Go.Proofs.YtdpghhmcibiplaaDoor
