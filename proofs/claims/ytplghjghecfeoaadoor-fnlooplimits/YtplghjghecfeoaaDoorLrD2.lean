/-
  The draw of a run of a loop.
-/
import Derived.Test.YtplghjghecfeoaaDoorLrDr
import Derived.Laws.OwnMore
namespace Go.Proofs.YtplghjghecfeoaaDoor
open Go.RowKit Go.Deep

attribute [local go_sem] lrun_store_float lrun_store_complex
theorem own_fl {B : Nat} {v : Value} {zs : List Nat} {W : World} (h : Own B v zs W) : ∃ g k, v = .slice (some ⟨g, 0, none⟩) zs.length k ∧ (B ≤ g ∧ zs.length ≤ k) ∧ ∀ i, i < zs.length → W.cell? ⟨g, i, none⟩ = some (.float .f64 (zs.getD i 0)) := by
  obtain ⟨h1, hn⟩ := h
  have h1' := h1
  rcases h1.2 with ⟨e, _⟩ | ⟨g, cap, cur, e1, e2, _, e4, _⟩
  · exact absurd e hn
  · refine ⟨g, cap, e1, ⟨e2, e4⟩, fun i hi => ?_⟩
    rw [e1] at h1'
    rw [World.ownsRow.cellAt h1' i (by omega)]
    simp [hi]
set_option maxRecDepth 100000 in
set_option maxHeartbeats 16000000 in
theorem drawLr_any (a : Option Addr) (len cap : Nat) (w : World) (h : Bytes a len w) (hl : len ≤ 4194304) :
    Calls Tryd.prog 5 #[.slice a len cap] w fun e w' => (∃ (l : Fl.Lo) (start g n k : Nat) (f : Nat → Nat), e = .returned (.tuple #[loV l, .float .f64 start, .slice (some ⟨g, 0, none⟩) n k]) ∧ (n ≤ 400 ∧ n ≤ k) ∧ ∀ i, i < n → w'.cell? ⟨g, i, none⟩ = some (.float .f64 (f i))) ∧ Below w.heap.size w w' := by
  obtain ⟨W, hW⟩ : ∃ W, W = w.alloc (.cells #[.float .f64 0, .float .f64 0, .float .f64 0, .float .f64 0, .float .f64 0, .float .f64 0] 25) := ⟨_, rfl⟩
  have HB : Hid (Below w.heap.size w W) := by show Below _ _ _; rw [hW]; exact bel_alloc _ _
  have HR : Hid (W.rowIs w.heap.size 25 6 (rowL loZ)) := by show World.rowIs _ _ _ _ _; rw [hW]; exact rowL_alloc w loZ _
  have HZ : Hid (W.heap.size = w.heap.size + 1) := by show _ = _; rw [hW]; simp
  have HBY := Lib.hid h
  have HL := Lib.hid hl
  have HW := Lib.hid hW
  obtain ⟨i0, hi, hz0, hz1, hz2⟩ := info_parts info_float
  clear h hl hW
  go_enter Tryd.func5, Tryd.ntmps5
  go_wp2_with fail
  rw [← HW.out]
  clear HW
  refine (source_any a len cap _ (HBY.out.below HB.out) HL.out).mono ?_
  rintro e w1 ⟨rfl, hsrc, hb⟩
  obtain ⟨sb, hsb⟩ : ∃ sb, sb = W.heap.size := ⟨_, rfl⟩
  rw [← hsb] at hsrc ⊢
  have HSB : Hid (sb = w.heap.size + 1) := by show _ = _; rw [hsb]; exact HZ.out
  have HSRC := Lib.hid hsrc
  replace HR := Lib.hid (wrow_below HR.out hb)
  replace HB : Hid (Below w.heap.size w w1) := HB.out.trans (hb.mono HB.out.size)
  clear hb hsb hsrc HZ
  go_wp2_with fail
  refine (lloop_any sb _ HSRC.out).mono ?_
  rintro e w2 ⟨⟨l, rfl⟩, hD⟩
  replace HR := Lib.hid (row_chg HR.out hD.2 (by have := HSB.out; omega))
  replace HB : Hid (Below w.heap.size w w2) := HB.out.trans (hD.2.below (by have := HSB.out; omega) HB.out.size)
  replace HSRC := Lib.hid hD.1
  clear hD
  obtain ⟨W3, hW3⟩ : ∃ W3, W3 = w2.alloc (.cells #[.float .f64 l.up, .float .f64 l.sum, .float .f64 l.gain, .float .f64 l.lag, .float .f64 l.low, .float .f64 l.high] 25) := ⟨_, rfl⟩
  have hb : Below w2.heap.size w2 W3 := by rw [hW3]; exact bel_alloc _ _
  obtain ⟨g6, hg6⟩ : ∃ g6, g6 = w2.heap.size := ⟨_, rfl⟩
  have HR6 : Hid (W3.rowIs g6 25 6 (rowL (loL l))) := by show World.rowIs _ _ _ _ _; rw [hW3]; exact rowL_alloc' hg6.symm (loL l) _
  have HG6 : Hid (sb < g6) := by show _ < _; rw [hg6]; exact HSRC.out.lt
  have HW3 := Lib.hid hW3
  have HGE := Lib.hid hg6
  have hsz : ∃ size : Int, w2.cell? ⟨sb, 3, none⟩ = some (.int .i64 size) ∧ 0 ≤ size ∧ size ≤ 12 := by
    obtain ⟨p, le, cp, at_, mix, size, ⟨_, _, _, c3, _⟩, _, _, _, q4, q5, _⟩ := HSRC.out
    exact ⟨size, c3, q4, q5⟩
  have hls : sb < w2.heap.size := HSRC.out.lt
  obtain ⟨size, cs, s0, s1⟩ := hsz
  replace HR := Lib.hid (wrow_below HR.out hb)
  replace HB : Hid (Below w.heap.size w W3) := HB.out.trans (hb.mono HB.out.size)
  replace HSRC := Lib.hid (HSRC.out.below hb)
  clear hb hW3 hg6
  go_wp2_with fail
  rw [← HW3.out]
  try rw [← HGE.out]
  clear HW3 HGE cs hls
  refine (n_any sb (6 + size) _ HSRC.out (by omega)).mono ?_
  rintro e w4 ⟨⟨u, rfl, u0, u1, _⟩, hD⟩
  have u2 := u1 (by omega)
  clear u1
  replace HR := Lib.hid (row_chg HR.out hD.2 (by have := HSB.out; omega))
  replace HR6 := Lib.hid (row_chg HR6.out hD.2 (by have := HG6.out; omega))
  replace HB : Hid (Below w.heap.size w w4) := HB.out.trans (hD.2.below (by have := HSB.out; omega) HB.out.size)
  replace HSRC := Lib.hid hD.1
  clear hD
  go_wp2_with fail
  refine (one_any sb 60 _ HSRC.out (by omega)).mono ?_
  rintro e w5 ⟨⟨b, rfl⟩, hD⟩
  replace HR := Lib.hid (row_chg HR.out hD.2 (by have := HSB.out; omega))
  replace HR6 := Lib.hid (row_chg HR6.out hD.2 (by have := HG6.out; omega))
  replace HB : Hid (Below w.heap.size w w5) := HB.out.trans (hD.2.below (by have := HSB.out; omega) HB.out.size)
  replace HSRC := Lib.hid hD.1
  clear hD
  cases b
  · obtain ⟨N, hN⟩ : ∃ N : Int, N = u := ⟨_, rfl⟩
    have hN0 : 0 ≤ N := by omega
    have hN1 : N ≤ 400 := by omega
    rw [← hN]
    have HNB : Hid (0 ≤ N ∧ N ≤ 400) := ⟨hN0, hN1⟩
    clear hN
    obtain ⟨W5, hW5⟩ : ∃ W5, W5 = w5 := ⟨_, rfl⟩
    rw [← hW5] at HR HR6 HB HSRC ⊢
    clear hW5
    go_wp2_with fail
    have H5 := HSRC
    go_loopw [7, 8] (fun nv ov wr => ∃ (m : Int) (zs : List Nat), nv = .int .i64 m ∧ 0 ≤ m ∧ m ≤ 1000 ∧ Hid (m + zs.length = N) ∧ Hid (FL W5 sb ov zs wr)) (fun nv _ _ => (intOf nv).toNat)
    case atStart => exact ⟨N, [], rfl, hN0, by omega, by show _ = _; simp, fl_start H5.out⟩
    case round =>
      obtain ⟨m, zs, rfl, m0, m1, hm, HF⟩ := hrel
      by_cases hlt2 : 0 < m
      · go_wp2_with fail
        refine (n_any sb 400 _ HF.out.2.1.1 (by omega)).mono ?_
        rintro e wa ⟨⟨y, rfl, y0, y1, _⟩, hD⟩
        have y2 := y1 (by omega)
        clear y1
        replace HF := Lib.hid (HF.out.draw hD)
        clear hD
        obtain ⟨G, K, ha⟩ := arith_any .quo (by simp) (floatOfInt .f64 (y - 200)) 4620693217682128896
        go_wp2_with fail
        clear ha
        generalize G wa = x
        replace HF : Hid (FL W5 sb _ zs (wa.drewN K)) := HF.out.draw ⟨(HF.out.2.1.drewN K).1, (Chg.refl sb wa).drewN K⟩
        refine (one_any sb 120 _ HF.out.2.1.1 (by omega)).mono ?_
        rintro e wb ⟨⟨b2, rfl⟩, hD⟩
        replace HF := Lib.hid (HF.out.draw hD)
        clear hD
        cases b2
        · go_wp2_with (at_builtin; refine wpList_append_own _ rfl _ _ 26 rfl W5.heap.size 23 i0 (.float .f64 0) 1 8 Tryd.underlying26 hi hz0 hz1 hz2 rfl (by decide) _ _ _ rfl (HF.out.1.1.alloc _) ⟨wb.heap.size, 0, none⟩ 1 1 [.float .f64 x] rfl rfl ?bp1 ?bp2 ?bp3 ?bp4 ?bp5 ?_)
          case bp1 =>
            intro j u hj
            match j, hj with
            | 0, hj => simp at hj; subst hj; simp [Addr.add]
          case bp2 => intro u hu; simp at hu; subst hu; rfl
          case bp3 => have := hm.out; have h2 := HNB.out; unfold maxLen; omega
          case bp4 => have := hm.out; have h2 := HNB.out; omega
          case bp5 => have := HF.out.2.1.2.size; simp; omega
          intro v' wz hown hgrow hnil
          have HF2 : Hid (FL W5 sb v' (zs ++ [x]) wz) := HF.out.push hgrow hown hnil
          clear hown hgrow hnil HF
          go_wp2_with fail
          go_roundw
          case rel => exact ⟨m - 1, zs ++ [x], by go_num, by omega, by omega, by show _ = _; have := hm.out; simp; omega, HF2⟩
          case measure => simp [intOf]; omega
        · go_wp2_with fail
          refine (float_any sb _ HF.out.2.1.1).mono ?_
          rintro e wc ⟨⟨x', rfl⟩, hD⟩
          replace HF := Lib.hid (HF.out.draw hD)
          clear hD
          go_wp2_with (at_builtin; refine wpList_append_own _ rfl _ _ 26 rfl W5.heap.size 23 i0 (.float .f64 0) 1 8 Tryd.underlying26 hi hz0 hz1 hz2 rfl (by decide) _ _ _ rfl (HF.out.1.1.alloc _) ⟨wc.heap.size, 0, none⟩ 1 1 [.float .f64 x'] rfl rfl ?bq1 ?bq2 ?bq3 ?bq4 ?bq5 ?_)
          case bq1 =>
            intro j u hj
            match j, hj with
            | 0, hj => simp at hj; subst hj; simp [Addr.add]
          case bq2 => intro u hu; simp at hu; subst hu; rfl
          case bq3 => have := hm.out; have h2 := HNB.out; unfold maxLen; omega
          case bq4 => have := hm.out; have h2 := HNB.out; omega
          case bq5 => have := HF.out.2.1.2.size; simp; omega
          intro v' wz hown hgrow hnil
          have HF2 : Hid (FL W5 sb v' (zs ++ [x']) wz) := HF.out.push hgrow hown hnil
          clear hown hgrow hnil HF
          go_wp2_with fail
          go_roundw
          case rel => exact ⟨m - 1, zs ++ [x'], by go_num, by omega, by omega, by show _ = _; have := hm.out; simp; omega, HF2⟩
          case measure => simp [intOf]; omega
      · obtain rfl : m = 0 := by omega
        have HCH := Lib.hid HF.out.2.1.2
        replace HR := Lib.hid (row_chg HR.out HCH.out (by have := HSB.out; omega))
        replace HR6 := Lib.hid (row_chg HR6.out HCH.out (by have := HG6.out; omega))
        replace HB : Hid (Below w.heap.size w wr) := HB.out.trans (HCH.out.below (by have := HSB.out; omega) HB.out.size)
        have HL6 : Hid (w.heap.size < W5.heap.size) := by have h1 := HSB.out; have h2 := H5.out.lt; show _ < _; omega
        obtain ⟨gl, kl, e1, hgl, hcl⟩ := own_fl HF.out.1
        have HSRC2 := Lib.hid HF.out.2.1.1
        have HLEN : Hid (zs.length ≤ 400) := by have := hm.out; have h2 := HNB.out; show _ ≤ _; omega
        have HCL := Lib.hid hcl
        have HGL := Lib.hid hgl.1
        have HKL := Lib.hid hgl.2
        clear HF hgl hcl HSRC
        subst e1
        go_wp2_with fail
        refine wp_region_held_drew (S := fun V => V.rowIs g6 25 6 (rowL (loL l))) (by kernel_rfl) (wrow_below HR6.out (Below.refl _ _).drew) (fun hHeld => ?_)
        obtain ⟨Z, hZ⟩ : ∃ Z, Z = wr.drew := ⟨_, rfl⟩
        have hb : Below wr.heap.size wr Z := by rw [hZ]; exact (Below.refl _ _).drew
        rw [← hZ] at hHeld ⊢
        replace HR := Lib.hid (wrow_below HR.out hb)
        replace HB : Hid (Below w.heap.size w Z) := HB.out.trans (hb.mono HB.out.size)
        replace HSRC2 := Lib.hid (HSRC2.out.below hb)
        have HCL2 : Hid (∀ i, i < zs.length → Z.cell? ⟨gl, i, none⟩ = some (.float .f64 (zs.getD i 0))) := fun i hi => (hb.cell (p := ⟨gl, i, none⟩) (World.block_lt_of_cell? _ _ (HCL.out i hi))).trans (HCL.out i hi)
        clear hb hZ HR6 HCL
        refine take_do (i := 0) (v := (loV l)) rfl (by kernel_rfl) (by kernel_rfl) (by kernel_rfl) (fun _ _ _ h => h) (by rfl) ?_ (by assumption) ?_
        · intro w hSw
          obtain ⟨⟨q0, q1, q2⟩, q3, q4, q5⟩ := row6_cells hSw
          go_simp
        simp only [Act.put, List.setIfInBounds_toArray, List.set_cons_zero, List.set_cons_succ]
        refine take_do (i := 1) (v := (.pointer (some ⟨sb, 0, none⟩))) rfl (by kernel_rfl) (by kernel_rfl) (by kernel_rfl) (fun _ _ _ h => h) (by rfl) ?_ (by assumption) ?_
        · intro w hSw
          skip
          go_simp
        simp only [Act.put, List.setIfInBounds_toArray, List.set_cons_zero, List.set_cons_succ]
        refine take_do (i := 3) (v := (.slice (some ⟨gl, 0, none⟩) zs.length kl)) rfl (by kernel_rfl) (by kernel_rfl) (by kernel_rfl) (fun _ _ _ h => h) (by rfl) ?_ (by assumption) ?_
        · intro w hSw
          skip
          go_simp
        simp only [Act.put, List.setIfInBounds_toArray, List.set_cons_zero, List.set_cons_succ]
        refine take_call (i := 2) rfl (by kernel_rfl) (fun K2 hK => ?_)
        go_simp
        refine (small_any sb _ HSRC2.out).mono ?_
        rintro e Z2 ⟨⟨st, rfl⟩, hD⟩
        replace HR := Lib.hid (row_chg HR.out hD.2 (by have := HSB.out; omega))
        replace HB : Hid (Below w.heap.size w Z2) := HB.out.trans (hD.2.below (by have := HSB.out; omega) HB.out.size)
        have HH := Lib.hid (row_chg hHeld hD.2 (by have := HG6.out; omega))
        have HCL3 : Hid (∀ i, i < zs.length → Z2.cell? ⟨gl, i, none⟩ = some (.float .f64 (zs.getD i 0))) := fun i hi => (hD.2.cell (p := ⟨gl, i, none⟩) (World.block_lt_of_cell? _ _ (HCL2.out i hi)) (by have h1 := HGL.out; have h2 := H5.out.lt; show gl ≠ sb; omega)).trans (HCL2.out i hi)
        clear hD hHeld HSRC2 HCL2
        go_wp2_with fail
        refine hK.out _ _ HH.out (fun hHeld => ?_)
        clear hK HH
        obtain ⟨⟨c0, c1, c2, c3, c4, c5⟩, f0, f1, f2, f3, f4, f5⟩ := row6_all HR.out
        have l0 := HR.out.lt
        have HRS := Lib.hid (set6_row l HR.out)
        have hne6 : g6 ≠ w.heap.size := by have h1 := HSB.out; have h2 := HG6.out; omega
        have HHS : Hid ((set6 w.heap.size l Z2).rowIs g6 25 6 (rowL (loL l))) := hHeld.of_block (set6_far l hne6)
        have HBS := Lib.hid (set6_below l HB.out (Nat.le_refl _))
        have HCS : Hid (∀ i, i < zs.length → (set6 w.heap.size l Z2).cell? ⟨gl, i, none⟩ = some (.float .f64 (zs.getD i 0))) := fun i hi => (World.cell?_of_block (a := ⟨gl, i, none⟩) (set6_far l (by have h1 := HGL.out; have h2 := HL6.out; show gl ≠ w.heap.size; omega))).trans (HCL3.out i hi)
        refine take_call (i := 4) rfl (by kernel_rfl) (fun K2 hK => ?_)
        go_simp
        clear c0 c1 c2 c3 c4 c5 f0 f1 f2 f3 f4 f5 l0
        refine hK.out _ _ HHS.out (fun hHeld2 => ?_)
        clear hK hHeld
        refine take_do (i := 5) (v := (.float .f64 st)) rfl (by kernel_rfl) (by kernel_rfl) (by kernel_rfl) (fun _ _ _ h => h) (by rfl) ?_ (by assumption) ?_
        · intro w hSw
          skip
          go_simp
        simp only [Act.put, List.setIfInBounds_toArray, List.set_cons_zero, List.set_cons_succ]
        refine take_do (i := 6) (v := (.slice (some ⟨gl, 0, none⟩) zs.length kl)) rfl (by kernel_rfl) (by kernel_rfl) (by kernel_rfl) (fun _ _ _ h => h) (by rfl) ?_ (by assumption) ?_
        · intro w hSw
          skip
          go_simp
        simp only [Act.put, List.setIfInBounds_toArray, List.set_cons_zero, List.set_cons_succ]
        refine wpAnyH_done (by kernel_rfl) ?_ _
        obtain ⟨⟨c0, c1, c2⟩, c3, c4, c5⟩ := row6_cells HRS.out
        unfold set6 at c0 c1 c2 c3 c4 c5
        clear hHeld2
        go_wp2_with fail
        exact bodyPost_ret (v := .tuple #[loV l, .float .f64 st, .slice (some ⟨gl, 0, none⟩) zs.length kl]) (by simp [results, Tryd.results5, go_sem, c0, c1, c2, c3, c4, c5]) rfl ⟨⟨l, st, gl, zs.length, kl, fun i => zs.getD i 0, rfl, ⟨HLEN.out, HKL.out⟩, HCS.out⟩, HBS.out⟩
  · go_wp2_with fail
    refine (n_any sb 3 _ HSRC.out (by omega)).mono ?_
    rintro e w6 ⟨⟨v, rfl, v0, v1, _⟩, hD⟩
    have v2 := v1 (by omega)
    clear v1
    replace HR := Lib.hid (row_chg HR.out hD.2 (by have := HSB.out; omega))
    replace HR6 := Lib.hid (row_chg HR6.out hD.2 (by have := HG6.out; omega))
    replace HB : Hid (Below w.heap.size w w6) := HB.out.trans (hD.2.below (by have := HSB.out; omega) HB.out.size)
    replace HSRC := Lib.hid hD.1
    clear hD
    have eN : (199 + v : Int) = 199 + v := rfl
    clear eN
    go_upto_if 26 with fail
    obtain ⟨N, hN⟩ : ∃ N : Int, N = 199 + v := ⟨_, rfl⟩
    have hN0 : 0 ≤ N := by omega
    have hN1 : N ≤ 400 := by omega
    rw [← hN]
    have HNB : Hid (0 ≤ N ∧ N ≤ 400) := ⟨hN0, hN1⟩
    clear hN
    obtain ⟨W5, hW5⟩ : ∃ W5, W5 = w6 := ⟨_, rfl⟩
    rw [← hW5] at HR HR6 HB HSRC ⊢
    clear hW5
    go_wp2_with fail
    have H5 := HSRC
    go_loopw [7, 8] (fun nv ov wr => ∃ (m : Int) (zs : List Nat), nv = .int .i64 m ∧ 0 ≤ m ∧ m ≤ 1000 ∧ Hid (m + zs.length = N) ∧ Hid (FL W5 sb ov zs wr)) (fun nv _ _ => (intOf nv).toNat)
    case atStart => exact ⟨N, [], rfl, hN0, by omega, by show _ = _; simp, fl_start H5.out⟩
    case round =>
      obtain ⟨m, zs, rfl, m0, m1, hm, HF⟩ := hrel
      by_cases hlt2 : 0 < m
      · go_wp2_with fail
        refine (n_any sb 400 _ HF.out.2.1.1 (by omega)).mono ?_
        rintro e wa ⟨⟨y, rfl, y0, y1, _⟩, hD⟩
        have y2 := y1 (by omega)
        clear y1
        replace HF := Lib.hid (HF.out.draw hD)
        clear hD
        obtain ⟨G, K, ha⟩ := arith_any .quo (by simp) (floatOfInt .f64 (y - 200)) 4620693217682128896
        go_wp2_with fail
        clear ha
        generalize G wa = x
        replace HF : Hid (FL W5 sb _ zs (wa.drewN K)) := HF.out.draw ⟨(HF.out.2.1.drewN K).1, (Chg.refl sb wa).drewN K⟩
        refine (one_any sb 120 _ HF.out.2.1.1 (by omega)).mono ?_
        rintro e wb ⟨⟨b2, rfl⟩, hD⟩
        replace HF := Lib.hid (HF.out.draw hD)
        clear hD
        cases b2
        · go_wp2_with (at_builtin; refine wpList_append_own _ rfl _ _ 26 rfl W5.heap.size 23 i0 (.float .f64 0) 1 8 Tryd.underlying26 hi hz0 hz1 hz2 rfl (by decide) _ _ _ rfl (HF.out.1.1.alloc _) ⟨wb.heap.size, 0, none⟩ 1 1 [.float .f64 x] rfl rfl ?cp1 ?cp2 ?cp3 ?cp4 ?cp5 ?_)
          case cp1 =>
            intro j u hj
            match j, hj with
            | 0, hj => simp at hj; subst hj; simp [Addr.add]
          case cp2 => intro u hu; simp at hu; subst hu; rfl
          case cp3 => have := hm.out; have h2 := HNB.out; unfold maxLen; omega
          case cp4 => have := hm.out; have h2 := HNB.out; omega
          case cp5 => have := HF.out.2.1.2.size; simp; omega
          intro v' wz hown hgrow hnil
          have HF2 : Hid (FL W5 sb v' (zs ++ [x]) wz) := HF.out.push hgrow hown hnil
          clear hown hgrow hnil HF
          go_wp2_with fail
          go_roundw
          case rel => exact ⟨m - 1, zs ++ [x], by go_num, by omega, by omega, by show _ = _; have := hm.out; simp; omega, HF2⟩
          case measure => simp [intOf]; omega
        · go_wp2_with fail
          refine (float_any sb _ HF.out.2.1.1).mono ?_
          rintro e wc ⟨⟨x', rfl⟩, hD⟩
          replace HF := Lib.hid (HF.out.draw hD)
          clear hD
          go_wp2_with (at_builtin; refine wpList_append_own _ rfl _ _ 26 rfl W5.heap.size 23 i0 (.float .f64 0) 1 8 Tryd.underlying26 hi hz0 hz1 hz2 rfl (by decide) _ _ _ rfl (HF.out.1.1.alloc _) ⟨wc.heap.size, 0, none⟩ 1 1 [.float .f64 x'] rfl rfl ?cq1 ?cq2 ?cq3 ?cq4 ?cq5 ?_)
          case cq1 =>
            intro j u hj
            match j, hj with
            | 0, hj => simp at hj; subst hj; simp [Addr.add]
          case cq2 => intro u hu; simp at hu; subst hu; rfl
          case cq3 => have := hm.out; have h2 := HNB.out; unfold maxLen; omega
          case cq4 => have := hm.out; have h2 := HNB.out; omega
          case cq5 => have := HF.out.2.1.2.size; simp; omega
          intro v' wz hown hgrow hnil
          have HF2 : Hid (FL W5 sb v' (zs ++ [x']) wz) := HF.out.push hgrow hown hnil
          clear hown hgrow hnil HF
          go_wp2_with fail
          go_roundw
          case rel => exact ⟨m - 1, zs ++ [x'], by go_num, by omega, by omega, by show _ = _; have := hm.out; simp; omega, HF2⟩
          case measure => simp [intOf]; omega
      · obtain rfl : m = 0 := by omega
        have HCH := Lib.hid HF.out.2.1.2
        replace HR := Lib.hid (row_chg HR.out HCH.out (by have := HSB.out; omega))
        replace HR6 := Lib.hid (row_chg HR6.out HCH.out (by have := HG6.out; omega))
        replace HB : Hid (Below w.heap.size w wr) := HB.out.trans (HCH.out.below (by have := HSB.out; omega) HB.out.size)
        have HL6 : Hid (w.heap.size < W5.heap.size) := by have h1 := HSB.out; have h2 := H5.out.lt; show _ < _; omega
        obtain ⟨gl, kl, e1, hgl, hcl⟩ := own_fl HF.out.1
        have HSRC2 := Lib.hid HF.out.2.1.1
        have HLEN : Hid (zs.length ≤ 400) := by have := hm.out; have h2 := HNB.out; show _ ≤ _; omega
        have HCL := Lib.hid hcl
        have HGL := Lib.hid hgl.1
        have HKL := Lib.hid hgl.2
        clear HF hgl hcl HSRC
        subst e1
        go_wp2_with fail
        refine wp_region_held_drew (S := fun V => V.rowIs g6 25 6 (rowL (loL l))) (by kernel_rfl) (wrow_below HR6.out (Below.refl _ _).drew) (fun hHeld => ?_)
        obtain ⟨Z, hZ⟩ : ∃ Z, Z = wr.drew := ⟨_, rfl⟩
        have hb : Below wr.heap.size wr Z := by rw [hZ]; exact (Below.refl _ _).drew
        rw [← hZ] at hHeld ⊢
        replace HR := Lib.hid (wrow_below HR.out hb)
        replace HB : Hid (Below w.heap.size w Z) := HB.out.trans (hb.mono HB.out.size)
        replace HSRC2 := Lib.hid (HSRC2.out.below hb)
        have HCL2 : Hid (∀ i, i < zs.length → Z.cell? ⟨gl, i, none⟩ = some (.float .f64 (zs.getD i 0))) := fun i hi => (hb.cell (p := ⟨gl, i, none⟩) (World.block_lt_of_cell? _ _ (HCL.out i hi))).trans (HCL.out i hi)
        clear hb hZ HR6 HCL
        refine take_do (i := 0) (v := (loV l)) rfl (by kernel_rfl) (by kernel_rfl) (by kernel_rfl) (fun _ _ _ h => h) (by rfl) ?_ (by assumption) ?_
        · intro w hSw
          obtain ⟨⟨q0, q1, q2⟩, q3, q4, q5⟩ := row6_cells hSw
          go_simp
        simp only [Act.put, List.setIfInBounds_toArray, List.set_cons_zero, List.set_cons_succ]
        refine take_do (i := 1) (v := (.pointer (some ⟨sb, 0, none⟩))) rfl (by kernel_rfl) (by kernel_rfl) (by kernel_rfl) (fun _ _ _ h => h) (by rfl) ?_ (by assumption) ?_
        · intro w hSw
          skip
          go_simp
        simp only [Act.put, List.setIfInBounds_toArray, List.set_cons_zero, List.set_cons_succ]
        refine take_do (i := 3) (v := (.slice (some ⟨gl, 0, none⟩) zs.length kl)) rfl (by kernel_rfl) (by kernel_rfl) (by kernel_rfl) (fun _ _ _ h => h) (by rfl) ?_ (by assumption) ?_
        · intro w hSw
          skip
          go_simp
        simp only [Act.put, List.setIfInBounds_toArray, List.set_cons_zero, List.set_cons_succ]
        refine take_call (i := 2) rfl (by kernel_rfl) (fun K2 hK => ?_)
        go_simp
        refine (small_any sb _ HSRC2.out).mono ?_
        rintro e Z2 ⟨⟨st, rfl⟩, hD⟩
        replace HR := Lib.hid (row_chg HR.out hD.2 (by have := HSB.out; omega))
        replace HB : Hid (Below w.heap.size w Z2) := HB.out.trans (hD.2.below (by have := HSB.out; omega) HB.out.size)
        have HH := Lib.hid (row_chg hHeld hD.2 (by have := HG6.out; omega))
        have HCL3 : Hid (∀ i, i < zs.length → Z2.cell? ⟨gl, i, none⟩ = some (.float .f64 (zs.getD i 0))) := fun i hi => (hD.2.cell (p := ⟨gl, i, none⟩) (World.block_lt_of_cell? _ _ (HCL2.out i hi)) (by have h1 := HGL.out; have h2 := H5.out.lt; show gl ≠ sb; omega)).trans (HCL2.out i hi)
        clear hD hHeld HSRC2 HCL2
        go_wp2_with fail
        refine hK.out _ _ HH.out (fun hHeld => ?_)
        clear hK HH
        obtain ⟨⟨c0, c1, c2, c3, c4, c5⟩, f0, f1, f2, f3, f4, f5⟩ := row6_all HR.out
        have l0 := HR.out.lt
        have HRS := Lib.hid (set6_row l HR.out)
        have hne6 : g6 ≠ w.heap.size := by have h1 := HSB.out; have h2 := HG6.out; omega
        have HHS : Hid ((set6 w.heap.size l Z2).rowIs g6 25 6 (rowL (loL l))) := hHeld.of_block (set6_far l hne6)
        have HBS := Lib.hid (set6_below l HB.out (Nat.le_refl _))
        have HCS : Hid (∀ i, i < zs.length → (set6 w.heap.size l Z2).cell? ⟨gl, i, none⟩ = some (.float .f64 (zs.getD i 0))) := fun i hi => (World.cell?_of_block (a := ⟨gl, i, none⟩) (set6_far l (by have h1 := HGL.out; have h2 := HL6.out; show gl ≠ w.heap.size; omega))).trans (HCL3.out i hi)
        refine take_call (i := 4) rfl (by kernel_rfl) (fun K2 hK => ?_)
        go_simp
        clear c0 c1 c2 c3 c4 c5 f0 f1 f2 f3 f4 f5 l0
        refine hK.out _ _ HHS.out (fun hHeld2 => ?_)
        clear hK hHeld
        refine take_do (i := 5) (v := (.float .f64 st)) rfl (by kernel_rfl) (by kernel_rfl) (by kernel_rfl) (fun _ _ _ h => h) (by rfl) ?_ (by assumption) ?_
        · intro w hSw
          skip
          go_simp
        simp only [Act.put, List.setIfInBounds_toArray, List.set_cons_zero, List.set_cons_succ]
        refine take_do (i := 6) (v := (.slice (some ⟨gl, 0, none⟩) zs.length kl)) rfl (by kernel_rfl) (by kernel_rfl) (by kernel_rfl) (fun _ _ _ h => h) (by rfl) ?_ (by assumption) ?_
        · intro w hSw
          skip
          go_simp
        simp only [Act.put, List.setIfInBounds_toArray, List.set_cons_zero, List.set_cons_succ]
        refine wpAnyH_done (by kernel_rfl) ?_ _
        obtain ⟨⟨c0, c1, c2⟩, c3, c4, c5⟩ := row6_cells HRS.out
        unfold set6 at c0 c1 c2 c3 c4 c5
        clear hHeld2
        go_wp2_with fail
        exact bodyPost_ret (v := .tuple #[loV l, .float .f64 st, .slice (some ⟨gl, 0, none⟩) zs.length kl]) (by simp [results, Tryd.results5, go_sem, c0, c1, c2, c3, c4, c5]) rfl ⟨⟨l, st, gl, zs.length, kl, fun i => zs.getD i 0, rfl, ⟨HLEN.out, HKL.out⟩, HCS.out⟩, HBS.out⟩
end Go.Proofs.YtplghjghecfeoaaDoor
