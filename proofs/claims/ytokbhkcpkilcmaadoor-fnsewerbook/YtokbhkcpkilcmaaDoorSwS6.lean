/-
  The model's SewerRun at right sewers.
-/
import Derived.Test.YtokbhkcpkilcmaaDoorSwS5
namespace Go.Proofs.YtokbhkcpkilcmaaDoor
open Go.RowKit Go.Deep

set_option maxRecDepth 100000 in
set_option maxHeartbeats 16000000 in
theorem specRun_go (lb n cn : Nat) (ra : Option Addr) (M cr : Nat) (rs : Nat → Sw.Rc) (q : Nat → Sw.Rain) (w : World) (h : ∀ i, i < n → RcCells lb (i * 6) (rs i) w) (h2 : RainsAt ra M q w) (hM : M ≤ 60) (hr : Sw.Right n rs) :
    Calls Tryd.prog 26 #[.slice (some ⟨lb, 0, none⟩) n cn, .slice ra M cr] w fun e w' => RunOut w n (Sw.runs n rs q M) e w' ∧ Below w.heap.size w w' := by
  have hn1 : 1 ≤ n := hr.1.1
  have hn2 : n ≤ 40 := hr.1.2
  have hz : ¬ (400 : Int) < (n : Int) := by omega
  have hz2 : ¬ (60 : Int) < (M : Int) := by omega
  have hlb : lb < w.heap.size := (h 0 (by omega)).lt
  have H0 := Lib.hid h
  have H2 := Lib.hid h2
  have HR := Lib.hid hr
  have hmk := run_make_row' (P := Tryd.prog) 23 2 (.int .i64 0) 8 Tryd.underlying23 info_i64 rfl .i64 .i64 n (by omega) (by omega)
  obtain ⟨i0, hi0, hy0, hy1, hy2⟩ := info_parts info_rc
  clear h h2 hr
  go_enter Tryd.func26, Tryd.ntmps26
  go_wp2_with fail
  refine (specRight_any (some ⟨lb, 0, none⟩) n cn rs _ (RcsAt.of (fun i hi => (H0.out i hi).block (blk_alloc_lt _ _ _ hlb)))).mono ?_
  rintro e V0 ⟨⟨b1, rfl, hb1⟩, hb⟩
  obtain rfl : b1 = true := hb1.2 HR.out
  have HSL : Hid (RoSlot w V0) := (RoSlot.start w).next hb
  have H : Hid (∀ i, i < n → RcCells lb (i * 6) (rs i) V0) := fun i hi => (H0.out i hi).block (HSL.out.old.block _ hlb)
  have HLB : Hid (lb < V0.heap.size) := by show _ < _; have := HSL.out.lt; omega
  clear hb hb1
  go_upto_region 6 with fail
  go_cut [6] from 25 to 32 (fun p W => ∃ po gl c gf gt, p = .pointer (some ⟨po, 0, none⟩) ∧ Hid (RR w n gl gf gt c po ⟨rs, fun _ => 0, fun _ => 0, 0⟩ W))
  case first =>
    refine wp_region_held_drew (S := fun V => Below V0.heap.size V0 V) (by kernel_rfl) (Below.refl _ _).drew (fun hHeld => ?_)
    obtain ⟨Z, hZ⟩ : ∃ Z, Z = V0.drew := ⟨_, rfl⟩
    rw [← hZ] at hHeld ⊢
    clear hZ
    refine take_do (i := 1) (v := (.slice (some ⟨lb, 0, none⟩) n cn)) rfl (by kernel_rfl) (by kernel_rfl) (by kernel_rfl) (fun _ _ _ h => h) (by rfl) ?_ (by assumption) ?_
    · intro w hSw
      skip
      go_simp
    simp only [Act.put, List.setIfInBounds_toArray, List.set_cons_zero, List.set_cons_succ]
    refine take_do (i := 3) (v := (.int .i64 (n : Int))) rfl (by kernel_rfl) (by kernel_rfl) (by kernel_rfl) (fun _ _ _ h => h) (by rfl) ?_ (by assumption) ?_
    · intro w hSw
      skip
      go_simp
    simp only [Act.put, List.setIfInBounds_toArray, List.set_cons_zero, List.set_cons_succ]
    refine take_do (i := 5) (v := (.int .i64 (n : Int))) rfl (by kernel_rfl) (by kernel_rfl) (by kernel_rfl) (fun _ _ _ h => h) (by rfl) ?_ (by assumption) ?_
    · intro w hSw
      skip
      go_simp
    simp only [Act.put, List.setIfInBounds_toArray, List.set_cons_zero, List.set_cons_succ]
    refine wpAnyH_ready (rs := [0, 4, 6, 8]) (by kernel_rfl) (by simp) (AllReadyH.cons (at_drop (i := 0) rfl) (fun K2 hK => ?_) (AllReadyH.cons (at_drop (i := 4) rfl) (fun K2 hK => ?_) (AllReadyH.cons (at_drop (i := 6) rfl) (fun K2 hK => ?_) (AllReadyH.cons (at_drop (i := 8) rfl) (fun K2 hK => ?_) (AllReadyH.nil)))))
    · obtain ⟨Z1, hZ1⟩ : ∃ Z', Z' = Z.alloc (.cells #[] 55) := ⟨_, rfl⟩
      have hb : Below Z.heap.size Z Z1 := by rw [hZ1]; exact rbel _ _
      have OW : Hid (Z1.ownsRow V0.heap.size 55 6 (.slice (some ⟨Z.heap.size, 0, none⟩) 0 0) 0 []) := by show World.ownsRow _ _ _ _ _ _ _; rw [hZ1]; exact World.ownsRow_made Z #[] 0 hHeld.size (Nat.zero_le _) rfl
      go_simp
      rw [← hZ1]
      clear hZ1
      refine hK.out _ _ (hHeld.trans (hb.mono hHeld.size)) (fun hHeld2 => ?_)
      clear hK hHeld hb
      have hHeld := hHeld2
      clear hHeld2
      refine wpAnyH_ready (rs := [2, 4, 6, 8]) (by kernel_rfl) (by simp) (AllReadyH.cons (at_drop (i := 2) rfl) (fun K2 hK => ?_) (AllReadyH.cons (at_drop (i := 4) rfl) (fun K2 hK => ?_) (AllReadyH.cons (at_drop (i := 6) rfl) (fun K2 hK => ?_) (AllReadyH.cons (at_drop (i := 8) rfl) (fun K2 hK => ?_) (AllReadyH.nil)))))
      · refine step_append_rv rfl (.tmp 25) (.tmp 26) 25 rfl V0.heap.size 55 i0 _ 6 48 Tryd.underlying25 hi0 hy0 hy1 hy2 rfl (by decide) _ 0 [] rfl OW.out ⟨lb, 0, none⟩ n cn (inVs (scF rs) (n * 6)) rfl (by rw [inVs_len]) (rc_news (fun i hi => (H.out i hi).block (hHeld.block _ HLB.out))) rc_one (by unfold maxLen; omega) (by omega) hHeld.size ?_
        intro v5 Z2 hown hgrow
        have hb0 : Below V0.heap.size Z1 Z2 := (Below.refl _ _).grown hgrow hHeld.size (fun k e => (OW.out.lt k e).1)
        obtain ⟨gl, cA, rfl, hgl, hls⟩ := own_rc (by simpa using hown) hn1
        have HLS := Lib.hid hls
        have HGL := Lib.hid hgl
        refine hK.out _ _ (hHeld.trans hb0) (fun hHeld2 => ?_)
        clear hK hHeld hb0 hown hgrow hls hgl OW
        have hHeld := hHeld2
        clear hHeld2
        simp only [Act.put, List.setIfInBounds_toArray, List.set_cons_zero, List.set_cons_succ]
        refine wpAnyH_ready (rs := [4, 6, 8]) (by kernel_rfl) (by simp) (AllReadyH.cons (at_drop (i := 4) rfl) (fun K2 hK => ?_) (AllReadyH.cons (at_drop (i := 6) rfl) (fun K2 hK => ?_) (AllReadyH.cons (at_drop (i := 8) rfl) (fun K2 hK => ?_) (AllReadyH.nil))))
        · obtain ⟨Z3, hZ3⟩ : ∃ Z', Z' = Z2.alloc (mkO n) := ⟨_, rfl⟩
          have hb : Below Z2.heap.size Z2 Z3 := by rw [hZ3]; exact rbel _ _
          replace HLS := Lib.hid (HLS.out.block (hb.block _ HLS.out.lt))
          have HFL : Hid (InBlk Z2.heap.size n (fun _ => 0) Z3) := by show InBlk _ _ _ _; rw [hZ3]; exact made_blk Z2 n
          obtain ⟨gf, hg0⟩ : ∃ g, g = Z2.heap.size := ⟨_, rfl⟩
          rw [← hg0] at HFL
          have HGF : Hid (V0.heap.size ≤ gf) := by show _ ≤ _; rw [hg0]; exact hHeld.size
          go_simp
          rw [← hZ3, ← hg0]
          clear hg0
          clear hZ3
          refine hK.out _ _ (hHeld.trans (hb.mono hHeld.size)) (fun hHeld2 => ?_)
          clear hK hHeld hb
          have hHeld := hHeld2
          clear hHeld2
          refine wpAnyH_ready (rs := [6, 8]) (by kernel_rfl) (by simp) (AllReadyH.cons (at_drop (i := 6) rfl) (fun K2 hK => ?_) (AllReadyH.cons (at_drop (i := 8) rfl) (fun K2 hK => ?_) (AllReadyH.nil)))
          · have hlt9 := HFL.out.lt
            obtain ⟨Z4, hZ4⟩ : ∃ Z', Z' = Z3.alloc (mkO n) := ⟨_, rfl⟩
            have hb : Below Z3.heap.size Z3 Z4 := by rw [hZ4]; exact rbel _ _
            replace HLS := Lib.hid (HLS.out.block (hb.block _ HLS.out.lt))
            replace HFL := Lib.hid (HFL.out.block (hb.block _ HFL.out.lt))
            have HTK : Hid (InBlk Z3.heap.size n (fun _ => 0) Z4) := by show InBlk _ _ _ _; rw [hZ4]; exact made_blk Z3 n
            obtain ⟨gt, hg0⟩ : ∃ g, g = Z3.heap.size := ⟨_, rfl⟩
            rw [← hg0] at HTK
            have HGT : Hid (V0.heap.size ≤ gt) := by show _ ≤ _; rw [hg0]; exact hHeld.size
            have HNE : Hid (gf ≠ gt) := by show gf ≠ gt; omega
            clear hlt9
            go_simp
            rw [← hZ4, ← hg0]
            clear hg0
            clear hZ4
            refine hK.out _ _ (hHeld.trans (hb.mono hHeld.size)) (fun hHeld2 => ?_)
            clear hK hHeld hb
            have hHeld := hHeld2
            clear hHeld2
            refine take_do (i := 7) (v := (.agg #[.slice (some ⟨gl, 0, none⟩) n cA, .slice (some ⟨gf, 0, none⟩) n n, .slice (some ⟨gt, 0, none⟩) n n, .int .i64 0, .int .i64 0])) rfl (by kernel_rfl) (by kernel_rfl) (by kernel_rfl) (fun _ _ _ h => h) (by rfl) ?_ (by assumption) ?_
            · intro w hSw
              skip
              go_simp
            simp only [Act.put, List.setIfInBounds_toArray, List.set_cons_zero, List.set_cons_succ]
            refine wpAnyH_ready (rs := [8]) (by kernel_rfl) (by simp) (AllReadyH.cons (at_drop (i := 8) rfl) (fun K2 hK => ?_) (AllReadyH.nil))
            obtain ⟨Z5, hZ5⟩ : ∃ Z', Z' = Z4.alloc (.cells #[.slice none 0 0, .slice none 0 0, .slice none 0 0, .int .i64 0, .int .i64 0] 27) := ⟨_, rfl⟩
            have hb : Below Z4.heap.size Z4 Z5 := by rw [hZ5]; exact rbel _ _
            replace HLS := Lib.hid (HLS.out.block (hb.block _ HLS.out.lt))
            replace HFL := Lib.hid (HFL.out.block (hb.block _ HFL.out.lt))
            replace HTK := Lib.hid (HTK.out.block (hb.block _ HTK.out.lt))
            have HV : Hid (Z5.rowIs Z4.heap.size 27 5 (ro5 (.slice none 0 0) (.slice none 0 0) (.slice none 0 0) 0 0)) := by show World.rowIs _ _ _ _ _; rw [hZ5]; exact World.rowIs_alloc Z4 #[.slice none 0 0, .slice none 0 0, .slice none 0 0, .int .i64 0, .int .i64 0] 27 _ (ro5_row (.slice none 0 0) (.slice none 0 0) (.slice none 0 0) 0 0)
            obtain ⟨po, hg0⟩ : ∃ g, g = Z4.heap.size := ⟨_, rfl⟩
            rw [← hg0] at HV
            have HPO : Hid (V0.heap.size ≤ po) := by show _ ≤ _; rw [hg0]; exact hHeld.size
            go_simp
            rw [← hZ5, ← hg0]
            clear hg0
            clear hZ5
            refine hK.out _ _ (hHeld.trans (hb.mono hHeld.size)) (fun hHeld2 => ?_)
            clear hK hHeld hb
            have hHeld := hHeld2
            clear hHeld2
            obtain ⟨WF, HWF, HRM, HBF, ⟨o0, o1, o2, o3, o4⟩, ⟨z0, z1, z2, z3, z4⟩, hol⟩ := rr_leaf (gl := gl) (cA := cA) HSL.out hHeld HV.out HLS.out HFL.out HTK.out HPO.out HGF.out HGT.out HGL.out HNE.out
            refine take_call (i := 9) rfl (by kernel_rfl) (fun K2 hK => ?_)
            go_simp
            rw [← HWF.out]
            refine hK.out _ _ HBF.out (fun _ => ?_)
            clear hK HWF
            refine wpAnyH_done (by kernel_rfl) ?_ _
            go_wp2_with fail
            go_meet
            case rel => exact ⟨po, gl, cA, gf, gt, rfl, HRM⟩
          · obtain ⟨Z6, hZ6⟩ : ∃ Z', Z' = Z3.alloc (.cells #[.slice none 0 0, .slice none 0 0, .slice none 0 0, .int .i64 0, .int .i64 0] 27) := ⟨_, rfl⟩
            have hb : Below Z3.heap.size Z3 Z6 := by rw [hZ6]; exact rbel _ _
            replace HLS := Lib.hid (HLS.out.block (hb.block _ HLS.out.lt))
            replace HFL := Lib.hid (HFL.out.block (hb.block _ HFL.out.lt))
            have HV : Hid (Z6.rowIs Z3.heap.size 27 5 (ro5 (.slice none 0 0) (.slice none 0 0) (.slice none 0 0) 0 0)) := by show World.rowIs _ _ _ _ _; rw [hZ6]; exact World.rowIs_alloc Z3 #[.slice none 0 0, .slice none 0 0, .slice none 0 0, .int .i64 0, .int .i64 0] 27 _ (ro5_row (.slice none 0 0) (.slice none 0 0) (.slice none 0 0) 0 0)
            obtain ⟨po, hg0⟩ : ∃ g, g = Z3.heap.size := ⟨_, rfl⟩
            rw [← hg0] at HV
            have HPO : Hid (V0.heap.size ≤ po) := by show _ ≤ _; rw [hg0]; exact hHeld.size
            go_simp
            rw [← hZ6, ← hg0]
            clear hg0
            clear hZ6
            refine hK.out _ _ (hHeld.trans (hb.mono hHeld.size)) (fun hHeld2 => ?_)
            clear hK hHeld hb
            have hHeld := hHeld2
            clear hHeld2
            refine wpAnyH_ready (rs := [6]) (by kernel_rfl) (by simp) (AllReadyH.cons (at_drop (i := 6) rfl) (fun K2 hK => ?_) (AllReadyH.nil))
            have hlt9 := HFL.out.lt
            obtain ⟨Z7, hZ7⟩ : ∃ Z', Z' = Z6.alloc (mkO n) := ⟨_, rfl⟩
            have hb : Below Z6.heap.size Z6 Z7 := by rw [hZ7]; exact rbel _ _
            replace HLS := Lib.hid (HLS.out.block (hb.block _ HLS.out.lt))
            replace HFL := Lib.hid (HFL.out.block (hb.block _ HFL.out.lt))
            replace HV := Lib.hid (rrow_below HV.out hb)
            have HTK : Hid (InBlk Z6.heap.size n (fun _ => 0) Z7) := by show InBlk _ _ _ _; rw [hZ7]; exact made_blk Z6 n
            obtain ⟨gt, hg0⟩ : ∃ g, g = Z6.heap.size := ⟨_, rfl⟩
            rw [← hg0] at HTK
            have HGT : Hid (V0.heap.size ≤ gt) := by show _ ≤ _; rw [hg0]; exact hHeld.size
            have HNE : Hid (gf ≠ gt) := by show gf ≠ gt; omega
            clear hlt9
            go_simp
            rw [← hZ7, ← hg0]
            clear hg0
            clear hZ7
            refine hK.out _ _ (hHeld.trans (hb.mono hHeld.size)) (fun hHeld2 => ?_)
            clear hK hHeld hb
            have hHeld := hHeld2
            clear hHeld2
            refine take_do (i := 7) (v := (.agg #[.slice (some ⟨gl, 0, none⟩) n cA, .slice (some ⟨gf, 0, none⟩) n n, .slice (some ⟨gt, 0, none⟩) n n, .int .i64 0, .int .i64 0])) rfl (by kernel_rfl) (by kernel_rfl) (by kernel_rfl) (fun _ _ _ h => h) (by rfl) ?_ (by assumption) ?_
            · intro w hSw
              skip
              go_simp
            simp only [Act.put, List.setIfInBounds_toArray, List.set_cons_zero, List.set_cons_succ]
            obtain ⟨WF, HWF, HRM, HBF, ⟨o0, o1, o2, o3, o4⟩, ⟨z0, z1, z2, z3, z4⟩, hol⟩ := rr_leaf (gl := gl) (cA := cA) HSL.out hHeld HV.out HLS.out HFL.out HTK.out HPO.out HGF.out HGT.out HGL.out HNE.out
            refine take_call (i := 9) rfl (by kernel_rfl) (fun K2 hK => ?_)
            go_simp
            rw [← HWF.out]
            refine hK.out _ _ HBF.out (fun _ => ?_)
            clear hK HWF
            refine wpAnyH_done (by kernel_rfl) ?_ _
            go_wp2_with fail
            go_meet
            case rel => exact ⟨po, gl, cA, gf, gt, rfl, HRM⟩
        · obtain ⟨Z8, hZ8⟩ : ∃ Z', Z' = Z2.alloc (mkO n) := ⟨_, rfl⟩
          have hb : Below Z2.heap.size Z2 Z8 := by rw [hZ8]; exact rbel _ _
          replace HLS := Lib.hid (HLS.out.block (hb.block _ HLS.out.lt))
          have HTK : Hid (InBlk Z2.heap.size n (fun _ => 0) Z8) := by show InBlk _ _ _ _; rw [hZ8]; exact made_blk Z2 n
          obtain ⟨gt, hg0⟩ : ∃ g, g = Z2.heap.size := ⟨_, rfl⟩
          rw [← hg0] at HTK
          have HGT : Hid (V0.heap.size ≤ gt) := by show _ ≤ _; rw [hg0]; exact hHeld.size
          go_simp
          rw [← hZ8, ← hg0]
          clear hg0
          clear hZ8
          refine hK.out _ _ (hHeld.trans (hb.mono hHeld.size)) (fun hHeld2 => ?_)
          clear hK hHeld hb
          have hHeld := hHeld2
          clear hHeld2
          refine wpAnyH_ready (rs := [4, 8]) (by kernel_rfl) (by simp) (AllReadyH.cons (at_drop (i := 4) rfl) (fun K2 hK => ?_) (AllReadyH.cons (at_drop (i := 8) rfl) (fun K2 hK => ?_) (AllReadyH.nil)))
          · have hlt9 := HTK.out.lt
            obtain ⟨Z9, hZ9⟩ : ∃ Z', Z' = Z8.alloc (mkO n) := ⟨_, rfl⟩
            have hb : Below Z8.heap.size Z8 Z9 := by rw [hZ9]; exact rbel _ _
            replace HLS := Lib.hid (HLS.out.block (hb.block _ HLS.out.lt))
            replace HTK := Lib.hid (HTK.out.block (hb.block _ HTK.out.lt))
            have HFL : Hid (InBlk Z8.heap.size n (fun _ => 0) Z9) := by show InBlk _ _ _ _; rw [hZ9]; exact made_blk Z8 n
            obtain ⟨gf, hg0⟩ : ∃ g, g = Z8.heap.size := ⟨_, rfl⟩
            rw [← hg0] at HFL
            have HGF : Hid (V0.heap.size ≤ gf) := by show _ ≤ _; rw [hg0]; exact hHeld.size
            have HNE : Hid (gf ≠ gt) := by show gf ≠ gt; omega
            clear hlt9
            go_simp
            rw [← hZ9, ← hg0]
            clear hg0
            clear hZ9
            refine hK.out _ _ (hHeld.trans (hb.mono hHeld.size)) (fun hHeld2 => ?_)
            clear hK hHeld hb
            have hHeld := hHeld2
            clear hHeld2
            refine take_do (i := 7) (v := (.agg #[.slice (some ⟨gl, 0, none⟩) n cA, .slice (some ⟨gf, 0, none⟩) n n, .slice (some ⟨gt, 0, none⟩) n n, .int .i64 0, .int .i64 0])) rfl (by kernel_rfl) (by kernel_rfl) (by kernel_rfl) (fun _ _ _ h => h) (by rfl) ?_ (by assumption) ?_
            · intro w hSw
              skip
              go_simp
            simp only [Act.put, List.setIfInBounds_toArray, List.set_cons_zero, List.set_cons_succ]
            refine wpAnyH_ready (rs := [8]) (by kernel_rfl) (by simp) (AllReadyH.cons (at_drop (i := 8) rfl) (fun K2 hK => ?_) (AllReadyH.nil))
            obtain ⟨Z10, hZ10⟩ : ∃ Z', Z' = Z9.alloc (.cells #[.slice none 0 0, .slice none 0 0, .slice none 0 0, .int .i64 0, .int .i64 0] 27) := ⟨_, rfl⟩
            have hb : Below Z9.heap.size Z9 Z10 := by rw [hZ10]; exact rbel _ _
            replace HLS := Lib.hid (HLS.out.block (hb.block _ HLS.out.lt))
            replace HFL := Lib.hid (HFL.out.block (hb.block _ HFL.out.lt))
            replace HTK := Lib.hid (HTK.out.block (hb.block _ HTK.out.lt))
            have HV : Hid (Z10.rowIs Z9.heap.size 27 5 (ro5 (.slice none 0 0) (.slice none 0 0) (.slice none 0 0) 0 0)) := by show World.rowIs _ _ _ _ _; rw [hZ10]; exact World.rowIs_alloc Z9 #[.slice none 0 0, .slice none 0 0, .slice none 0 0, .int .i64 0, .int .i64 0] 27 _ (ro5_row (.slice none 0 0) (.slice none 0 0) (.slice none 0 0) 0 0)
            obtain ⟨po, hg0⟩ : ∃ g, g = Z9.heap.size := ⟨_, rfl⟩
            rw [← hg0] at HV
            have HPO : Hid (V0.heap.size ≤ po) := by show _ ≤ _; rw [hg0]; exact hHeld.size
            go_simp
            rw [← hZ10, ← hg0]
            clear hg0
            clear hZ10
            refine hK.out _ _ (hHeld.trans (hb.mono hHeld.size)) (fun hHeld2 => ?_)
            clear hK hHeld hb
            have hHeld := hHeld2
            clear hHeld2
            obtain ⟨WF, HWF, HRM, HBF, ⟨o0, o1, o2, o3, o4⟩, ⟨z0, z1, z2, z3, z4⟩, hol⟩ := rr_leaf (gl := gl) (cA := cA) HSL.out hHeld HV.out HLS.out HFL.out HTK.out HPO.out HGF.out HGT.out HGL.out HNE.out
            refine take_call (i := 9) rfl (by kernel_rfl) (fun K2 hK => ?_)
            go_simp
            rw [← HWF.out]
            refine hK.out _ _ HBF.out (fun _ => ?_)
            clear hK HWF
            refine wpAnyH_done (by kernel_rfl) ?_ _
            go_wp2_with fail
            go_meet
            case rel => exact ⟨po, gl, cA, gf, gt, rfl, HRM⟩
          · obtain ⟨Z11, hZ11⟩ : ∃ Z', Z' = Z8.alloc (.cells #[.slice none 0 0, .slice none 0 0, .slice none 0 0, .int .i64 0, .int .i64 0] 27) := ⟨_, rfl⟩
            have hb : Below Z8.heap.size Z8 Z11 := by rw [hZ11]; exact rbel _ _
            replace HLS := Lib.hid (HLS.out.block (hb.block _ HLS.out.lt))
            replace HTK := Lib.hid (HTK.out.block (hb.block _ HTK.out.lt))
            have HV : Hid (Z11.rowIs Z8.heap.size 27 5 (ro5 (.slice none 0 0) (.slice none 0 0) (.slice none 0 0) 0 0)) := by show World.rowIs _ _ _ _ _; rw [hZ11]; exact World.rowIs_alloc Z8 #[.slice none 0 0, .slice none 0 0, .slice none 0 0, .int .i64 0, .int .i64 0] 27 _ (ro5_row (.slice none 0 0) (.slice none 0 0) (.slice none 0 0) 0 0)
            obtain ⟨po, hg0⟩ : ∃ g, g = Z8.heap.size := ⟨_, rfl⟩
            rw [← hg0] at HV
            have HPO : Hid (V0.heap.size ≤ po) := by show _ ≤ _; rw [hg0]; exact hHeld.size
            go_simp
            rw [← hZ11, ← hg0]
            clear hg0
            clear hZ11
            refine hK.out _ _ (hHeld.trans (hb.mono hHeld.size)) (fun hHeld2 => ?_)
            clear hK hHeld hb
            have hHeld := hHeld2
            clear hHeld2
            refine wpAnyH_ready (rs := [4]) (by kernel_rfl) (by simp) (AllReadyH.cons (at_drop (i := 4) rfl) (fun K2 hK => ?_) (AllReadyH.nil))
            have hlt9 := HTK.out.lt
            obtain ⟨Z12, hZ12⟩ : ∃ Z', Z' = Z11.alloc (mkO n) := ⟨_, rfl⟩
            have hb : Below Z11.heap.size Z11 Z12 := by rw [hZ12]; exact rbel _ _
            replace HLS := Lib.hid (HLS.out.block (hb.block _ HLS.out.lt))
            replace HTK := Lib.hid (HTK.out.block (hb.block _ HTK.out.lt))
            replace HV := Lib.hid (rrow_below HV.out hb)
            have HFL : Hid (InBlk Z11.heap.size n (fun _ => 0) Z12) := by show InBlk _ _ _ _; rw [hZ12]; exact made_blk Z11 n
            obtain ⟨gf, hg0⟩ : ∃ g, g = Z11.heap.size := ⟨_, rfl⟩
            rw [← hg0] at HFL
            have HGF : Hid (V0.heap.size ≤ gf) := by show _ ≤ _; rw [hg0]; exact hHeld.size
            have HNE : Hid (gf ≠ gt) := by show gf ≠ gt; omega
            clear hlt9
            go_simp
            rw [← hZ12, ← hg0]
            clear hg0
            clear hZ12
            refine hK.out _ _ (hHeld.trans (hb.mono hHeld.size)) (fun hHeld2 => ?_)
            clear hK hHeld hb
            have hHeld := hHeld2
            clear hHeld2
            refine take_do (i := 7) (v := (.agg #[.slice (some ⟨gl, 0, none⟩) n cA, .slice (some ⟨gf, 0, none⟩) n n, .slice (some ⟨gt, 0, none⟩) n n, .int .i64 0, .int .i64 0])) rfl (by kernel_rfl) (by kernel_rfl) (by kernel_rfl) (fun _ _ _ h => h) (by rfl) ?_ (by assumption) ?_
            · intro w hSw
              skip
              go_simp
            simp only [Act.put, List.setIfInBounds_toArray, List.set_cons_zero, List.set_cons_succ]
            obtain ⟨WF, HWF, HRM, HBF, ⟨o0, o1, o2, o3, o4⟩, ⟨z0, z1, z2, z3, z4⟩, hol⟩ := rr_leaf (gl := gl) (cA := cA) HSL.out hHeld HV.out HLS.out HFL.out HTK.out HPO.out HGF.out HGT.out HGL.out HNE.out
            refine take_call (i := 9) rfl (by kernel_rfl) (fun K2 hK => ?_)
            go_simp
            rw [← HWF.out]
            refine hK.out _ _ HBF.out (fun _ => ?_)
            clear hK HWF
            refine wpAnyH_done (by kernel_rfl) ?_ _
            go_wp2_with fail
            go_meet
            case rel => exact ⟨po, gl, cA, gf, gt, rfl, HRM⟩
        · obtain ⟨Z13, hZ13⟩ : ∃ Z', Z' = Z2.alloc (.cells #[.slice none 0 0, .slice none 0 0, .slice none 0 0, .int .i64 0, .int .i64 0] 27) := ⟨_, rfl⟩
          have hb : Below Z2.heap.size Z2 Z13 := by rw [hZ13]; exact rbel _ _
          replace HLS := Lib.hid (HLS.out.block (hb.block _ HLS.out.lt))
          have HV : Hid (Z13.rowIs Z2.heap.size 27 5 (ro5 (.slice none 0 0) (.slice none 0 0) (.slice none 0 0) 0 0)) := by show World.rowIs _ _ _ _ _; rw [hZ13]; exact World.rowIs_alloc Z2 #[.slice none 0 0, .slice none 0 0, .slice none 0 0, .int .i64 0, .int .i64 0] 27 _ (ro5_row (.slice none 0 0) (.slice none 0 0) (.slice none 0 0) 0 0)
          obtain ⟨po, hg0⟩ : ∃ g, g = Z2.heap.size := ⟨_, rfl⟩
          rw [← hg0] at HV
          have HPO : Hid (V0.heap.size ≤ po) := by show _ ≤ _; rw [hg0]; exact hHeld.size
          go_simp
          rw [← hZ13, ← hg0]
          clear hg0
          clear hZ13
          refine hK.out _ _ (hHeld.trans (hb.mono hHeld.size)) (fun hHeld2 => ?_)
          clear hK hHeld hb
          have hHeld := hHeld2
          clear hHeld2
          refine wpAnyH_ready (rs := [4, 6]) (by kernel_rfl) (by simp) (AllReadyH.cons (at_drop (i := 4) rfl) (fun K2 hK => ?_) (AllReadyH.cons (at_drop (i := 6) rfl) (fun K2 hK => ?_) (AllReadyH.nil)))
          · obtain ⟨Z14, hZ14⟩ : ∃ Z', Z' = Z13.alloc (mkO n) := ⟨_, rfl⟩
            have hb : Below Z13.heap.size Z13 Z14 := by rw [hZ14]; exact rbel _ _
            replace HLS := Lib.hid (HLS.out.block (hb.block _ HLS.out.lt))
            replace HV := Lib.hid (rrow_below HV.out hb)
            have HFL : Hid (InBlk Z13.heap.size n (fun _ => 0) Z14) := by show InBlk _ _ _ _; rw [hZ14]; exact made_blk Z13 n
            obtain ⟨gf, hg0⟩ : ∃ g, g = Z13.heap.size := ⟨_, rfl⟩
            rw [← hg0] at HFL
            have HGF : Hid (V0.heap.size ≤ gf) := by show _ ≤ _; rw [hg0]; exact hHeld.size
            go_simp
            rw [← hZ14, ← hg0]
            clear hg0
            clear hZ14
            refine hK.out _ _ (hHeld.trans (hb.mono hHeld.size)) (fun hHeld2 => ?_)
            clear hK hHeld hb
            have hHeld := hHeld2
            clear hHeld2
            refine wpAnyH_ready (rs := [6]) (by kernel_rfl) (by simp) (AllReadyH.cons (at_drop (i := 6) rfl) (fun K2 hK => ?_) (AllReadyH.nil))
            have hlt9 := HFL.out.lt
            obtain ⟨Z15, hZ15⟩ : ∃ Z', Z' = Z14.alloc (mkO n) := ⟨_, rfl⟩
            have hb : Below Z14.heap.size Z14 Z15 := by rw [hZ15]; exact rbel _ _
            replace HLS := Lib.hid (HLS.out.block (hb.block _ HLS.out.lt))
            replace HFL := Lib.hid (HFL.out.block (hb.block _ HFL.out.lt))
            replace HV := Lib.hid (rrow_below HV.out hb)
            have HTK : Hid (InBlk Z14.heap.size n (fun _ => 0) Z15) := by show InBlk _ _ _ _; rw [hZ15]; exact made_blk Z14 n
            obtain ⟨gt, hg0⟩ : ∃ g, g = Z14.heap.size := ⟨_, rfl⟩
            rw [← hg0] at HTK
            have HGT : Hid (V0.heap.size ≤ gt) := by show _ ≤ _; rw [hg0]; exact hHeld.size
            have HNE : Hid (gf ≠ gt) := by show gf ≠ gt; omega
            clear hlt9
            go_simp
            rw [← hZ15, ← hg0]
            clear hg0
            clear hZ15
            refine hK.out _ _ (hHeld.trans (hb.mono hHeld.size)) (fun hHeld2 => ?_)
            clear hK hHeld hb
            have hHeld := hHeld2
            clear hHeld2
            refine take_do (i := 7) (v := (.agg #[.slice (some ⟨gl, 0, none⟩) n cA, .slice (some ⟨gf, 0, none⟩) n n, .slice (some ⟨gt, 0, none⟩) n n, .int .i64 0, .int .i64 0])) rfl (by kernel_rfl) (by kernel_rfl) (by kernel_rfl) (fun _ _ _ h => h) (by rfl) ?_ (by assumption) ?_
            · intro w hSw
              skip
              go_simp
            simp only [Act.put, List.setIfInBounds_toArray, List.set_cons_zero, List.set_cons_succ]
            obtain ⟨WF, HWF, HRM, HBF, ⟨o0, o1, o2, o3, o4⟩, ⟨z0, z1, z2, z3, z4⟩, hol⟩ := rr_leaf (gl := gl) (cA := cA) HSL.out hHeld HV.out HLS.out HFL.out HTK.out HPO.out HGF.out HGT.out HGL.out HNE.out
            refine take_call (i := 9) rfl (by kernel_rfl) (fun K2 hK => ?_)
            go_simp
            rw [← HWF.out]
            refine hK.out _ _ HBF.out (fun _ => ?_)
            clear hK HWF
            refine wpAnyH_done (by kernel_rfl) ?_ _
            go_wp2_with fail
            go_meet
            case rel => exact ⟨po, gl, cA, gf, gt, rfl, HRM⟩
          · obtain ⟨Z16, hZ16⟩ : ∃ Z', Z' = Z13.alloc (mkO n) := ⟨_, rfl⟩
            have hb : Below Z13.heap.size Z13 Z16 := by rw [hZ16]; exact rbel _ _
            replace HLS := Lib.hid (HLS.out.block (hb.block _ HLS.out.lt))
            replace HV := Lib.hid (rrow_below HV.out hb)
            have HTK : Hid (InBlk Z13.heap.size n (fun _ => 0) Z16) := by show InBlk _ _ _ _; rw [hZ16]; exact made_blk Z13 n
            obtain ⟨gt, hg0⟩ : ∃ g, g = Z13.heap.size := ⟨_, rfl⟩
            rw [← hg0] at HTK
            have HGT : Hid (V0.heap.size ≤ gt) := by show _ ≤ _; rw [hg0]; exact hHeld.size
            go_simp
            rw [← hZ16, ← hg0]
            clear hg0
            clear hZ16
            refine hK.out _ _ (hHeld.trans (hb.mono hHeld.size)) (fun hHeld2 => ?_)
            clear hK hHeld hb
            have hHeld := hHeld2
            clear hHeld2
            refine wpAnyH_ready (rs := [4]) (by kernel_rfl) (by simp) (AllReadyH.cons (at_drop (i := 4) rfl) (fun K2 hK => ?_) (AllReadyH.nil))
            have hlt9 := HTK.out.lt
            obtain ⟨Z17, hZ17⟩ : ∃ Z', Z' = Z16.alloc (mkO n) := ⟨_, rfl⟩
            have hb : Below Z16.heap.size Z16 Z17 := by rw [hZ17]; exact rbel _ _
            replace HLS := Lib.hid (HLS.out.block (hb.block _ HLS.out.lt))
            replace HTK := Lib.hid (HTK.out.block (hb.block _ HTK.out.lt))
            replace HV := Lib.hid (rrow_below HV.out hb)
            have HFL : Hid (InBlk Z16.heap.size n (fun _ => 0) Z17) := by show InBlk _ _ _ _; rw [hZ17]; exact made_blk Z16 n
            obtain ⟨gf, hg0⟩ : ∃ g, g = Z16.heap.size := ⟨_, rfl⟩
            rw [← hg0] at HFL
            have HGF : Hid (V0.heap.size ≤ gf) := by show _ ≤ _; rw [hg0]; exact hHeld.size
            have HNE : Hid (gf ≠ gt) := by show gf ≠ gt; omega
            clear hlt9
            go_simp
            rw [← hZ17, ← hg0]
            clear hg0
            clear hZ17
            refine hK.out _ _ (hHeld.trans (hb.mono hHeld.size)) (fun hHeld2 => ?_)
            clear hK hHeld hb
            have hHeld := hHeld2
            clear hHeld2
            refine take_do (i := 7) (v := (.agg #[.slice (some ⟨gl, 0, none⟩) n cA, .slice (some ⟨gf, 0, none⟩) n n, .slice (some ⟨gt, 0, none⟩) n n, .int .i64 0, .int .i64 0])) rfl (by kernel_rfl) (by kernel_rfl) (by kernel_rfl) (fun _ _ _ h => h) (by rfl) ?_ (by assumption) ?_
            · intro w hSw
              skip
              go_simp
            simp only [Act.put, List.setIfInBounds_toArray, List.set_cons_zero, List.set_cons_succ]
            obtain ⟨WF, HWF, HRM, HBF, ⟨o0, o1, o2, o3, o4⟩, ⟨z0, z1, z2, z3, z4⟩, hol⟩ := rr_leaf (gl := gl) (cA := cA) HSL.out hHeld HV.out HLS.out HFL.out HTK.out HPO.out HGF.out HGT.out HGL.out HNE.out
            refine take_call (i := 9) rfl (by kernel_rfl) (fun K2 hK => ?_)
            go_simp
            rw [← HWF.out]
            refine hK.out _ _ HBF.out (fun _ => ?_)
            clear hK HWF
            refine wpAnyH_done (by kernel_rfl) ?_ _
            go_wp2_with fail
            go_meet
            case rel => exact ⟨po, gl, cA, gf, gt, rfl, HRM⟩
      · obtain ⟨Z18, hZ18⟩ : ∃ Z', Z' = Z1.alloc (mkO n) := ⟨_, rfl⟩
        have hb : Below Z1.heap.size Z1 Z18 := by rw [hZ18]; exact rbel _ _
        replace OW := Lib.hid (rown_below OW.out hb)
        have HFL : Hid (InBlk Z1.heap.size n (fun _ => 0) Z18) := by show InBlk _ _ _ _; rw [hZ18]; exact made_blk Z1 n
        obtain ⟨gf, hg0⟩ : ∃ g, g = Z1.heap.size := ⟨_, rfl⟩
        rw [← hg0] at HFL
        have HGF : Hid (V0.heap.size ≤ gf) := by show _ ≤ _; rw [hg0]; exact hHeld.size
        go_simp
        rw [← hZ18, ← hg0]
        clear hg0
        clear hZ18
        refine hK.out _ _ (hHeld.trans (hb.mono hHeld.size)) (fun hHeld2 => ?_)
        clear hK hHeld hb
        have hHeld := hHeld2
        clear hHeld2
        refine wpAnyH_ready (rs := [2, 6, 8]) (by kernel_rfl) (by simp) (AllReadyH.cons (at_drop (i := 2) rfl) (fun K2 hK => ?_) (AllReadyH.cons (at_drop (i := 6) rfl) (fun K2 hK => ?_) (AllReadyH.cons (at_drop (i := 8) rfl) (fun K2 hK => ?_) (AllReadyH.nil))))
        · refine step_append_rv rfl (.tmp 25) (.tmp 26) 25 rfl V0.heap.size 55 i0 _ 6 48 Tryd.underlying25 hi0 hy0 hy1 hy2 rfl (by decide) _ 0 [] rfl OW.out ⟨lb, 0, none⟩ n cn (inVs (scF rs) (n * 6)) rfl (by rw [inVs_len]) (rc_news (fun i hi => (H.out i hi).block (hHeld.block _ HLB.out))) rc_one (by unfold maxLen; omega) (by omega) hHeld.size ?_
          intro v5 Z19 hown hgrow
          have hb0 : Below V0.heap.size Z18 Z19 := (Below.refl _ _).grown hgrow hHeld.size (fun k e => (OW.out.lt k e).1)
          obtain ⟨gl, cA, rfl, hgl, hls⟩ := own_rc (by simpa using hown) hn1
          have HLS := Lib.hid hls
          have HGL := Lib.hid hgl
          replace HFL := Lib.hid (HFL.out.block (hgrow.block _ HFL.out.lt (rown_nei OW.out HFL.out)))
          refine hK.out _ _ (hHeld.trans hb0) (fun hHeld2 => ?_)
          clear hK hHeld hb0 hown hgrow hls hgl OW
          have hHeld := hHeld2
          clear hHeld2
          simp only [Act.put, List.setIfInBounds_toArray, List.set_cons_zero, List.set_cons_succ]
          refine wpAnyH_ready (rs := [6, 8]) (by kernel_rfl) (by simp) (AllReadyH.cons (at_drop (i := 6) rfl) (fun K2 hK => ?_) (AllReadyH.cons (at_drop (i := 8) rfl) (fun K2 hK => ?_) (AllReadyH.nil)))
          · have hlt9 := HFL.out.lt
            obtain ⟨Z20, hZ20⟩ : ∃ Z', Z' = Z19.alloc (mkO n) := ⟨_, rfl⟩
            have hb : Below Z19.heap.size Z19 Z20 := by rw [hZ20]; exact rbel _ _
            replace HLS := Lib.hid (HLS.out.block (hb.block _ HLS.out.lt))
            replace HFL := Lib.hid (HFL.out.block (hb.block _ HFL.out.lt))
            have HTK : Hid (InBlk Z19.heap.size n (fun _ => 0) Z20) := by show InBlk _ _ _ _; rw [hZ20]; exact made_blk Z19 n
            obtain ⟨gt, hg0⟩ : ∃ g, g = Z19.heap.size := ⟨_, rfl⟩
            rw [← hg0] at HTK
            have HGT : Hid (V0.heap.size ≤ gt) := by show _ ≤ _; rw [hg0]; exact hHeld.size
            have HNE : Hid (gf ≠ gt) := by show gf ≠ gt; omega
            clear hlt9
            go_simp
            rw [← hZ20, ← hg0]
            clear hg0
            clear hZ20
            refine hK.out _ _ (hHeld.trans (hb.mono hHeld.size)) (fun hHeld2 => ?_)
            clear hK hHeld hb
            have hHeld := hHeld2
            clear hHeld2
            refine take_do (i := 7) (v := (.agg #[.slice (some ⟨gl, 0, none⟩) n cA, .slice (some ⟨gf, 0, none⟩) n n, .slice (some ⟨gt, 0, none⟩) n n, .int .i64 0, .int .i64 0])) rfl (by kernel_rfl) (by kernel_rfl) (by kernel_rfl) (fun _ _ _ h => h) (by rfl) ?_ (by assumption) ?_
            · intro w hSw
              skip
              go_simp
            simp only [Act.put, List.setIfInBounds_toArray, List.set_cons_zero, List.set_cons_succ]
            refine wpAnyH_ready (rs := [8]) (by kernel_rfl) (by simp) (AllReadyH.cons (at_drop (i := 8) rfl) (fun K2 hK => ?_) (AllReadyH.nil))
            obtain ⟨Z21, hZ21⟩ : ∃ Z', Z' = Z20.alloc (.cells #[.slice none 0 0, .slice none 0 0, .slice none 0 0, .int .i64 0, .int .i64 0] 27) := ⟨_, rfl⟩
            have hb : Below Z20.heap.size Z20 Z21 := by rw [hZ21]; exact rbel _ _
            replace HLS := Lib.hid (HLS.out.block (hb.block _ HLS.out.lt))
            replace HFL := Lib.hid (HFL.out.block (hb.block _ HFL.out.lt))
            replace HTK := Lib.hid (HTK.out.block (hb.block _ HTK.out.lt))
            have HV : Hid (Z21.rowIs Z20.heap.size 27 5 (ro5 (.slice none 0 0) (.slice none 0 0) (.slice none 0 0) 0 0)) := by show World.rowIs _ _ _ _ _; rw [hZ21]; exact World.rowIs_alloc Z20 #[.slice none 0 0, .slice none 0 0, .slice none 0 0, .int .i64 0, .int .i64 0] 27 _ (ro5_row (.slice none 0 0) (.slice none 0 0) (.slice none 0 0) 0 0)
            obtain ⟨po, hg0⟩ : ∃ g, g = Z20.heap.size := ⟨_, rfl⟩
            rw [← hg0] at HV
            have HPO : Hid (V0.heap.size ≤ po) := by show _ ≤ _; rw [hg0]; exact hHeld.size
            go_simp
            rw [← hZ21, ← hg0]
            clear hg0
            clear hZ21
            refine hK.out _ _ (hHeld.trans (hb.mono hHeld.size)) (fun hHeld2 => ?_)
            clear hK hHeld hb
            have hHeld := hHeld2
            clear hHeld2
            obtain ⟨WF, HWF, HRM, HBF, ⟨o0, o1, o2, o3, o4⟩, ⟨z0, z1, z2, z3, z4⟩, hol⟩ := rr_leaf (gl := gl) (cA := cA) HSL.out hHeld HV.out HLS.out HFL.out HTK.out HPO.out HGF.out HGT.out HGL.out HNE.out
            refine take_call (i := 9) rfl (by kernel_rfl) (fun K2 hK => ?_)
            go_simp
            rw [← HWF.out]
            refine hK.out _ _ HBF.out (fun _ => ?_)
            clear hK HWF
            refine wpAnyH_done (by kernel_rfl) ?_ _
            go_wp2_with fail
            go_meet
            case rel => exact ⟨po, gl, cA, gf, gt, rfl, HRM⟩
          · obtain ⟨Z22, hZ22⟩ : ∃ Z', Z' = Z19.alloc (.cells #[.slice none 0 0, .slice none 0 0, .slice none 0 0, .int .i64 0, .int .i64 0] 27) := ⟨_, rfl⟩
            have hb : Below Z19.heap.size Z19 Z22 := by rw [hZ22]; exact rbel _ _
            replace HLS := Lib.hid (HLS.out.block (hb.block _ HLS.out.lt))
            replace HFL := Lib.hid (HFL.out.block (hb.block _ HFL.out.lt))
            have HV : Hid (Z22.rowIs Z19.heap.size 27 5 (ro5 (.slice none 0 0) (.slice none 0 0) (.slice none 0 0) 0 0)) := by show World.rowIs _ _ _ _ _; rw [hZ22]; exact World.rowIs_alloc Z19 #[.slice none 0 0, .slice none 0 0, .slice none 0 0, .int .i64 0, .int .i64 0] 27 _ (ro5_row (.slice none 0 0) (.slice none 0 0) (.slice none 0 0) 0 0)
            obtain ⟨po, hg0⟩ : ∃ g, g = Z19.heap.size := ⟨_, rfl⟩
            rw [← hg0] at HV
            have HPO : Hid (V0.heap.size ≤ po) := by show _ ≤ _; rw [hg0]; exact hHeld.size
            go_simp
            rw [← hZ22, ← hg0]
            clear hg0
            clear hZ22
            refine hK.out _ _ (hHeld.trans (hb.mono hHeld.size)) (fun hHeld2 => ?_)
            clear hK hHeld hb
            have hHeld := hHeld2
            clear hHeld2
            refine wpAnyH_ready (rs := [6]) (by kernel_rfl) (by simp) (AllReadyH.cons (at_drop (i := 6) rfl) (fun K2 hK => ?_) (AllReadyH.nil))
            have hlt9 := HFL.out.lt
            obtain ⟨Z23, hZ23⟩ : ∃ Z', Z' = Z22.alloc (mkO n) := ⟨_, rfl⟩
            have hb : Below Z22.heap.size Z22 Z23 := by rw [hZ23]; exact rbel _ _
            replace HLS := Lib.hid (HLS.out.block (hb.block _ HLS.out.lt))
            replace HFL := Lib.hid (HFL.out.block (hb.block _ HFL.out.lt))
            replace HV := Lib.hid (rrow_below HV.out hb)
            have HTK : Hid (InBlk Z22.heap.size n (fun _ => 0) Z23) := by show InBlk _ _ _ _; rw [hZ23]; exact made_blk Z22 n
            obtain ⟨gt, hg0⟩ : ∃ g, g = Z22.heap.size := ⟨_, rfl⟩
            rw [← hg0] at HTK
            have HGT : Hid (V0.heap.size ≤ gt) := by show _ ≤ _; rw [hg0]; exact hHeld.size
            have HNE : Hid (gf ≠ gt) := by show gf ≠ gt; omega
            clear hlt9
            go_simp
            rw [← hZ23, ← hg0]
            clear hg0
            clear hZ23
            refine hK.out _ _ (hHeld.trans (hb.mono hHeld.size)) (fun hHeld2 => ?_)
            clear hK hHeld hb
            have hHeld := hHeld2
            clear hHeld2
            refine take_do (i := 7) (v := (.agg #[.slice (some ⟨gl, 0, none⟩) n cA, .slice (some ⟨gf, 0, none⟩) n n, .slice (some ⟨gt, 0, none⟩) n n, .int .i64 0, .int .i64 0])) rfl (by kernel_rfl) (by kernel_rfl) (by kernel_rfl) (fun _ _ _ h => h) (by rfl) ?_ (by assumption) ?_
            · intro w hSw
              skip
              go_simp
            simp only [Act.put, List.setIfInBounds_toArray, List.set_cons_zero, List.set_cons_succ]
            obtain ⟨WF, HWF, HRM, HBF, ⟨o0, o1, o2, o3, o4⟩, ⟨z0, z1, z2, z3, z4⟩, hol⟩ := rr_leaf (gl := gl) (cA := cA) HSL.out hHeld HV.out HLS.out HFL.out HTK.out HPO.out HGF.out HGT.out HGL.out HNE.out
            refine take_call (i := 9) rfl (by kernel_rfl) (fun K2 hK => ?_)
            go_simp
            rw [← HWF.out]
            refine hK.out _ _ HBF.out (fun _ => ?_)
            clear hK HWF
            refine wpAnyH_done (by kernel_rfl) ?_ _
            go_wp2_with fail
            go_meet
            case rel => exact ⟨po, gl, cA, gf, gt, rfl, HRM⟩
        · have hlt9 := HFL.out.lt
          obtain ⟨Z24, hZ24⟩ : ∃ Z', Z' = Z18.alloc (mkO n) := ⟨_, rfl⟩
          have hb : Below Z18.heap.size Z18 Z24 := by rw [hZ24]; exact rbel _ _
          replace OW := Lib.hid (rown_below OW.out hb)
          replace HFL := Lib.hid (HFL.out.block (hb.block _ HFL.out.lt))
          have HTK : Hid (InBlk Z18.heap.size n (fun _ => 0) Z24) := by show InBlk _ _ _ _; rw [hZ24]; exact made_blk Z18 n
          obtain ⟨gt, hg0⟩ : ∃ g, g = Z18.heap.size := ⟨_, rfl⟩
          rw [← hg0] at HTK
          have HGT : Hid (V0.heap.size ≤ gt) := by show _ ≤ _; rw [hg0]; exact hHeld.size
          have HNE : Hid (gf ≠ gt) := by show gf ≠ gt; omega
          clear hlt9
          go_simp
          rw [← hZ24, ← hg0]
          clear hg0
          clear hZ24
          refine hK.out _ _ (hHeld.trans (hb.mono hHeld.size)) (fun hHeld2 => ?_)
          clear hK hHeld hb
          have hHeld := hHeld2
          clear hHeld2
          refine wpAnyH_ready (rs := [2, 8]) (by kernel_rfl) (by simp) (AllReadyH.cons (at_drop (i := 2) rfl) (fun K2 hK => ?_) (AllReadyH.cons (at_drop (i := 8) rfl) (fun K2 hK => ?_) (AllReadyH.nil)))
          · refine step_append_rv rfl (.tmp 25) (.tmp 26) 25 rfl V0.heap.size 55 i0 _ 6 48 Tryd.underlying25 hi0 hy0 hy1 hy2 rfl (by decide) _ 0 [] rfl OW.out ⟨lb, 0, none⟩ n cn (inVs (scF rs) (n * 6)) rfl (by rw [inVs_len]) (rc_news (fun i hi => (H.out i hi).block (hHeld.block _ HLB.out))) rc_one (by unfold maxLen; omega) (by omega) hHeld.size ?_
            intro v5 Z25 hown hgrow
            have hb0 : Below V0.heap.size Z24 Z25 := (Below.refl _ _).grown hgrow hHeld.size (fun k e => (OW.out.lt k e).1)
            obtain ⟨gl, cA, rfl, hgl, hls⟩ := own_rc (by simpa using hown) hn1
            have HLS := Lib.hid hls
            have HGL := Lib.hid hgl
            replace HFL := Lib.hid (HFL.out.block (hgrow.block _ HFL.out.lt (rown_nei OW.out HFL.out)))
            replace HTK := Lib.hid (HTK.out.block (hgrow.block _ HTK.out.lt (rown_nei OW.out HTK.out)))
            refine hK.out _ _ (hHeld.trans hb0) (fun hHeld2 => ?_)
            clear hK hHeld hb0 hown hgrow hls hgl OW
            have hHeld := hHeld2
            clear hHeld2
            simp only [Act.put, List.setIfInBounds_toArray, List.set_cons_zero, List.set_cons_succ]
            refine take_do (i := 7) (v := (.agg #[.slice (some ⟨gl, 0, none⟩) n cA, .slice (some ⟨gf, 0, none⟩) n n, .slice (some ⟨gt, 0, none⟩) n n, .int .i64 0, .int .i64 0])) rfl (by kernel_rfl) (by kernel_rfl) (by kernel_rfl) (fun _ _ _ h => h) (by rfl) ?_ (by assumption) ?_
            · intro w hSw
              skip
              go_simp
            simp only [Act.put, List.setIfInBounds_toArray, List.set_cons_zero, List.set_cons_succ]
            refine wpAnyH_ready (rs := [8]) (by kernel_rfl) (by simp) (AllReadyH.cons (at_drop (i := 8) rfl) (fun K2 hK => ?_) (AllReadyH.nil))
            obtain ⟨Z26, hZ26⟩ : ∃ Z', Z' = Z25.alloc (.cells #[.slice none 0 0, .slice none 0 0, .slice none 0 0, .int .i64 0, .int .i64 0] 27) := ⟨_, rfl⟩
            have hb : Below Z25.heap.size Z25 Z26 := by rw [hZ26]; exact rbel _ _
            replace HLS := Lib.hid (HLS.out.block (hb.block _ HLS.out.lt))
            replace HFL := Lib.hid (HFL.out.block (hb.block _ HFL.out.lt))
            replace HTK := Lib.hid (HTK.out.block (hb.block _ HTK.out.lt))
            have HV : Hid (Z26.rowIs Z25.heap.size 27 5 (ro5 (.slice none 0 0) (.slice none 0 0) (.slice none 0 0) 0 0)) := by show World.rowIs _ _ _ _ _; rw [hZ26]; exact World.rowIs_alloc Z25 #[.slice none 0 0, .slice none 0 0, .slice none 0 0, .int .i64 0, .int .i64 0] 27 _ (ro5_row (.slice none 0 0) (.slice none 0 0) (.slice none 0 0) 0 0)
            obtain ⟨po, hg0⟩ : ∃ g, g = Z25.heap.size := ⟨_, rfl⟩
            rw [← hg0] at HV
            have HPO : Hid (V0.heap.size ≤ po) := by show _ ≤ _; rw [hg0]; exact hHeld.size
            go_simp
            rw [← hZ26, ← hg0]
            clear hg0
            clear hZ26
            refine hK.out _ _ (hHeld.trans (hb.mono hHeld.size)) (fun hHeld2 => ?_)
            clear hK hHeld hb
            have hHeld := hHeld2
            clear hHeld2
            obtain ⟨WF, HWF, HRM, HBF, ⟨o0, o1, o2, o3, o4⟩, ⟨z0, z1, z2, z3, z4⟩, hol⟩ := rr_leaf (gl := gl) (cA := cA) HSL.out hHeld HV.out HLS.out HFL.out HTK.out HPO.out HGF.out HGT.out HGL.out HNE.out
            refine take_call (i := 9) rfl (by kernel_rfl) (fun K2 hK => ?_)
            go_simp
            rw [← HWF.out]
            refine hK.out _ _ HBF.out (fun _ => ?_)
            clear hK HWF
            refine wpAnyH_done (by kernel_rfl) ?_ _
            go_wp2_with fail
            go_meet
            case rel => exact ⟨po, gl, cA, gf, gt, rfl, HRM⟩
          · obtain ⟨Z27, hZ27⟩ : ∃ Z', Z' = Z24.alloc (.cells #[.slice none 0 0, .slice none 0 0, .slice none 0 0, .int .i64 0, .int .i64 0] 27) := ⟨_, rfl⟩
            have hb : Below Z24.heap.size Z24 Z27 := by rw [hZ27]; exact rbel _ _
            replace OW := Lib.hid (rown_below OW.out hb)
            replace HFL := Lib.hid (HFL.out.block (hb.block _ HFL.out.lt))
            replace HTK := Lib.hid (HTK.out.block (hb.block _ HTK.out.lt))
            have HV : Hid (Z27.rowIs Z24.heap.size 27 5 (ro5 (.slice none 0 0) (.slice none 0 0) (.slice none 0 0) 0 0)) := by show World.rowIs _ _ _ _ _; rw [hZ27]; exact World.rowIs_alloc Z24 #[.slice none 0 0, .slice none 0 0, .slice none 0 0, .int .i64 0, .int .i64 0] 27 _ (ro5_row (.slice none 0 0) (.slice none 0 0) (.slice none 0 0) 0 0)
            obtain ⟨po, hg0⟩ : ∃ g, g = Z24.heap.size := ⟨_, rfl⟩
            rw [← hg0] at HV
            have HPO : Hid (V0.heap.size ≤ po) := by show _ ≤ _; rw [hg0]; exact hHeld.size
            go_simp
            rw [← hZ27, ← hg0]
            clear hg0
            clear hZ27
            refine hK.out _ _ (hHeld.trans (hb.mono hHeld.size)) (fun hHeld2 => ?_)
            clear hK hHeld hb
            have hHeld := hHeld2
            clear hHeld2
            refine wpAnyH_ready (rs := [2]) (by kernel_rfl) (by simp) (AllReadyH.cons (at_drop (i := 2) rfl) (fun K2 hK => ?_) (AllReadyH.nil))
            refine step_append_rv rfl (.tmp 25) (.tmp 26) 25 rfl V0.heap.size 55 i0 _ 6 48 Tryd.underlying25 hi0 hy0 hy1 hy2 rfl (by decide) _ 0 [] rfl OW.out ⟨lb, 0, none⟩ n cn (inVs (scF rs) (n * 6)) rfl (by rw [inVs_len]) (rc_news (fun i hi => (H.out i hi).block (hHeld.block _ HLB.out))) rc_one (by unfold maxLen; omega) (by omega) hHeld.size ?_
            intro v5 Z28 hown hgrow
            have hb0 : Below V0.heap.size Z27 Z28 := (Below.refl _ _).grown hgrow hHeld.size (fun k e => (OW.out.lt k e).1)
            obtain ⟨gl, cA, rfl, hgl, hls⟩ := own_rc (by simpa using hown) hn1
            have HLS := Lib.hid hls
            have HGL := Lib.hid hgl
            replace HFL := Lib.hid (HFL.out.block (hgrow.block _ HFL.out.lt (rown_nei OW.out HFL.out)))
            replace HTK := Lib.hid (HTK.out.block (hgrow.block _ HTK.out.lt (rown_nei OW.out HTK.out)))
            replace HV := Lib.hid (HV.out.of_block (hgrow.block _ HV.out.lt (rown_ne OW.out HV.out (by decide))))
            refine hK.out _ _ (hHeld.trans hb0) (fun hHeld2 => ?_)
            clear hK hHeld hb0 hown hgrow hls hgl OW
            have hHeld := hHeld2
            clear hHeld2
            simp only [Act.put, List.setIfInBounds_toArray, List.set_cons_zero, List.set_cons_succ]
            refine take_do (i := 7) (v := (.agg #[.slice (some ⟨gl, 0, none⟩) n cA, .slice (some ⟨gf, 0, none⟩) n n, .slice (some ⟨gt, 0, none⟩) n n, .int .i64 0, .int .i64 0])) rfl (by kernel_rfl) (by kernel_rfl) (by kernel_rfl) (fun _ _ _ h => h) (by rfl) ?_ (by assumption) ?_
            · intro w hSw
              skip
              go_simp
            simp only [Act.put, List.setIfInBounds_toArray, List.set_cons_zero, List.set_cons_succ]
            obtain ⟨WF, HWF, HRM, HBF, ⟨o0, o1, o2, o3, o4⟩, ⟨z0, z1, z2, z3, z4⟩, hol⟩ := rr_leaf (gl := gl) (cA := cA) HSL.out hHeld HV.out HLS.out HFL.out HTK.out HPO.out HGF.out HGT.out HGL.out HNE.out
            refine take_call (i := 9) rfl (by kernel_rfl) (fun K2 hK => ?_)
            go_simp
            rw [← HWF.out]
            refine hK.out _ _ HBF.out (fun _ => ?_)
            clear hK HWF
            refine wpAnyH_done (by kernel_rfl) ?_ _
            go_wp2_with fail
            go_meet
            case rel => exact ⟨po, gl, cA, gf, gt, rfl, HRM⟩
        · obtain ⟨Z29, hZ29⟩ : ∃ Z', Z' = Z18.alloc (.cells #[.slice none 0 0, .slice none 0 0, .slice none 0 0, .int .i64 0, .int .i64 0] 27) := ⟨_, rfl⟩
          have hb : Below Z18.heap.size Z18 Z29 := by rw [hZ29]; exact rbel _ _
          replace OW := Lib.hid (rown_below OW.out hb)
          replace HFL := Lib.hid (HFL.out.block (hb.block _ HFL.out.lt))
          have HV : Hid (Z29.rowIs Z18.heap.size 27 5 (ro5 (.slice none 0 0) (.slice none 0 0) (.slice none 0 0) 0 0)) := by show World.rowIs _ _ _ _ _; rw [hZ29]; exact World.rowIs_alloc Z18 #[.slice none 0 0, .slice none 0 0, .slice none 0 0, .int .i64 0, .int .i64 0] 27 _ (ro5_row (.slice none 0 0) (.slice none 0 0) (.slice none 0 0) 0 0)
          obtain ⟨po, hg0⟩ : ∃ g, g = Z18.heap.size := ⟨_, rfl⟩
          rw [← hg0] at HV
          have HPO : Hid (V0.heap.size ≤ po) := by show _ ≤ _; rw [hg0]; exact hHeld.size
          go_simp
          rw [← hZ29, ← hg0]
          clear hg0
          clear hZ29
          refine hK.out _ _ (hHeld.trans (hb.mono hHeld.size)) (fun hHeld2 => ?_)
          clear hK hHeld hb
          have hHeld := hHeld2
          clear hHeld2
          refine wpAnyH_ready (rs := [2, 6]) (by kernel_rfl) (by simp) (AllReadyH.cons (at_drop (i := 2) rfl) (fun K2 hK => ?_) (AllReadyH.cons (at_drop (i := 6) rfl) (fun K2 hK => ?_) (AllReadyH.nil)))
          · refine step_append_rv rfl (.tmp 25) (.tmp 26) 25 rfl V0.heap.size 55 i0 _ 6 48 Tryd.underlying25 hi0 hy0 hy1 hy2 rfl (by decide) _ 0 [] rfl OW.out ⟨lb, 0, none⟩ n cn (inVs (scF rs) (n * 6)) rfl (by rw [inVs_len]) (rc_news (fun i hi => (H.out i hi).block (hHeld.block _ HLB.out))) rc_one (by unfold maxLen; omega) (by omega) hHeld.size ?_
            intro v5 Z30 hown hgrow
            have hb0 : Below V0.heap.size Z29 Z30 := (Below.refl _ _).grown hgrow hHeld.size (fun k e => (OW.out.lt k e).1)
            obtain ⟨gl, cA, rfl, hgl, hls⟩ := own_rc (by simpa using hown) hn1
            have HLS := Lib.hid hls
            have HGL := Lib.hid hgl
            replace HFL := Lib.hid (HFL.out.block (hgrow.block _ HFL.out.lt (rown_nei OW.out HFL.out)))
            replace HV := Lib.hid (HV.out.of_block (hgrow.block _ HV.out.lt (rown_ne OW.out HV.out (by decide))))
            refine hK.out _ _ (hHeld.trans hb0) (fun hHeld2 => ?_)
            clear hK hHeld hb0 hown hgrow hls hgl OW
            have hHeld := hHeld2
            clear hHeld2
            simp only [Act.put, List.setIfInBounds_toArray, List.set_cons_zero, List.set_cons_succ]
            refine wpAnyH_ready (rs := [6]) (by kernel_rfl) (by simp) (AllReadyH.cons (at_drop (i := 6) rfl) (fun K2 hK => ?_) (AllReadyH.nil))
            have hlt9 := HFL.out.lt
            obtain ⟨Z31, hZ31⟩ : ∃ Z', Z' = Z30.alloc (mkO n) := ⟨_, rfl⟩
            have hb : Below Z30.heap.size Z30 Z31 := by rw [hZ31]; exact rbel _ _
            replace HLS := Lib.hid (HLS.out.block (hb.block _ HLS.out.lt))
            replace HFL := Lib.hid (HFL.out.block (hb.block _ HFL.out.lt))
            replace HV := Lib.hid (rrow_below HV.out hb)
            have HTK : Hid (InBlk Z30.heap.size n (fun _ => 0) Z31) := by show InBlk _ _ _ _; rw [hZ31]; exact made_blk Z30 n
            obtain ⟨gt, hg0⟩ : ∃ g, g = Z30.heap.size := ⟨_, rfl⟩
            rw [← hg0] at HTK
            have HGT : Hid (V0.heap.size ≤ gt) := by show _ ≤ _; rw [hg0]; exact hHeld.size
            have HNE : Hid (gf ≠ gt) := by show gf ≠ gt; omega
            clear hlt9
            go_simp
            rw [← hZ31, ← hg0]
            clear hg0
            clear hZ31
            refine hK.out _ _ (hHeld.trans (hb.mono hHeld.size)) (fun hHeld2 => ?_)
            clear hK hHeld hb
            have hHeld := hHeld2
            clear hHeld2
            refine take_do (i := 7) (v := (.agg #[.slice (some ⟨gl, 0, none⟩) n cA, .slice (some ⟨gf, 0, none⟩) n n, .slice (some ⟨gt, 0, none⟩) n n, .int .i64 0, .int .i64 0])) rfl (by kernel_rfl) (by kernel_rfl) (by kernel_rfl) (fun _ _ _ h => h) (by rfl) ?_ (by assumption) ?_
            · intro w hSw
              skip
              go_simp
            simp only [Act.put, List.setIfInBounds_toArray, List.set_cons_zero, List.set_cons_succ]
            obtain ⟨WF, HWF, HRM, HBF, ⟨o0, o1, o2, o3, o4⟩, ⟨z0, z1, z2, z3, z4⟩, hol⟩ := rr_leaf (gl := gl) (cA := cA) HSL.out hHeld HV.out HLS.out HFL.out HTK.out HPO.out HGF.out HGT.out HGL.out HNE.out
            refine take_call (i := 9) rfl (by kernel_rfl) (fun K2 hK => ?_)
            go_simp
            rw [← HWF.out]
            refine hK.out _ _ HBF.out (fun _ => ?_)
            clear hK HWF
            refine wpAnyH_done (by kernel_rfl) ?_ _
            go_wp2_with fail
            go_meet
            case rel => exact ⟨po, gl, cA, gf, gt, rfl, HRM⟩
          · have hlt9 := HFL.out.lt
            obtain ⟨Z32, hZ32⟩ : ∃ Z', Z' = Z29.alloc (mkO n) := ⟨_, rfl⟩
            have hb : Below Z29.heap.size Z29 Z32 := by rw [hZ32]; exact rbel _ _
            replace OW := Lib.hid (rown_below OW.out hb)
            replace HFL := Lib.hid (HFL.out.block (hb.block _ HFL.out.lt))
            replace HV := Lib.hid (rrow_below HV.out hb)
            have HTK : Hid (InBlk Z29.heap.size n (fun _ => 0) Z32) := by show InBlk _ _ _ _; rw [hZ32]; exact made_blk Z29 n
            obtain ⟨gt, hg0⟩ : ∃ g, g = Z29.heap.size := ⟨_, rfl⟩
            rw [← hg0] at HTK
            have HGT : Hid (V0.heap.size ≤ gt) := by show _ ≤ _; rw [hg0]; exact hHeld.size
            have HNE : Hid (gf ≠ gt) := by show gf ≠ gt; omega
            clear hlt9
            go_simp
            rw [← hZ32, ← hg0]
            clear hg0
            clear hZ32
            refine hK.out _ _ (hHeld.trans (hb.mono hHeld.size)) (fun hHeld2 => ?_)
            clear hK hHeld hb
            have hHeld := hHeld2
            clear hHeld2
            refine wpAnyH_ready (rs := [2]) (by kernel_rfl) (by simp) (AllReadyH.cons (at_drop (i := 2) rfl) (fun K2 hK => ?_) (AllReadyH.nil))
            refine step_append_rv rfl (.tmp 25) (.tmp 26) 25 rfl V0.heap.size 55 i0 _ 6 48 Tryd.underlying25 hi0 hy0 hy1 hy2 rfl (by decide) _ 0 [] rfl OW.out ⟨lb, 0, none⟩ n cn (inVs (scF rs) (n * 6)) rfl (by rw [inVs_len]) (rc_news (fun i hi => (H.out i hi).block (hHeld.block _ HLB.out))) rc_one (by unfold maxLen; omega) (by omega) hHeld.size ?_
            intro v5 Z33 hown hgrow
            have hb0 : Below V0.heap.size Z32 Z33 := (Below.refl _ _).grown hgrow hHeld.size (fun k e => (OW.out.lt k e).1)
            obtain ⟨gl, cA, rfl, hgl, hls⟩ := own_rc (by simpa using hown) hn1
            have HLS := Lib.hid hls
            have HGL := Lib.hid hgl
            replace HFL := Lib.hid (HFL.out.block (hgrow.block _ HFL.out.lt (rown_nei OW.out HFL.out)))
            replace HTK := Lib.hid (HTK.out.block (hgrow.block _ HTK.out.lt (rown_nei OW.out HTK.out)))
            replace HV := Lib.hid (HV.out.of_block (hgrow.block _ HV.out.lt (rown_ne OW.out HV.out (by decide))))
            refine hK.out _ _ (hHeld.trans hb0) (fun hHeld2 => ?_)
            clear hK hHeld hb0 hown hgrow hls hgl OW
            have hHeld := hHeld2
            clear hHeld2
            simp only [Act.put, List.setIfInBounds_toArray, List.set_cons_zero, List.set_cons_succ]
            refine take_do (i := 7) (v := (.agg #[.slice (some ⟨gl, 0, none⟩) n cA, .slice (some ⟨gf, 0, none⟩) n n, .slice (some ⟨gt, 0, none⟩) n n, .int .i64 0, .int .i64 0])) rfl (by kernel_rfl) (by kernel_rfl) (by kernel_rfl) (fun _ _ _ h => h) (by rfl) ?_ (by assumption) ?_
            · intro w hSw
              skip
              go_simp
            simp only [Act.put, List.setIfInBounds_toArray, List.set_cons_zero, List.set_cons_succ]
            obtain ⟨WF, HWF, HRM, HBF, ⟨o0, o1, o2, o3, o4⟩, ⟨z0, z1, z2, z3, z4⟩, hol⟩ := rr_leaf (gl := gl) (cA := cA) HSL.out hHeld HV.out HLS.out HFL.out HTK.out HPO.out HGF.out HGT.out HGL.out HNE.out
            refine take_call (i := 9) rfl (by kernel_rfl) (fun K2 hK => ?_)
            go_simp
            rw [← HWF.out]
            refine hK.out _ _ HBF.out (fun _ => ?_)
            clear hK HWF
            refine wpAnyH_done (by kernel_rfl) ?_ _
            go_wp2_with fail
            go_meet
            case rel => exact ⟨po, gl, cA, gf, gt, rfl, HRM⟩
      · obtain ⟨Z34, hZ34⟩ : ∃ Z', Z' = Z1.alloc (mkO n) := ⟨_, rfl⟩
        have hb : Below Z1.heap.size Z1 Z34 := by rw [hZ34]; exact rbel _ _
        replace OW := Lib.hid (rown_below OW.out hb)
        have HTK : Hid (InBlk Z1.heap.size n (fun _ => 0) Z34) := by show InBlk _ _ _ _; rw [hZ34]; exact made_blk Z1 n
        obtain ⟨gt, hg0⟩ : ∃ g, g = Z1.heap.size := ⟨_, rfl⟩
        rw [← hg0] at HTK
        have HGT : Hid (V0.heap.size ≤ gt) := by show _ ≤ _; rw [hg0]; exact hHeld.size
        go_simp
        rw [← hZ34, ← hg0]
        clear hg0
        clear hZ34
        refine hK.out _ _ (hHeld.trans (hb.mono hHeld.size)) (fun hHeld2 => ?_)
        clear hK hHeld hb
        have hHeld := hHeld2
        clear hHeld2
        refine wpAnyH_ready (rs := [2, 4, 8]) (by kernel_rfl) (by simp) (AllReadyH.cons (at_drop (i := 2) rfl) (fun K2 hK => ?_) (AllReadyH.cons (at_drop (i := 4) rfl) (fun K2 hK => ?_) (AllReadyH.cons (at_drop (i := 8) rfl) (fun K2 hK => ?_) (AllReadyH.nil))))
        · refine step_append_rv rfl (.tmp 25) (.tmp 26) 25 rfl V0.heap.size 55 i0 _ 6 48 Tryd.underlying25 hi0 hy0 hy1 hy2 rfl (by decide) _ 0 [] rfl OW.out ⟨lb, 0, none⟩ n cn (inVs (scF rs) (n * 6)) rfl (by rw [inVs_len]) (rc_news (fun i hi => (H.out i hi).block (hHeld.block _ HLB.out))) rc_one (by unfold maxLen; omega) (by omega) hHeld.size ?_
          intro v5 Z35 hown hgrow
          have hb0 : Below V0.heap.size Z34 Z35 := (Below.refl _ _).grown hgrow hHeld.size (fun k e => (OW.out.lt k e).1)
          obtain ⟨gl, cA, rfl, hgl, hls⟩ := own_rc (by simpa using hown) hn1
          have HLS := Lib.hid hls
          have HGL := Lib.hid hgl
          replace HTK := Lib.hid (HTK.out.block (hgrow.block _ HTK.out.lt (rown_nei OW.out HTK.out)))
          refine hK.out _ _ (hHeld.trans hb0) (fun hHeld2 => ?_)
          clear hK hHeld hb0 hown hgrow hls hgl OW
          have hHeld := hHeld2
          clear hHeld2
          simp only [Act.put, List.setIfInBounds_toArray, List.set_cons_zero, List.set_cons_succ]
          refine wpAnyH_ready (rs := [4, 8]) (by kernel_rfl) (by simp) (AllReadyH.cons (at_drop (i := 4) rfl) (fun K2 hK => ?_) (AllReadyH.cons (at_drop (i := 8) rfl) (fun K2 hK => ?_) (AllReadyH.nil)))
          · have hlt9 := HTK.out.lt
            obtain ⟨Z36, hZ36⟩ : ∃ Z', Z' = Z35.alloc (mkO n) := ⟨_, rfl⟩
            have hb : Below Z35.heap.size Z35 Z36 := by rw [hZ36]; exact rbel _ _
            replace HLS := Lib.hid (HLS.out.block (hb.block _ HLS.out.lt))
            replace HTK := Lib.hid (HTK.out.block (hb.block _ HTK.out.lt))
            have HFL : Hid (InBlk Z35.heap.size n (fun _ => 0) Z36) := by show InBlk _ _ _ _; rw [hZ36]; exact made_blk Z35 n
            obtain ⟨gf, hg0⟩ : ∃ g, g = Z35.heap.size := ⟨_, rfl⟩
            rw [← hg0] at HFL
            have HGF : Hid (V0.heap.size ≤ gf) := by show _ ≤ _; rw [hg0]; exact hHeld.size
            have HNE : Hid (gf ≠ gt) := by show gf ≠ gt; omega
            clear hlt9
            go_simp
            rw [← hZ36, ← hg0]
            clear hg0
            clear hZ36
            refine hK.out _ _ (hHeld.trans (hb.mono hHeld.size)) (fun hHeld2 => ?_)
            clear hK hHeld hb
            have hHeld := hHeld2
            clear hHeld2
            refine take_do (i := 7) (v := (.agg #[.slice (some ⟨gl, 0, none⟩) n cA, .slice (some ⟨gf, 0, none⟩) n n, .slice (some ⟨gt, 0, none⟩) n n, .int .i64 0, .int .i64 0])) rfl (by kernel_rfl) (by kernel_rfl) (by kernel_rfl) (fun _ _ _ h => h) (by rfl) ?_ (by assumption) ?_
            · intro w hSw
              skip
              go_simp
            simp only [Act.put, List.setIfInBounds_toArray, List.set_cons_zero, List.set_cons_succ]
            refine wpAnyH_ready (rs := [8]) (by kernel_rfl) (by simp) (AllReadyH.cons (at_drop (i := 8) rfl) (fun K2 hK => ?_) (AllReadyH.nil))
            obtain ⟨Z37, hZ37⟩ : ∃ Z', Z' = Z36.alloc (.cells #[.slice none 0 0, .slice none 0 0, .slice none 0 0, .int .i64 0, .int .i64 0] 27) := ⟨_, rfl⟩
            have hb : Below Z36.heap.size Z36 Z37 := by rw [hZ37]; exact rbel _ _
            replace HLS := Lib.hid (HLS.out.block (hb.block _ HLS.out.lt))
            replace HFL := Lib.hid (HFL.out.block (hb.block _ HFL.out.lt))
            replace HTK := Lib.hid (HTK.out.block (hb.block _ HTK.out.lt))
            have HV : Hid (Z37.rowIs Z36.heap.size 27 5 (ro5 (.slice none 0 0) (.slice none 0 0) (.slice none 0 0) 0 0)) := by show World.rowIs _ _ _ _ _; rw [hZ37]; exact World.rowIs_alloc Z36 #[.slice none 0 0, .slice none 0 0, .slice none 0 0, .int .i64 0, .int .i64 0] 27 _ (ro5_row (.slice none 0 0) (.slice none 0 0) (.slice none 0 0) 0 0)
            obtain ⟨po, hg0⟩ : ∃ g, g = Z36.heap.size := ⟨_, rfl⟩
            rw [← hg0] at HV
            have HPO : Hid (V0.heap.size ≤ po) := by show _ ≤ _; rw [hg0]; exact hHeld.size
            go_simp
            rw [← hZ37, ← hg0]
            clear hg0
            clear hZ37
            refine hK.out _ _ (hHeld.trans (hb.mono hHeld.size)) (fun hHeld2 => ?_)
            clear hK hHeld hb
            have hHeld := hHeld2
            clear hHeld2
            obtain ⟨WF, HWF, HRM, HBF, ⟨o0, o1, o2, o3, o4⟩, ⟨z0, z1, z2, z3, z4⟩, hol⟩ := rr_leaf (gl := gl) (cA := cA) HSL.out hHeld HV.out HLS.out HFL.out HTK.out HPO.out HGF.out HGT.out HGL.out HNE.out
            refine take_call (i := 9) rfl (by kernel_rfl) (fun K2 hK => ?_)
            go_simp
            rw [← HWF.out]
            refine hK.out _ _ HBF.out (fun _ => ?_)
            clear hK HWF
            refine wpAnyH_done (by kernel_rfl) ?_ _
            go_wp2_with fail
            go_meet
            case rel => exact ⟨po, gl, cA, gf, gt, rfl, HRM⟩
          · obtain ⟨Z38, hZ38⟩ : ∃ Z', Z' = Z35.alloc (.cells #[.slice none 0 0, .slice none 0 0, .slice none 0 0, .int .i64 0, .int .i64 0] 27) := ⟨_, rfl⟩
            have hb : Below Z35.heap.size Z35 Z38 := by rw [hZ38]; exact rbel _ _
            replace HLS := Lib.hid (HLS.out.block (hb.block _ HLS.out.lt))
            replace HTK := Lib.hid (HTK.out.block (hb.block _ HTK.out.lt))
            have HV : Hid (Z38.rowIs Z35.heap.size 27 5 (ro5 (.slice none 0 0) (.slice none 0 0) (.slice none 0 0) 0 0)) := by show World.rowIs _ _ _ _ _; rw [hZ38]; exact World.rowIs_alloc Z35 #[.slice none 0 0, .slice none 0 0, .slice none 0 0, .int .i64 0, .int .i64 0] 27 _ (ro5_row (.slice none 0 0) (.slice none 0 0) (.slice none 0 0) 0 0)
            obtain ⟨po, hg0⟩ : ∃ g, g = Z35.heap.size := ⟨_, rfl⟩
            rw [← hg0] at HV
            have HPO : Hid (V0.heap.size ≤ po) := by show _ ≤ _; rw [hg0]; exact hHeld.size
            go_simp
            rw [← hZ38, ← hg0]
            clear hg0
            clear hZ38
            refine hK.out _ _ (hHeld.trans (hb.mono hHeld.size)) (fun hHeld2 => ?_)
            clear hK hHeld hb
            have hHeld := hHeld2
            clear hHeld2
            refine wpAnyH_ready (rs := [4]) (by kernel_rfl) (by simp) (AllReadyH.cons (at_drop (i := 4) rfl) (fun K2 hK => ?_) (AllReadyH.nil))
            have hlt9 := HTK.out.lt
            obtain ⟨Z39, hZ39⟩ : ∃ Z', Z' = Z38.alloc (mkO n) := ⟨_, rfl⟩
            have hb : Below Z38.heap.size Z38 Z39 := by rw [hZ39]; exact rbel _ _
            replace HLS := Lib.hid (HLS.out.block (hb.block _ HLS.out.lt))
            replace HTK := Lib.hid (HTK.out.block (hb.block _ HTK.out.lt))
            replace HV := Lib.hid (rrow_below HV.out hb)
            have HFL : Hid (InBlk Z38.heap.size n (fun _ => 0) Z39) := by show InBlk _ _ _ _; rw [hZ39]; exact made_blk Z38 n
            obtain ⟨gf, hg0⟩ : ∃ g, g = Z38.heap.size := ⟨_, rfl⟩
            rw [← hg0] at HFL
            have HGF : Hid (V0.heap.size ≤ gf) := by show _ ≤ _; rw [hg0]; exact hHeld.size
            have HNE : Hid (gf ≠ gt) := by show gf ≠ gt; omega
            clear hlt9
            go_simp
            rw [← hZ39, ← hg0]
            clear hg0
            clear hZ39
            refine hK.out _ _ (hHeld.trans (hb.mono hHeld.size)) (fun hHeld2 => ?_)
            clear hK hHeld hb
            have hHeld := hHeld2
            clear hHeld2
            refine take_do (i := 7) (v := (.agg #[.slice (some ⟨gl, 0, none⟩) n cA, .slice (some ⟨gf, 0, none⟩) n n, .slice (some ⟨gt, 0, none⟩) n n, .int .i64 0, .int .i64 0])) rfl (by kernel_rfl) (by kernel_rfl) (by kernel_rfl) (fun _ _ _ h => h) (by rfl) ?_ (by assumption) ?_
            · intro w hSw
              skip
              go_simp
            simp only [Act.put, List.setIfInBounds_toArray, List.set_cons_zero, List.set_cons_succ]
            obtain ⟨WF, HWF, HRM, HBF, ⟨o0, o1, o2, o3, o4⟩, ⟨z0, z1, z2, z3, z4⟩, hol⟩ := rr_leaf (gl := gl) (cA := cA) HSL.out hHeld HV.out HLS.out HFL.out HTK.out HPO.out HGF.out HGT.out HGL.out HNE.out
            refine take_call (i := 9) rfl (by kernel_rfl) (fun K2 hK => ?_)
            go_simp
            rw [← HWF.out]
            refine hK.out _ _ HBF.out (fun _ => ?_)
            clear hK HWF
            refine wpAnyH_done (by kernel_rfl) ?_ _
            go_wp2_with fail
            go_meet
            case rel => exact ⟨po, gl, cA, gf, gt, rfl, HRM⟩
        · have hlt9 := HTK.out.lt
          obtain ⟨Z40, hZ40⟩ : ∃ Z', Z' = Z34.alloc (mkO n) := ⟨_, rfl⟩
          have hb : Below Z34.heap.size Z34 Z40 := by rw [hZ40]; exact rbel _ _
          replace OW := Lib.hid (rown_below OW.out hb)
          replace HTK := Lib.hid (HTK.out.block (hb.block _ HTK.out.lt))
          have HFL : Hid (InBlk Z34.heap.size n (fun _ => 0) Z40) := by show InBlk _ _ _ _; rw [hZ40]; exact made_blk Z34 n
          obtain ⟨gf, hg0⟩ : ∃ g, g = Z34.heap.size := ⟨_, rfl⟩
          rw [← hg0] at HFL
          have HGF : Hid (V0.heap.size ≤ gf) := by show _ ≤ _; rw [hg0]; exact hHeld.size
          have HNE : Hid (gf ≠ gt) := by show gf ≠ gt; omega
          clear hlt9
          go_simp
          rw [← hZ40, ← hg0]
          clear hg0
          clear hZ40
          refine hK.out _ _ (hHeld.trans (hb.mono hHeld.size)) (fun hHeld2 => ?_)
          clear hK hHeld hb
          have hHeld := hHeld2
          clear hHeld2
          refine wpAnyH_ready (rs := [2, 8]) (by kernel_rfl) (by simp) (AllReadyH.cons (at_drop (i := 2) rfl) (fun K2 hK => ?_) (AllReadyH.cons (at_drop (i := 8) rfl) (fun K2 hK => ?_) (AllReadyH.nil)))
          · refine step_append_rv rfl (.tmp 25) (.tmp 26) 25 rfl V0.heap.size 55 i0 _ 6 48 Tryd.underlying25 hi0 hy0 hy1 hy2 rfl (by decide) _ 0 [] rfl OW.out ⟨lb, 0, none⟩ n cn (inVs (scF rs) (n * 6)) rfl (by rw [inVs_len]) (rc_news (fun i hi => (H.out i hi).block (hHeld.block _ HLB.out))) rc_one (by unfold maxLen; omega) (by omega) hHeld.size ?_
            intro v5 Z41 hown hgrow
            have hb0 : Below V0.heap.size Z40 Z41 := (Below.refl _ _).grown hgrow hHeld.size (fun k e => (OW.out.lt k e).1)
            obtain ⟨gl, cA, rfl, hgl, hls⟩ := own_rc (by simpa using hown) hn1
            have HLS := Lib.hid hls
            have HGL := Lib.hid hgl
            replace HFL := Lib.hid (HFL.out.block (hgrow.block _ HFL.out.lt (rown_nei OW.out HFL.out)))
            replace HTK := Lib.hid (HTK.out.block (hgrow.block _ HTK.out.lt (rown_nei OW.out HTK.out)))
            refine hK.out _ _ (hHeld.trans hb0) (fun hHeld2 => ?_)
            clear hK hHeld hb0 hown hgrow hls hgl OW
            have hHeld := hHeld2
            clear hHeld2
            simp only [Act.put, List.setIfInBounds_toArray, List.set_cons_zero, List.set_cons_succ]
            refine take_do (i := 7) (v := (.agg #[.slice (some ⟨gl, 0, none⟩) n cA, .slice (some ⟨gf, 0, none⟩) n n, .slice (some ⟨gt, 0, none⟩) n n, .int .i64 0, .int .i64 0])) rfl (by kernel_rfl) (by kernel_rfl) (by kernel_rfl) (fun _ _ _ h => h) (by rfl) ?_ (by assumption) ?_
            · intro w hSw
              skip
              go_simp
            simp only [Act.put, List.setIfInBounds_toArray, List.set_cons_zero, List.set_cons_succ]
            refine wpAnyH_ready (rs := [8]) (by kernel_rfl) (by simp) (AllReadyH.cons (at_drop (i := 8) rfl) (fun K2 hK => ?_) (AllReadyH.nil))
            obtain ⟨Z42, hZ42⟩ : ∃ Z', Z' = Z41.alloc (.cells #[.slice none 0 0, .slice none 0 0, .slice none 0 0, .int .i64 0, .int .i64 0] 27) := ⟨_, rfl⟩
            have hb : Below Z41.heap.size Z41 Z42 := by rw [hZ42]; exact rbel _ _
            replace HLS := Lib.hid (HLS.out.block (hb.block _ HLS.out.lt))
            replace HFL := Lib.hid (HFL.out.block (hb.block _ HFL.out.lt))
            replace HTK := Lib.hid (HTK.out.block (hb.block _ HTK.out.lt))
            have HV : Hid (Z42.rowIs Z41.heap.size 27 5 (ro5 (.slice none 0 0) (.slice none 0 0) (.slice none 0 0) 0 0)) := by show World.rowIs _ _ _ _ _; rw [hZ42]; exact World.rowIs_alloc Z41 #[.slice none 0 0, .slice none 0 0, .slice none 0 0, .int .i64 0, .int .i64 0] 27 _ (ro5_row (.slice none 0 0) (.slice none 0 0) (.slice none 0 0) 0 0)
            obtain ⟨po, hg0⟩ : ∃ g, g = Z41.heap.size := ⟨_, rfl⟩
            rw [← hg0] at HV
            have HPO : Hid (V0.heap.size ≤ po) := by show _ ≤ _; rw [hg0]; exact hHeld.size
            go_simp
            rw [← hZ42, ← hg0]
            clear hg0
            clear hZ42
            refine hK.out _ _ (hHeld.trans (hb.mono hHeld.size)) (fun hHeld2 => ?_)
            clear hK hHeld hb
            have hHeld := hHeld2
            clear hHeld2
            obtain ⟨WF, HWF, HRM, HBF, ⟨o0, o1, o2, o3, o4⟩, ⟨z0, z1, z2, z3, z4⟩, hol⟩ := rr_leaf (gl := gl) (cA := cA) HSL.out hHeld HV.out HLS.out HFL.out HTK.out HPO.out HGF.out HGT.out HGL.out HNE.out
            refine take_call (i := 9) rfl (by kernel_rfl) (fun K2 hK => ?_)
            go_simp
            rw [← HWF.out]
            refine hK.out _ _ HBF.out (fun _ => ?_)
            clear hK HWF
            refine wpAnyH_done (by kernel_rfl) ?_ _
            go_wp2_with fail
            go_meet
            case rel => exact ⟨po, gl, cA, gf, gt, rfl, HRM⟩
          · obtain ⟨Z43, hZ43⟩ : ∃ Z', Z' = Z40.alloc (.cells #[.slice none 0 0, .slice none 0 0, .slice none 0 0, .int .i64 0, .int .i64 0] 27) := ⟨_, rfl⟩
            have hb : Below Z40.heap.size Z40 Z43 := by rw [hZ43]; exact rbel _ _
            replace OW := Lib.hid (rown_below OW.out hb)
            replace HFL := Lib.hid (HFL.out.block (hb.block _ HFL.out.lt))
            replace HTK := Lib.hid (HTK.out.block (hb.block _ HTK.out.lt))
            have HV : Hid (Z43.rowIs Z40.heap.size 27 5 (ro5 (.slice none 0 0) (.slice none 0 0) (.slice none 0 0) 0 0)) := by show World.rowIs _ _ _ _ _; rw [hZ43]; exact World.rowIs_alloc Z40 #[.slice none 0 0, .slice none 0 0, .slice none 0 0, .int .i64 0, .int .i64 0] 27 _ (ro5_row (.slice none 0 0) (.slice none 0 0) (.slice none 0 0) 0 0)
            obtain ⟨po, hg0⟩ : ∃ g, g = Z40.heap.size := ⟨_, rfl⟩
            rw [← hg0] at HV
            have HPO : Hid (V0.heap.size ≤ po) := by show _ ≤ _; rw [hg0]; exact hHeld.size
            go_simp
            rw [← hZ43, ← hg0]
            clear hg0
            clear hZ43
            refine hK.out _ _ (hHeld.trans (hb.mono hHeld.size)) (fun hHeld2 => ?_)
            clear hK hHeld hb
            have hHeld := hHeld2
            clear hHeld2
            refine wpAnyH_ready (rs := [2]) (by kernel_rfl) (by simp) (AllReadyH.cons (at_drop (i := 2) rfl) (fun K2 hK => ?_) (AllReadyH.nil))
            refine step_append_rv rfl (.tmp 25) (.tmp 26) 25 rfl V0.heap.size 55 i0 _ 6 48 Tryd.underlying25 hi0 hy0 hy1 hy2 rfl (by decide) _ 0 [] rfl OW.out ⟨lb, 0, none⟩ n cn (inVs (scF rs) (n * 6)) rfl (by rw [inVs_len]) (rc_news (fun i hi => (H.out i hi).block (hHeld.block _ HLB.out))) rc_one (by unfold maxLen; omega) (by omega) hHeld.size ?_
            intro v5 Z44 hown hgrow
            have hb0 : Below V0.heap.size Z43 Z44 := (Below.refl _ _).grown hgrow hHeld.size (fun k e => (OW.out.lt k e).1)
            obtain ⟨gl, cA, rfl, hgl, hls⟩ := own_rc (by simpa using hown) hn1
            have HLS := Lib.hid hls
            have HGL := Lib.hid hgl
            replace HFL := Lib.hid (HFL.out.block (hgrow.block _ HFL.out.lt (rown_nei OW.out HFL.out)))
            replace HTK := Lib.hid (HTK.out.block (hgrow.block _ HTK.out.lt (rown_nei OW.out HTK.out)))
            replace HV := Lib.hid (HV.out.of_block (hgrow.block _ HV.out.lt (rown_ne OW.out HV.out (by decide))))
            refine hK.out _ _ (hHeld.trans hb0) (fun hHeld2 => ?_)
            clear hK hHeld hb0 hown hgrow hls hgl OW
            have hHeld := hHeld2
            clear hHeld2
            simp only [Act.put, List.setIfInBounds_toArray, List.set_cons_zero, List.set_cons_succ]
            refine take_do (i := 7) (v := (.agg #[.slice (some ⟨gl, 0, none⟩) n cA, .slice (some ⟨gf, 0, none⟩) n n, .slice (some ⟨gt, 0, none⟩) n n, .int .i64 0, .int .i64 0])) rfl (by kernel_rfl) (by kernel_rfl) (by kernel_rfl) (fun _ _ _ h => h) (by rfl) ?_ (by assumption) ?_
            · intro w hSw
              skip
              go_simp
            simp only [Act.put, List.setIfInBounds_toArray, List.set_cons_zero, List.set_cons_succ]
            obtain ⟨WF, HWF, HRM, HBF, ⟨o0, o1, o2, o3, o4⟩, ⟨z0, z1, z2, z3, z4⟩, hol⟩ := rr_leaf (gl := gl) (cA := cA) HSL.out hHeld HV.out HLS.out HFL.out HTK.out HPO.out HGF.out HGT.out HGL.out HNE.out
            refine take_call (i := 9) rfl (by kernel_rfl) (fun K2 hK => ?_)
            go_simp
            rw [← HWF.out]
            refine hK.out _ _ HBF.out (fun _ => ?_)
            clear hK HWF
            refine wpAnyH_done (by kernel_rfl) ?_ _
            go_wp2_with fail
            go_meet
            case rel => exact ⟨po, gl, cA, gf, gt, rfl, HRM⟩
        · obtain ⟨Z45, hZ45⟩ : ∃ Z', Z' = Z34.alloc (.cells #[.slice none 0 0, .slice none 0 0, .slice none 0 0, .int .i64 0, .int .i64 0] 27) := ⟨_, rfl⟩
          have hb : Below Z34.heap.size Z34 Z45 := by rw [hZ45]; exact rbel _ _
          replace OW := Lib.hid (rown_below OW.out hb)
          replace HTK := Lib.hid (HTK.out.block (hb.block _ HTK.out.lt))
          have HV : Hid (Z45.rowIs Z34.heap.size 27 5 (ro5 (.slice none 0 0) (.slice none 0 0) (.slice none 0 0) 0 0)) := by show World.rowIs _ _ _ _ _; rw [hZ45]; exact World.rowIs_alloc Z34 #[.slice none 0 0, .slice none 0 0, .slice none 0 0, .int .i64 0, .int .i64 0] 27 _ (ro5_row (.slice none 0 0) (.slice none 0 0) (.slice none 0 0) 0 0)
          obtain ⟨po, hg0⟩ : ∃ g, g = Z34.heap.size := ⟨_, rfl⟩
          rw [← hg0] at HV
          have HPO : Hid (V0.heap.size ≤ po) := by show _ ≤ _; rw [hg0]; exact hHeld.size
          go_simp
          rw [← hZ45, ← hg0]
          clear hg0
          clear hZ45
          refine hK.out _ _ (hHeld.trans (hb.mono hHeld.size)) (fun hHeld2 => ?_)
          clear hK hHeld hb
          have hHeld := hHeld2
          clear hHeld2
          refine wpAnyH_ready (rs := [2, 4]) (by kernel_rfl) (by simp) (AllReadyH.cons (at_drop (i := 2) rfl) (fun K2 hK => ?_) (AllReadyH.cons (at_drop (i := 4) rfl) (fun K2 hK => ?_) (AllReadyH.nil)))
          · refine step_append_rv rfl (.tmp 25) (.tmp 26) 25 rfl V0.heap.size 55 i0 _ 6 48 Tryd.underlying25 hi0 hy0 hy1 hy2 rfl (by decide) _ 0 [] rfl OW.out ⟨lb, 0, none⟩ n cn (inVs (scF rs) (n * 6)) rfl (by rw [inVs_len]) (rc_news (fun i hi => (H.out i hi).block (hHeld.block _ HLB.out))) rc_one (by unfold maxLen; omega) (by omega) hHeld.size ?_
            intro v5 Z46 hown hgrow
            have hb0 : Below V0.heap.size Z45 Z46 := (Below.refl _ _).grown hgrow hHeld.size (fun k e => (OW.out.lt k e).1)
            obtain ⟨gl, cA, rfl, hgl, hls⟩ := own_rc (by simpa using hown) hn1
            have HLS := Lib.hid hls
            have HGL := Lib.hid hgl
            replace HTK := Lib.hid (HTK.out.block (hgrow.block _ HTK.out.lt (rown_nei OW.out HTK.out)))
            replace HV := Lib.hid (HV.out.of_block (hgrow.block _ HV.out.lt (rown_ne OW.out HV.out (by decide))))
            refine hK.out _ _ (hHeld.trans hb0) (fun hHeld2 => ?_)
            clear hK hHeld hb0 hown hgrow hls hgl OW
            have hHeld := hHeld2
            clear hHeld2
            simp only [Act.put, List.setIfInBounds_toArray, List.set_cons_zero, List.set_cons_succ]
            refine wpAnyH_ready (rs := [4]) (by kernel_rfl) (by simp) (AllReadyH.cons (at_drop (i := 4) rfl) (fun K2 hK => ?_) (AllReadyH.nil))
            have hlt9 := HTK.out.lt
            obtain ⟨Z47, hZ47⟩ : ∃ Z', Z' = Z46.alloc (mkO n) := ⟨_, rfl⟩
            have hb : Below Z46.heap.size Z46 Z47 := by rw [hZ47]; exact rbel _ _
            replace HLS := Lib.hid (HLS.out.block (hb.block _ HLS.out.lt))
            replace HTK := Lib.hid (HTK.out.block (hb.block _ HTK.out.lt))
            replace HV := Lib.hid (rrow_below HV.out hb)
            have HFL : Hid (InBlk Z46.heap.size n (fun _ => 0) Z47) := by show InBlk _ _ _ _; rw [hZ47]; exact made_blk Z46 n
            obtain ⟨gf, hg0⟩ : ∃ g, g = Z46.heap.size := ⟨_, rfl⟩
            rw [← hg0] at HFL
            have HGF : Hid (V0.heap.size ≤ gf) := by show _ ≤ _; rw [hg0]; exact hHeld.size
            have HNE : Hid (gf ≠ gt) := by show gf ≠ gt; omega
            clear hlt9
            go_simp
            rw [← hZ47, ← hg0]
            clear hg0
            clear hZ47
            refine hK.out _ _ (hHeld.trans (hb.mono hHeld.size)) (fun hHeld2 => ?_)
            clear hK hHeld hb
            have hHeld := hHeld2
            clear hHeld2
            refine take_do (i := 7) (v := (.agg #[.slice (some ⟨gl, 0, none⟩) n cA, .slice (some ⟨gf, 0, none⟩) n n, .slice (some ⟨gt, 0, none⟩) n n, .int .i64 0, .int .i64 0])) rfl (by kernel_rfl) (by kernel_rfl) (by kernel_rfl) (fun _ _ _ h => h) (by rfl) ?_ (by assumption) ?_
            · intro w hSw
              skip
              go_simp
            simp only [Act.put, List.setIfInBounds_toArray, List.set_cons_zero, List.set_cons_succ]
            obtain ⟨WF, HWF, HRM, HBF, ⟨o0, o1, o2, o3, o4⟩, ⟨z0, z1, z2, z3, z4⟩, hol⟩ := rr_leaf (gl := gl) (cA := cA) HSL.out hHeld HV.out HLS.out HFL.out HTK.out HPO.out HGF.out HGT.out HGL.out HNE.out
            refine take_call (i := 9) rfl (by kernel_rfl) (fun K2 hK => ?_)
            go_simp
            rw [← HWF.out]
            refine hK.out _ _ HBF.out (fun _ => ?_)
            clear hK HWF
            refine wpAnyH_done (by kernel_rfl) ?_ _
            go_wp2_with fail
            go_meet
            case rel => exact ⟨po, gl, cA, gf, gt, rfl, HRM⟩
          · have hlt9 := HTK.out.lt
            obtain ⟨Z48, hZ48⟩ : ∃ Z', Z' = Z45.alloc (mkO n) := ⟨_, rfl⟩
            have hb : Below Z45.heap.size Z45 Z48 := by rw [hZ48]; exact rbel _ _
            replace OW := Lib.hid (rown_below OW.out hb)
            replace HTK := Lib.hid (HTK.out.block (hb.block _ HTK.out.lt))
            replace HV := Lib.hid (rrow_below HV.out hb)
            have HFL : Hid (InBlk Z45.heap.size n (fun _ => 0) Z48) := by show InBlk _ _ _ _; rw [hZ48]; exact made_blk Z45 n
            obtain ⟨gf, hg0⟩ : ∃ g, g = Z45.heap.size := ⟨_, rfl⟩
            rw [← hg0] at HFL
            have HGF : Hid (V0.heap.size ≤ gf) := by show _ ≤ _; rw [hg0]; exact hHeld.size
            have HNE : Hid (gf ≠ gt) := by show gf ≠ gt; omega
            clear hlt9
            go_simp
            rw [← hZ48, ← hg0]
            clear hg0
            clear hZ48
            refine hK.out _ _ (hHeld.trans (hb.mono hHeld.size)) (fun hHeld2 => ?_)
            clear hK hHeld hb
            have hHeld := hHeld2
            clear hHeld2
            refine wpAnyH_ready (rs := [2]) (by kernel_rfl) (by simp) (AllReadyH.cons (at_drop (i := 2) rfl) (fun K2 hK => ?_) (AllReadyH.nil))
            refine step_append_rv rfl (.tmp 25) (.tmp 26) 25 rfl V0.heap.size 55 i0 _ 6 48 Tryd.underlying25 hi0 hy0 hy1 hy2 rfl (by decide) _ 0 [] rfl OW.out ⟨lb, 0, none⟩ n cn (inVs (scF rs) (n * 6)) rfl (by rw [inVs_len]) (rc_news (fun i hi => (H.out i hi).block (hHeld.block _ HLB.out))) rc_one (by unfold maxLen; omega) (by omega) hHeld.size ?_
            intro v5 Z49 hown hgrow
            have hb0 : Below V0.heap.size Z48 Z49 := (Below.refl _ _).grown hgrow hHeld.size (fun k e => (OW.out.lt k e).1)
            obtain ⟨gl, cA, rfl, hgl, hls⟩ := own_rc (by simpa using hown) hn1
            have HLS := Lib.hid hls
            have HGL := Lib.hid hgl
            replace HFL := Lib.hid (HFL.out.block (hgrow.block _ HFL.out.lt (rown_nei OW.out HFL.out)))
            replace HTK := Lib.hid (HTK.out.block (hgrow.block _ HTK.out.lt (rown_nei OW.out HTK.out)))
            replace HV := Lib.hid (HV.out.of_block (hgrow.block _ HV.out.lt (rown_ne OW.out HV.out (by decide))))
            refine hK.out _ _ (hHeld.trans hb0) (fun hHeld2 => ?_)
            clear hK hHeld hb0 hown hgrow hls hgl OW
            have hHeld := hHeld2
            clear hHeld2
            simp only [Act.put, List.setIfInBounds_toArray, List.set_cons_zero, List.set_cons_succ]
            refine take_do (i := 7) (v := (.agg #[.slice (some ⟨gl, 0, none⟩) n cA, .slice (some ⟨gf, 0, none⟩) n n, .slice (some ⟨gt, 0, none⟩) n n, .int .i64 0, .int .i64 0])) rfl (by kernel_rfl) (by kernel_rfl) (by kernel_rfl) (fun _ _ _ h => h) (by rfl) ?_ (by assumption) ?_
            · intro w hSw
              skip
              go_simp
            simp only [Act.put, List.setIfInBounds_toArray, List.set_cons_zero, List.set_cons_succ]
            obtain ⟨WF, HWF, HRM, HBF, ⟨o0, o1, o2, o3, o4⟩, ⟨z0, z1, z2, z3, z4⟩, hol⟩ := rr_leaf (gl := gl) (cA := cA) HSL.out hHeld HV.out HLS.out HFL.out HTK.out HPO.out HGF.out HGT.out HGL.out HNE.out
            refine take_call (i := 9) rfl (by kernel_rfl) (fun K2 hK => ?_)
            go_simp
            rw [← HWF.out]
            refine hK.out _ _ HBF.out (fun _ => ?_)
            clear hK HWF
            refine wpAnyH_done (by kernel_rfl) ?_ _
            go_wp2_with fail
            go_meet
            case rel => exact ⟨po, gl, cA, gf, gt, rfl, HRM⟩
      · obtain ⟨Z50, hZ50⟩ : ∃ Z', Z' = Z1.alloc (.cells #[.slice none 0 0, .slice none 0 0, .slice none 0 0, .int .i64 0, .int .i64 0] 27) := ⟨_, rfl⟩
        have hb : Below Z1.heap.size Z1 Z50 := by rw [hZ50]; exact rbel _ _
        replace OW := Lib.hid (rown_below OW.out hb)
        have HV : Hid (Z50.rowIs Z1.heap.size 27 5 (ro5 (.slice none 0 0) (.slice none 0 0) (.slice none 0 0) 0 0)) := by show World.rowIs _ _ _ _ _; rw [hZ50]; exact World.rowIs_alloc Z1 #[.slice none 0 0, .slice none 0 0, .slice none 0 0, .int .i64 0, .int .i64 0] 27 _ (ro5_row (.slice none 0 0) (.slice none 0 0) (.slice none 0 0) 0 0)
        obtain ⟨po, hg0⟩ : ∃ g, g = Z1.heap.size := ⟨_, rfl⟩
        rw [← hg0] at HV
        have HPO : Hid (V0.heap.size ≤ po) := by show _ ≤ _; rw [hg0]; exact hHeld.size
        go_simp
        rw [← hZ50, ← hg0]
        clear hg0
        clear hZ50
        refine hK.out _ _ (hHeld.trans (hb.mono hHeld.size)) (fun hHeld2 => ?_)
        clear hK hHeld hb
        have hHeld := hHeld2
        clear hHeld2
        refine wpAnyH_ready (rs := [2, 4, 6]) (by kernel_rfl) (by simp) (AllReadyH.cons (at_drop (i := 2) rfl) (fun K2 hK => ?_) (AllReadyH.cons (at_drop (i := 4) rfl) (fun K2 hK => ?_) (AllReadyH.cons (at_drop (i := 6) rfl) (fun K2 hK => ?_) (AllReadyH.nil))))
        · refine step_append_rv rfl (.tmp 25) (.tmp 26) 25 rfl V0.heap.size 55 i0 _ 6 48 Tryd.underlying25 hi0 hy0 hy1 hy2 rfl (by decide) _ 0 [] rfl OW.out ⟨lb, 0, none⟩ n cn (inVs (scF rs) (n * 6)) rfl (by rw [inVs_len]) (rc_news (fun i hi => (H.out i hi).block (hHeld.block _ HLB.out))) rc_one (by unfold maxLen; omega) (by omega) hHeld.size ?_
          intro v5 Z51 hown hgrow
          have hb0 : Below V0.heap.size Z50 Z51 := (Below.refl _ _).grown hgrow hHeld.size (fun k e => (OW.out.lt k e).1)
          obtain ⟨gl, cA, rfl, hgl, hls⟩ := own_rc (by simpa using hown) hn1
          have HLS := Lib.hid hls
          have HGL := Lib.hid hgl
          replace HV := Lib.hid (HV.out.of_block (hgrow.block _ HV.out.lt (rown_ne OW.out HV.out (by decide))))
          refine hK.out _ _ (hHeld.trans hb0) (fun hHeld2 => ?_)
          clear hK hHeld hb0 hown hgrow hls hgl OW
          have hHeld := hHeld2
          clear hHeld2
          simp only [Act.put, List.setIfInBounds_toArray, List.set_cons_zero, List.set_cons_succ]
          refine wpAnyH_ready (rs := [4, 6]) (by kernel_rfl) (by simp) (AllReadyH.cons (at_drop (i := 4) rfl) (fun K2 hK => ?_) (AllReadyH.cons (at_drop (i := 6) rfl) (fun K2 hK => ?_) (AllReadyH.nil)))
          · obtain ⟨Z52, hZ52⟩ : ∃ Z', Z' = Z51.alloc (mkO n) := ⟨_, rfl⟩
            have hb : Below Z51.heap.size Z51 Z52 := by rw [hZ52]; exact rbel _ _
            replace HLS := Lib.hid (HLS.out.block (hb.block _ HLS.out.lt))
            replace HV := Lib.hid (rrow_below HV.out hb)
            have HFL : Hid (InBlk Z51.heap.size n (fun _ => 0) Z52) := by show InBlk _ _ _ _; rw [hZ52]; exact made_blk Z51 n
            obtain ⟨gf, hg0⟩ : ∃ g, g = Z51.heap.size := ⟨_, rfl⟩
            rw [← hg0] at HFL
            have HGF : Hid (V0.heap.size ≤ gf) := by show _ ≤ _; rw [hg0]; exact hHeld.size
            go_simp
            rw [← hZ52, ← hg0]
            clear hg0
            clear hZ52
            refine hK.out _ _ (hHeld.trans (hb.mono hHeld.size)) (fun hHeld2 => ?_)
            clear hK hHeld hb
            have hHeld := hHeld2
            clear hHeld2
            refine wpAnyH_ready (rs := [6]) (by kernel_rfl) (by simp) (AllReadyH.cons (at_drop (i := 6) rfl) (fun K2 hK => ?_) (AllReadyH.nil))
            have hlt9 := HFL.out.lt
            obtain ⟨Z53, hZ53⟩ : ∃ Z', Z' = Z52.alloc (mkO n) := ⟨_, rfl⟩
            have hb : Below Z52.heap.size Z52 Z53 := by rw [hZ53]; exact rbel _ _
            replace HLS := Lib.hid (HLS.out.block (hb.block _ HLS.out.lt))
            replace HFL := Lib.hid (HFL.out.block (hb.block _ HFL.out.lt))
            replace HV := Lib.hid (rrow_below HV.out hb)
            have HTK : Hid (InBlk Z52.heap.size n (fun _ => 0) Z53) := by show InBlk _ _ _ _; rw [hZ53]; exact made_blk Z52 n
            obtain ⟨gt, hg0⟩ : ∃ g, g = Z52.heap.size := ⟨_, rfl⟩
            rw [← hg0] at HTK
            have HGT : Hid (V0.heap.size ≤ gt) := by show _ ≤ _; rw [hg0]; exact hHeld.size
            have HNE : Hid (gf ≠ gt) := by show gf ≠ gt; omega
            clear hlt9
            go_simp
            rw [← hZ53, ← hg0]
            clear hg0
            clear hZ53
            refine hK.out _ _ (hHeld.trans (hb.mono hHeld.size)) (fun hHeld2 => ?_)
            clear hK hHeld hb
            have hHeld := hHeld2
            clear hHeld2
            refine take_do (i := 7) (v := (.agg #[.slice (some ⟨gl, 0, none⟩) n cA, .slice (some ⟨gf, 0, none⟩) n n, .slice (some ⟨gt, 0, none⟩) n n, .int .i64 0, .int .i64 0])) rfl (by kernel_rfl) (by kernel_rfl) (by kernel_rfl) (fun _ _ _ h => h) (by rfl) ?_ (by assumption) ?_
            · intro w hSw
              skip
              go_simp
            simp only [Act.put, List.setIfInBounds_toArray, List.set_cons_zero, List.set_cons_succ]
            obtain ⟨WF, HWF, HRM, HBF, ⟨o0, o1, o2, o3, o4⟩, ⟨z0, z1, z2, z3, z4⟩, hol⟩ := rr_leaf (gl := gl) (cA := cA) HSL.out hHeld HV.out HLS.out HFL.out HTK.out HPO.out HGF.out HGT.out HGL.out HNE.out
            refine take_call (i := 9) rfl (by kernel_rfl) (fun K2 hK => ?_)
            go_simp
            rw [← HWF.out]
            refine hK.out _ _ HBF.out (fun _ => ?_)
            clear hK HWF
            refine wpAnyH_done (by kernel_rfl) ?_ _
            go_wp2_with fail
            go_meet
            case rel => exact ⟨po, gl, cA, gf, gt, rfl, HRM⟩
          · obtain ⟨Z54, hZ54⟩ : ∃ Z', Z' = Z51.alloc (mkO n) := ⟨_, rfl⟩
            have hb : Below Z51.heap.size Z51 Z54 := by rw [hZ54]; exact rbel _ _
            replace HLS := Lib.hid (HLS.out.block (hb.block _ HLS.out.lt))
            replace HV := Lib.hid (rrow_below HV.out hb)
            have HTK : Hid (InBlk Z51.heap.size n (fun _ => 0) Z54) := by show InBlk _ _ _ _; rw [hZ54]; exact made_blk Z51 n
            obtain ⟨gt, hg0⟩ : ∃ g, g = Z51.heap.size := ⟨_, rfl⟩
            rw [← hg0] at HTK
            have HGT : Hid (V0.heap.size ≤ gt) := by show _ ≤ _; rw [hg0]; exact hHeld.size
            go_simp
            rw [← hZ54, ← hg0]
            clear hg0
            clear hZ54
            refine hK.out _ _ (hHeld.trans (hb.mono hHeld.size)) (fun hHeld2 => ?_)
            clear hK hHeld hb
            have hHeld := hHeld2
            clear hHeld2
            refine wpAnyH_ready (rs := [4]) (by kernel_rfl) (by simp) (AllReadyH.cons (at_drop (i := 4) rfl) (fun K2 hK => ?_) (AllReadyH.nil))
            have hlt9 := HTK.out.lt
            obtain ⟨Z55, hZ55⟩ : ∃ Z', Z' = Z54.alloc (mkO n) := ⟨_, rfl⟩
            have hb : Below Z54.heap.size Z54 Z55 := by rw [hZ55]; exact rbel _ _
            replace HLS := Lib.hid (HLS.out.block (hb.block _ HLS.out.lt))
            replace HTK := Lib.hid (HTK.out.block (hb.block _ HTK.out.lt))
            replace HV := Lib.hid (rrow_below HV.out hb)
            have HFL : Hid (InBlk Z54.heap.size n (fun _ => 0) Z55) := by show InBlk _ _ _ _; rw [hZ55]; exact made_blk Z54 n
            obtain ⟨gf, hg0⟩ : ∃ g, g = Z54.heap.size := ⟨_, rfl⟩
            rw [← hg0] at HFL
            have HGF : Hid (V0.heap.size ≤ gf) := by show _ ≤ _; rw [hg0]; exact hHeld.size
            have HNE : Hid (gf ≠ gt) := by show gf ≠ gt; omega
            clear hlt9
            go_simp
            rw [← hZ55, ← hg0]
            clear hg0
            clear hZ55
            refine hK.out _ _ (hHeld.trans (hb.mono hHeld.size)) (fun hHeld2 => ?_)
            clear hK hHeld hb
            have hHeld := hHeld2
            clear hHeld2
            refine take_do (i := 7) (v := (.agg #[.slice (some ⟨gl, 0, none⟩) n cA, .slice (some ⟨gf, 0, none⟩) n n, .slice (some ⟨gt, 0, none⟩) n n, .int .i64 0, .int .i64 0])) rfl (by kernel_rfl) (by kernel_rfl) (by kernel_rfl) (fun _ _ _ h => h) (by rfl) ?_ (by assumption) ?_
            · intro w hSw
              skip
              go_simp
            simp only [Act.put, List.setIfInBounds_toArray, List.set_cons_zero, List.set_cons_succ]
            obtain ⟨WF, HWF, HRM, HBF, ⟨o0, o1, o2, o3, o4⟩, ⟨z0, z1, z2, z3, z4⟩, hol⟩ := rr_leaf (gl := gl) (cA := cA) HSL.out hHeld HV.out HLS.out HFL.out HTK.out HPO.out HGF.out HGT.out HGL.out HNE.out
            refine take_call (i := 9) rfl (by kernel_rfl) (fun K2 hK => ?_)
            go_simp
            rw [← HWF.out]
            refine hK.out _ _ HBF.out (fun _ => ?_)
            clear hK HWF
            refine wpAnyH_done (by kernel_rfl) ?_ _
            go_wp2_with fail
            go_meet
            case rel => exact ⟨po, gl, cA, gf, gt, rfl, HRM⟩
        · obtain ⟨Z56, hZ56⟩ : ∃ Z', Z' = Z50.alloc (mkO n) := ⟨_, rfl⟩
          have hb : Below Z50.heap.size Z50 Z56 := by rw [hZ56]; exact rbel _ _
          replace OW := Lib.hid (rown_below OW.out hb)
          replace HV := Lib.hid (rrow_below HV.out hb)
          have HFL : Hid (InBlk Z50.heap.size n (fun _ => 0) Z56) := by show InBlk _ _ _ _; rw [hZ56]; exact made_blk Z50 n
          obtain ⟨gf, hg0⟩ : ∃ g, g = Z50.heap.size := ⟨_, rfl⟩
          rw [← hg0] at HFL
          have HGF : Hid (V0.heap.size ≤ gf) := by show _ ≤ _; rw [hg0]; exact hHeld.size
          go_simp
          rw [← hZ56, ← hg0]
          clear hg0
          clear hZ56
          refine hK.out _ _ (hHeld.trans (hb.mono hHeld.size)) (fun hHeld2 => ?_)
          clear hK hHeld hb
          have hHeld := hHeld2
          clear hHeld2
          refine wpAnyH_ready (rs := [2, 6]) (by kernel_rfl) (by simp) (AllReadyH.cons (at_drop (i := 2) rfl) (fun K2 hK => ?_) (AllReadyH.cons (at_drop (i := 6) rfl) (fun K2 hK => ?_) (AllReadyH.nil)))
          · refine step_append_rv rfl (.tmp 25) (.tmp 26) 25 rfl V0.heap.size 55 i0 _ 6 48 Tryd.underlying25 hi0 hy0 hy1 hy2 rfl (by decide) _ 0 [] rfl OW.out ⟨lb, 0, none⟩ n cn (inVs (scF rs) (n * 6)) rfl (by rw [inVs_len]) (rc_news (fun i hi => (H.out i hi).block (hHeld.block _ HLB.out))) rc_one (by unfold maxLen; omega) (by omega) hHeld.size ?_
            intro v5 Z57 hown hgrow
            have hb0 : Below V0.heap.size Z56 Z57 := (Below.refl _ _).grown hgrow hHeld.size (fun k e => (OW.out.lt k e).1)
            obtain ⟨gl, cA, rfl, hgl, hls⟩ := own_rc (by simpa using hown) hn1
            have HLS := Lib.hid hls
            have HGL := Lib.hid hgl
            replace HFL := Lib.hid (HFL.out.block (hgrow.block _ HFL.out.lt (rown_nei OW.out HFL.out)))
            replace HV := Lib.hid (HV.out.of_block (hgrow.block _ HV.out.lt (rown_ne OW.out HV.out (by decide))))
            refine hK.out _ _ (hHeld.trans hb0) (fun hHeld2 => ?_)
            clear hK hHeld hb0 hown hgrow hls hgl OW
            have hHeld := hHeld2
            clear hHeld2
            simp only [Act.put, List.setIfInBounds_toArray, List.set_cons_zero, List.set_cons_succ]
            refine wpAnyH_ready (rs := [6]) (by kernel_rfl) (by simp) (AllReadyH.cons (at_drop (i := 6) rfl) (fun K2 hK => ?_) (AllReadyH.nil))
            have hlt9 := HFL.out.lt
            obtain ⟨Z58, hZ58⟩ : ∃ Z', Z' = Z57.alloc (mkO n) := ⟨_, rfl⟩
            have hb : Below Z57.heap.size Z57 Z58 := by rw [hZ58]; exact rbel _ _
            replace HLS := Lib.hid (HLS.out.block (hb.block _ HLS.out.lt))
            replace HFL := Lib.hid (HFL.out.block (hb.block _ HFL.out.lt))
            replace HV := Lib.hid (rrow_below HV.out hb)
            have HTK : Hid (InBlk Z57.heap.size n (fun _ => 0) Z58) := by show InBlk _ _ _ _; rw [hZ58]; exact made_blk Z57 n
            obtain ⟨gt, hg0⟩ : ∃ g, g = Z57.heap.size := ⟨_, rfl⟩
            rw [← hg0] at HTK
            have HGT : Hid (V0.heap.size ≤ gt) := by show _ ≤ _; rw [hg0]; exact hHeld.size
            have HNE : Hid (gf ≠ gt) := by show gf ≠ gt; omega
            clear hlt9
            go_simp
            rw [← hZ58, ← hg0]
            clear hg0
            clear hZ58
            refine hK.out _ _ (hHeld.trans (hb.mono hHeld.size)) (fun hHeld2 => ?_)
            clear hK hHeld hb
            have hHeld := hHeld2
            clear hHeld2
            refine take_do (i := 7) (v := (.agg #[.slice (some ⟨gl, 0, none⟩) n cA, .slice (some ⟨gf, 0, none⟩) n n, .slice (some ⟨gt, 0, none⟩) n n, .int .i64 0, .int .i64 0])) rfl (by kernel_rfl) (by kernel_rfl) (by kernel_rfl) (fun _ _ _ h => h) (by rfl) ?_ (by assumption) ?_
            · intro w hSw
              skip
              go_simp
            simp only [Act.put, List.setIfInBounds_toArray, List.set_cons_zero, List.set_cons_succ]
            obtain ⟨WF, HWF, HRM, HBF, ⟨o0, o1, o2, o3, o4⟩, ⟨z0, z1, z2, z3, z4⟩, hol⟩ := rr_leaf (gl := gl) (cA := cA) HSL.out hHeld HV.out HLS.out HFL.out HTK.out HPO.out HGF.out HGT.out HGL.out HNE.out
            refine take_call (i := 9) rfl (by kernel_rfl) (fun K2 hK => ?_)
            go_simp
            rw [← HWF.out]
            refine hK.out _ _ HBF.out (fun _ => ?_)
            clear hK HWF
            refine wpAnyH_done (by kernel_rfl) ?_ _
            go_wp2_with fail
            go_meet
            case rel => exact ⟨po, gl, cA, gf, gt, rfl, HRM⟩
          · have hlt9 := HFL.out.lt
            obtain ⟨Z59, hZ59⟩ : ∃ Z', Z' = Z56.alloc (mkO n) := ⟨_, rfl⟩
            have hb : Below Z56.heap.size Z56 Z59 := by rw [hZ59]; exact rbel _ _
            replace OW := Lib.hid (rown_below OW.out hb)
            replace HFL := Lib.hid (HFL.out.block (hb.block _ HFL.out.lt))
            replace HV := Lib.hid (rrow_below HV.out hb)
            have HTK : Hid (InBlk Z56.heap.size n (fun _ => 0) Z59) := by show InBlk _ _ _ _; rw [hZ59]; exact made_blk Z56 n
            obtain ⟨gt, hg0⟩ : ∃ g, g = Z56.heap.size := ⟨_, rfl⟩
            rw [← hg0] at HTK
            have HGT : Hid (V0.heap.size ≤ gt) := by show _ ≤ _; rw [hg0]; exact hHeld.size
            have HNE : Hid (gf ≠ gt) := by show gf ≠ gt; omega
            clear hlt9
            go_simp
            rw [← hZ59, ← hg0]
            clear hg0
            clear hZ59
            refine hK.out _ _ (hHeld.trans (hb.mono hHeld.size)) (fun hHeld2 => ?_)
            clear hK hHeld hb
            have hHeld := hHeld2
            clear hHeld2
            refine wpAnyH_ready (rs := [2]) (by kernel_rfl) (by simp) (AllReadyH.cons (at_drop (i := 2) rfl) (fun K2 hK => ?_) (AllReadyH.nil))
            refine step_append_rv rfl (.tmp 25) (.tmp 26) 25 rfl V0.heap.size 55 i0 _ 6 48 Tryd.underlying25 hi0 hy0 hy1 hy2 rfl (by decide) _ 0 [] rfl OW.out ⟨lb, 0, none⟩ n cn (inVs (scF rs) (n * 6)) rfl (by rw [inVs_len]) (rc_news (fun i hi => (H.out i hi).block (hHeld.block _ HLB.out))) rc_one (by unfold maxLen; omega) (by omega) hHeld.size ?_
            intro v5 Z60 hown hgrow
            have hb0 : Below V0.heap.size Z59 Z60 := (Below.refl _ _).grown hgrow hHeld.size (fun k e => (OW.out.lt k e).1)
            obtain ⟨gl, cA, rfl, hgl, hls⟩ := own_rc (by simpa using hown) hn1
            have HLS := Lib.hid hls
            have HGL := Lib.hid hgl
            replace HFL := Lib.hid (HFL.out.block (hgrow.block _ HFL.out.lt (rown_nei OW.out HFL.out)))
            replace HTK := Lib.hid (HTK.out.block (hgrow.block _ HTK.out.lt (rown_nei OW.out HTK.out)))
            replace HV := Lib.hid (HV.out.of_block (hgrow.block _ HV.out.lt (rown_ne OW.out HV.out (by decide))))
            refine hK.out _ _ (hHeld.trans hb0) (fun hHeld2 => ?_)
            clear hK hHeld hb0 hown hgrow hls hgl OW
            have hHeld := hHeld2
            clear hHeld2
            simp only [Act.put, List.setIfInBounds_toArray, List.set_cons_zero, List.set_cons_succ]
            refine take_do (i := 7) (v := (.agg #[.slice (some ⟨gl, 0, none⟩) n cA, .slice (some ⟨gf, 0, none⟩) n n, .slice (some ⟨gt, 0, none⟩) n n, .int .i64 0, .int .i64 0])) rfl (by kernel_rfl) (by kernel_rfl) (by kernel_rfl) (fun _ _ _ h => h) (by rfl) ?_ (by assumption) ?_
            · intro w hSw
              skip
              go_simp
            simp only [Act.put, List.setIfInBounds_toArray, List.set_cons_zero, List.set_cons_succ]
            obtain ⟨WF, HWF, HRM, HBF, ⟨o0, o1, o2, o3, o4⟩, ⟨z0, z1, z2, z3, z4⟩, hol⟩ := rr_leaf (gl := gl) (cA := cA) HSL.out hHeld HV.out HLS.out HFL.out HTK.out HPO.out HGF.out HGT.out HGL.out HNE.out
            refine take_call (i := 9) rfl (by kernel_rfl) (fun K2 hK => ?_)
            go_simp
            rw [← HWF.out]
            refine hK.out _ _ HBF.out (fun _ => ?_)
            clear hK HWF
            refine wpAnyH_done (by kernel_rfl) ?_ _
            go_wp2_with fail
            go_meet
            case rel => exact ⟨po, gl, cA, gf, gt, rfl, HRM⟩
        · obtain ⟨Z61, hZ61⟩ : ∃ Z', Z' = Z50.alloc (mkO n) := ⟨_, rfl⟩
          have hb : Below Z50.heap.size Z50 Z61 := by rw [hZ61]; exact rbel _ _
          replace OW := Lib.hid (rown_below OW.out hb)
          replace HV := Lib.hid (rrow_below HV.out hb)
          have HTK : Hid (InBlk Z50.heap.size n (fun _ => 0) Z61) := by show InBlk _ _ _ _; rw [hZ61]; exact made_blk Z50 n
          obtain ⟨gt, hg0⟩ : ∃ g, g = Z50.heap.size := ⟨_, rfl⟩
          rw [← hg0] at HTK
          have HGT : Hid (V0.heap.size ≤ gt) := by show _ ≤ _; rw [hg0]; exact hHeld.size
          go_simp
          rw [← hZ61, ← hg0]
          clear hg0
          clear hZ61
          refine hK.out _ _ (hHeld.trans (hb.mono hHeld.size)) (fun hHeld2 => ?_)
          clear hK hHeld hb
          have hHeld := hHeld2
          clear hHeld2
          refine wpAnyH_ready (rs := [2, 4]) (by kernel_rfl) (by simp) (AllReadyH.cons (at_drop (i := 2) rfl) (fun K2 hK => ?_) (AllReadyH.cons (at_drop (i := 4) rfl) (fun K2 hK => ?_) (AllReadyH.nil)))
          · refine step_append_rv rfl (.tmp 25) (.tmp 26) 25 rfl V0.heap.size 55 i0 _ 6 48 Tryd.underlying25 hi0 hy0 hy1 hy2 rfl (by decide) _ 0 [] rfl OW.out ⟨lb, 0, none⟩ n cn (inVs (scF rs) (n * 6)) rfl (by rw [inVs_len]) (rc_news (fun i hi => (H.out i hi).block (hHeld.block _ HLB.out))) rc_one (by unfold maxLen; omega) (by omega) hHeld.size ?_
            intro v5 Z62 hown hgrow
            have hb0 : Below V0.heap.size Z61 Z62 := (Below.refl _ _).grown hgrow hHeld.size (fun k e => (OW.out.lt k e).1)
            obtain ⟨gl, cA, rfl, hgl, hls⟩ := own_rc (by simpa using hown) hn1
            have HLS := Lib.hid hls
            have HGL := Lib.hid hgl
            replace HTK := Lib.hid (HTK.out.block (hgrow.block _ HTK.out.lt (rown_nei OW.out HTK.out)))
            replace HV := Lib.hid (HV.out.of_block (hgrow.block _ HV.out.lt (rown_ne OW.out HV.out (by decide))))
            refine hK.out _ _ (hHeld.trans hb0) (fun hHeld2 => ?_)
            clear hK hHeld hb0 hown hgrow hls hgl OW
            have hHeld := hHeld2
            clear hHeld2
            simp only [Act.put, List.setIfInBounds_toArray, List.set_cons_zero, List.set_cons_succ]
            refine wpAnyH_ready (rs := [4]) (by kernel_rfl) (by simp) (AllReadyH.cons (at_drop (i := 4) rfl) (fun K2 hK => ?_) (AllReadyH.nil))
            have hlt9 := HTK.out.lt
            obtain ⟨Z63, hZ63⟩ : ∃ Z', Z' = Z62.alloc (mkO n) := ⟨_, rfl⟩
            have hb : Below Z62.heap.size Z62 Z63 := by rw [hZ63]; exact rbel _ _
            replace HLS := Lib.hid (HLS.out.block (hb.block _ HLS.out.lt))
            replace HTK := Lib.hid (HTK.out.block (hb.block _ HTK.out.lt))
            replace HV := Lib.hid (rrow_below HV.out hb)
            have HFL : Hid (InBlk Z62.heap.size n (fun _ => 0) Z63) := by show InBlk _ _ _ _; rw [hZ63]; exact made_blk Z62 n
            obtain ⟨gf, hg0⟩ : ∃ g, g = Z62.heap.size := ⟨_, rfl⟩
            rw [← hg0] at HFL
            have HGF : Hid (V0.heap.size ≤ gf) := by show _ ≤ _; rw [hg0]; exact hHeld.size
            have HNE : Hid (gf ≠ gt) := by show gf ≠ gt; omega
            clear hlt9
            go_simp
            rw [← hZ63, ← hg0]
            clear hg0
            clear hZ63
            refine hK.out _ _ (hHeld.trans (hb.mono hHeld.size)) (fun hHeld2 => ?_)
            clear hK hHeld hb
            have hHeld := hHeld2
            clear hHeld2
            refine take_do (i := 7) (v := (.agg #[.slice (some ⟨gl, 0, none⟩) n cA, .slice (some ⟨gf, 0, none⟩) n n, .slice (some ⟨gt, 0, none⟩) n n, .int .i64 0, .int .i64 0])) rfl (by kernel_rfl) (by kernel_rfl) (by kernel_rfl) (fun _ _ _ h => h) (by rfl) ?_ (by assumption) ?_
            · intro w hSw
              skip
              go_simp
            simp only [Act.put, List.setIfInBounds_toArray, List.set_cons_zero, List.set_cons_succ]
            obtain ⟨WF, HWF, HRM, HBF, ⟨o0, o1, o2, o3, o4⟩, ⟨z0, z1, z2, z3, z4⟩, hol⟩ := rr_leaf (gl := gl) (cA := cA) HSL.out hHeld HV.out HLS.out HFL.out HTK.out HPO.out HGF.out HGT.out HGL.out HNE.out
            refine take_call (i := 9) rfl (by kernel_rfl) (fun K2 hK => ?_)
            go_simp
            rw [← HWF.out]
            refine hK.out _ _ HBF.out (fun _ => ?_)
            clear hK HWF
            refine wpAnyH_done (by kernel_rfl) ?_ _
            go_wp2_with fail
            go_meet
            case rel => exact ⟨po, gl, cA, gf, gt, rfl, HRM⟩
          · have hlt9 := HTK.out.lt
            obtain ⟨Z64, hZ64⟩ : ∃ Z', Z' = Z61.alloc (mkO n) := ⟨_, rfl⟩
            have hb : Below Z61.heap.size Z61 Z64 := by rw [hZ64]; exact rbel _ _
            replace OW := Lib.hid (rown_below OW.out hb)
            replace HTK := Lib.hid (HTK.out.block (hb.block _ HTK.out.lt))
            replace HV := Lib.hid (rrow_below HV.out hb)
            have HFL : Hid (InBlk Z61.heap.size n (fun _ => 0) Z64) := by show InBlk _ _ _ _; rw [hZ64]; exact made_blk Z61 n
            obtain ⟨gf, hg0⟩ : ∃ g, g = Z61.heap.size := ⟨_, rfl⟩
            rw [← hg0] at HFL
            have HGF : Hid (V0.heap.size ≤ gf) := by show _ ≤ _; rw [hg0]; exact hHeld.size
            have HNE : Hid (gf ≠ gt) := by show gf ≠ gt; omega
            clear hlt9
            go_simp
            rw [← hZ64, ← hg0]
            clear hg0
            clear hZ64
            refine hK.out _ _ (hHeld.trans (hb.mono hHeld.size)) (fun hHeld2 => ?_)
            clear hK hHeld hb
            have hHeld := hHeld2
            clear hHeld2
            refine wpAnyH_ready (rs := [2]) (by kernel_rfl) (by simp) (AllReadyH.cons (at_drop (i := 2) rfl) (fun K2 hK => ?_) (AllReadyH.nil))
            refine step_append_rv rfl (.tmp 25) (.tmp 26) 25 rfl V0.heap.size 55 i0 _ 6 48 Tryd.underlying25 hi0 hy0 hy1 hy2 rfl (by decide) _ 0 [] rfl OW.out ⟨lb, 0, none⟩ n cn (inVs (scF rs) (n * 6)) rfl (by rw [inVs_len]) (rc_news (fun i hi => (H.out i hi).block (hHeld.block _ HLB.out))) rc_one (by unfold maxLen; omega) (by omega) hHeld.size ?_
            intro v5 Z65 hown hgrow
            have hb0 : Below V0.heap.size Z64 Z65 := (Below.refl _ _).grown hgrow hHeld.size (fun k e => (OW.out.lt k e).1)
            obtain ⟨gl, cA, rfl, hgl, hls⟩ := own_rc (by simpa using hown) hn1
            have HLS := Lib.hid hls
            have HGL := Lib.hid hgl
            replace HFL := Lib.hid (HFL.out.block (hgrow.block _ HFL.out.lt (rown_nei OW.out HFL.out)))
            replace HTK := Lib.hid (HTK.out.block (hgrow.block _ HTK.out.lt (rown_nei OW.out HTK.out)))
            replace HV := Lib.hid (HV.out.of_block (hgrow.block _ HV.out.lt (rown_ne OW.out HV.out (by decide))))
            refine hK.out _ _ (hHeld.trans hb0) (fun hHeld2 => ?_)
            clear hK hHeld hb0 hown hgrow hls hgl OW
            have hHeld := hHeld2
            clear hHeld2
            simp only [Act.put, List.setIfInBounds_toArray, List.set_cons_zero, List.set_cons_succ]
            refine take_do (i := 7) (v := (.agg #[.slice (some ⟨gl, 0, none⟩) n cA, .slice (some ⟨gf, 0, none⟩) n n, .slice (some ⟨gt, 0, none⟩) n n, .int .i64 0, .int .i64 0])) rfl (by kernel_rfl) (by kernel_rfl) (by kernel_rfl) (fun _ _ _ h => h) (by rfl) ?_ (by assumption) ?_
            · intro w hSw
              skip
              go_simp
            simp only [Act.put, List.setIfInBounds_toArray, List.set_cons_zero, List.set_cons_succ]
            obtain ⟨WF, HWF, HRM, HBF, ⟨o0, o1, o2, o3, o4⟩, ⟨z0, z1, z2, z3, z4⟩, hol⟩ := rr_leaf (gl := gl) (cA := cA) HSL.out hHeld HV.out HLS.out HFL.out HTK.out HPO.out HGF.out HGT.out HGL.out HNE.out
            refine take_call (i := 9) rfl (by kernel_rfl) (fun K2 hK => ?_)
            go_simp
            rw [← HWF.out]
            refine hK.out _ _ HBF.out (fun _ => ?_)
            clear hK HWF
            refine wpAnyH_done (by kernel_rfl) ?_ _
            go_wp2_with fail
            go_meet
            case rel => exact ⟨po, gl, cA, gf, gt, rfl, HRM⟩
    · obtain ⟨Z66, hZ66⟩ : ∃ Z', Z' = Z.alloc (mkO n) := ⟨_, rfl⟩
      have hb : Below Z.heap.size Z Z66 := by rw [hZ66]; exact rbel _ _
      have HFL : Hid (InBlk Z.heap.size n (fun _ => 0) Z66) := by show InBlk _ _ _ _; rw [hZ66]; exact made_blk Z n
      obtain ⟨gf, hg0⟩ : ∃ g, g = Z.heap.size := ⟨_, rfl⟩
      rw [← hg0] at HFL
      have HGF : Hid (V0.heap.size ≤ gf) := by show _ ≤ _; rw [hg0]; exact hHeld.size
      go_simp
      rw [← hZ66, ← hg0]
      clear hg0
      clear hZ66
      refine hK.out _ _ (hHeld.trans (hb.mono hHeld.size)) (fun hHeld2 => ?_)
      clear hK hHeld hb
      have hHeld := hHeld2
      clear hHeld2
      refine wpAnyH_ready (rs := [0, 6, 8]) (by kernel_rfl) (by simp) (AllReadyH.cons (at_drop (i := 0) rfl) (fun K2 hK => ?_) (AllReadyH.cons (at_drop (i := 6) rfl) (fun K2 hK => ?_) (AllReadyH.cons (at_drop (i := 8) rfl) (fun K2 hK => ?_) (AllReadyH.nil))))
      · obtain ⟨Z67, hZ67⟩ : ∃ Z', Z' = Z66.alloc (.cells #[] 55) := ⟨_, rfl⟩
        have hb : Below Z66.heap.size Z66 Z67 := by rw [hZ67]; exact rbel _ _
        replace HFL := Lib.hid (HFL.out.block (hb.block _ HFL.out.lt))
        have OW : Hid (Z67.ownsRow V0.heap.size 55 6 (.slice (some ⟨Z66.heap.size, 0, none⟩) 0 0) 0 []) := by show World.ownsRow _ _ _ _ _ _ _; rw [hZ67]; exact World.ownsRow_made Z66 #[] 0 hHeld.size (Nat.zero_le _) rfl
        go_simp
        rw [← hZ67]
        clear hZ67
        refine hK.out _ _ (hHeld.trans (hb.mono hHeld.size)) (fun hHeld2 => ?_)
        clear hK hHeld hb
        have hHeld := hHeld2
        clear hHeld2
        refine wpAnyH_ready (rs := [2, 6, 8]) (by kernel_rfl) (by simp) (AllReadyH.cons (at_drop (i := 2) rfl) (fun K2 hK => ?_) (AllReadyH.cons (at_drop (i := 6) rfl) (fun K2 hK => ?_) (AllReadyH.cons (at_drop (i := 8) rfl) (fun K2 hK => ?_) (AllReadyH.nil))))
        · refine step_append_rv rfl (.tmp 25) (.tmp 26) 25 rfl V0.heap.size 55 i0 _ 6 48 Tryd.underlying25 hi0 hy0 hy1 hy2 rfl (by decide) _ 0 [] rfl OW.out ⟨lb, 0, none⟩ n cn (inVs (scF rs) (n * 6)) rfl (by rw [inVs_len]) (rc_news (fun i hi => (H.out i hi).block (hHeld.block _ HLB.out))) rc_one (by unfold maxLen; omega) (by omega) hHeld.size ?_
          intro v5 Z68 hown hgrow
          have hb0 : Below V0.heap.size Z67 Z68 := (Below.refl _ _).grown hgrow hHeld.size (fun k e => (OW.out.lt k e).1)
          obtain ⟨gl, cA, rfl, hgl, hls⟩ := own_rc (by simpa using hown) hn1
          have HLS := Lib.hid hls
          have HGL := Lib.hid hgl
          replace HFL := Lib.hid (HFL.out.block (hgrow.block _ HFL.out.lt (rown_nei OW.out HFL.out)))
          refine hK.out _ _ (hHeld.trans hb0) (fun hHeld2 => ?_)
          clear hK hHeld hb0 hown hgrow hls hgl OW
          have hHeld := hHeld2
          clear hHeld2
          simp only [Act.put, List.setIfInBounds_toArray, List.set_cons_zero, List.set_cons_succ]
          refine wpAnyH_ready (rs := [6, 8]) (by kernel_rfl) (by simp) (AllReadyH.cons (at_drop (i := 6) rfl) (fun K2 hK => ?_) (AllReadyH.cons (at_drop (i := 8) rfl) (fun K2 hK => ?_) (AllReadyH.nil)))
          · have hlt9 := HFL.out.lt
            obtain ⟨Z69, hZ69⟩ : ∃ Z', Z' = Z68.alloc (mkO n) := ⟨_, rfl⟩
            have hb : Below Z68.heap.size Z68 Z69 := by rw [hZ69]; exact rbel _ _
            replace HLS := Lib.hid (HLS.out.block (hb.block _ HLS.out.lt))
            replace HFL := Lib.hid (HFL.out.block (hb.block _ HFL.out.lt))
            have HTK : Hid (InBlk Z68.heap.size n (fun _ => 0) Z69) := by show InBlk _ _ _ _; rw [hZ69]; exact made_blk Z68 n
            obtain ⟨gt, hg0⟩ : ∃ g, g = Z68.heap.size := ⟨_, rfl⟩
            rw [← hg0] at HTK
            have HGT : Hid (V0.heap.size ≤ gt) := by show _ ≤ _; rw [hg0]; exact hHeld.size
            have HNE : Hid (gf ≠ gt) := by show gf ≠ gt; omega
            clear hlt9
            go_simp
            rw [← hZ69, ← hg0]
            clear hg0
            clear hZ69
            refine hK.out _ _ (hHeld.trans (hb.mono hHeld.size)) (fun hHeld2 => ?_)
            clear hK hHeld hb
            have hHeld := hHeld2
            clear hHeld2
            refine take_do (i := 7) (v := (.agg #[.slice (some ⟨gl, 0, none⟩) n cA, .slice (some ⟨gf, 0, none⟩) n n, .slice (some ⟨gt, 0, none⟩) n n, .int .i64 0, .int .i64 0])) rfl (by kernel_rfl) (by kernel_rfl) (by kernel_rfl) (fun _ _ _ h => h) (by rfl) ?_ (by assumption) ?_
            · intro w hSw
              skip
              go_simp
            simp only [Act.put, List.setIfInBounds_toArray, List.set_cons_zero, List.set_cons_succ]
            refine wpAnyH_ready (rs := [8]) (by kernel_rfl) (by simp) (AllReadyH.cons (at_drop (i := 8) rfl) (fun K2 hK => ?_) (AllReadyH.nil))
            obtain ⟨Z70, hZ70⟩ : ∃ Z', Z' = Z69.alloc (.cells #[.slice none 0 0, .slice none 0 0, .slice none 0 0, .int .i64 0, .int .i64 0] 27) := ⟨_, rfl⟩
            have hb : Below Z69.heap.size Z69 Z70 := by rw [hZ70]; exact rbel _ _
            replace HLS := Lib.hid (HLS.out.block (hb.block _ HLS.out.lt))
            replace HFL := Lib.hid (HFL.out.block (hb.block _ HFL.out.lt))
            replace HTK := Lib.hid (HTK.out.block (hb.block _ HTK.out.lt))
            have HV : Hid (Z70.rowIs Z69.heap.size 27 5 (ro5 (.slice none 0 0) (.slice none 0 0) (.slice none 0 0) 0 0)) := by show World.rowIs _ _ _ _ _; rw [hZ70]; exact World.rowIs_alloc Z69 #[.slice none 0 0, .slice none 0 0, .slice none 0 0, .int .i64 0, .int .i64 0] 27 _ (ro5_row (.slice none 0 0) (.slice none 0 0) (.slice none 0 0) 0 0)
            obtain ⟨po, hg0⟩ : ∃ g, g = Z69.heap.size := ⟨_, rfl⟩
            rw [← hg0] at HV
            have HPO : Hid (V0.heap.size ≤ po) := by show _ ≤ _; rw [hg0]; exact hHeld.size
            go_simp
            rw [← hZ70, ← hg0]
            clear hg0
            clear hZ70
            refine hK.out _ _ (hHeld.trans (hb.mono hHeld.size)) (fun hHeld2 => ?_)
            clear hK hHeld hb
            have hHeld := hHeld2
            clear hHeld2
            obtain ⟨WF, HWF, HRM, HBF, ⟨o0, o1, o2, o3, o4⟩, ⟨z0, z1, z2, z3, z4⟩, hol⟩ := rr_leaf (gl := gl) (cA := cA) HSL.out hHeld HV.out HLS.out HFL.out HTK.out HPO.out HGF.out HGT.out HGL.out HNE.out
            refine take_call (i := 9) rfl (by kernel_rfl) (fun K2 hK => ?_)
            go_simp
            rw [← HWF.out]
            refine hK.out _ _ HBF.out (fun _ => ?_)
            clear hK HWF
            refine wpAnyH_done (by kernel_rfl) ?_ _
            go_wp2_with fail
            go_meet
            case rel => exact ⟨po, gl, cA, gf, gt, rfl, HRM⟩
          · obtain ⟨Z71, hZ71⟩ : ∃ Z', Z' = Z68.alloc (.cells #[.slice none 0 0, .slice none 0 0, .slice none 0 0, .int .i64 0, .int .i64 0] 27) := ⟨_, rfl⟩
            have hb : Below Z68.heap.size Z68 Z71 := by rw [hZ71]; exact rbel _ _
            replace HLS := Lib.hid (HLS.out.block (hb.block _ HLS.out.lt))
            replace HFL := Lib.hid (HFL.out.block (hb.block _ HFL.out.lt))
            have HV : Hid (Z71.rowIs Z68.heap.size 27 5 (ro5 (.slice none 0 0) (.slice none 0 0) (.slice none 0 0) 0 0)) := by show World.rowIs _ _ _ _ _; rw [hZ71]; exact World.rowIs_alloc Z68 #[.slice none 0 0, .slice none 0 0, .slice none 0 0, .int .i64 0, .int .i64 0] 27 _ (ro5_row (.slice none 0 0) (.slice none 0 0) (.slice none 0 0) 0 0)
            obtain ⟨po, hg0⟩ : ∃ g, g = Z68.heap.size := ⟨_, rfl⟩
            rw [← hg0] at HV
            have HPO : Hid (V0.heap.size ≤ po) := by show _ ≤ _; rw [hg0]; exact hHeld.size
            go_simp
            rw [← hZ71, ← hg0]
            clear hg0
            clear hZ71
            refine hK.out _ _ (hHeld.trans (hb.mono hHeld.size)) (fun hHeld2 => ?_)
            clear hK hHeld hb
            have hHeld := hHeld2
            clear hHeld2
            refine wpAnyH_ready (rs := [6]) (by kernel_rfl) (by simp) (AllReadyH.cons (at_drop (i := 6) rfl) (fun K2 hK => ?_) (AllReadyH.nil))
            have hlt9 := HFL.out.lt
            obtain ⟨Z72, hZ72⟩ : ∃ Z', Z' = Z71.alloc (mkO n) := ⟨_, rfl⟩
            have hb : Below Z71.heap.size Z71 Z72 := by rw [hZ72]; exact rbel _ _
            replace HLS := Lib.hid (HLS.out.block (hb.block _ HLS.out.lt))
            replace HFL := Lib.hid (HFL.out.block (hb.block _ HFL.out.lt))
            replace HV := Lib.hid (rrow_below HV.out hb)
            have HTK : Hid (InBlk Z71.heap.size n (fun _ => 0) Z72) := by show InBlk _ _ _ _; rw [hZ72]; exact made_blk Z71 n
            obtain ⟨gt, hg0⟩ : ∃ g, g = Z71.heap.size := ⟨_, rfl⟩
            rw [← hg0] at HTK
            have HGT : Hid (V0.heap.size ≤ gt) := by show _ ≤ _; rw [hg0]; exact hHeld.size
            have HNE : Hid (gf ≠ gt) := by show gf ≠ gt; omega
            clear hlt9
            go_simp
            rw [← hZ72, ← hg0]
            clear hg0
            clear hZ72
            refine hK.out _ _ (hHeld.trans (hb.mono hHeld.size)) (fun hHeld2 => ?_)
            clear hK hHeld hb
            have hHeld := hHeld2
            clear hHeld2
            refine take_do (i := 7) (v := (.agg #[.slice (some ⟨gl, 0, none⟩) n cA, .slice (some ⟨gf, 0, none⟩) n n, .slice (some ⟨gt, 0, none⟩) n n, .int .i64 0, .int .i64 0])) rfl (by kernel_rfl) (by kernel_rfl) (by kernel_rfl) (fun _ _ _ h => h) (by rfl) ?_ (by assumption) ?_
            · intro w hSw
              skip
              go_simp
            simp only [Act.put, List.setIfInBounds_toArray, List.set_cons_zero, List.set_cons_succ]
            obtain ⟨WF, HWF, HRM, HBF, ⟨o0, o1, o2, o3, o4⟩, ⟨z0, z1, z2, z3, z4⟩, hol⟩ := rr_leaf (gl := gl) (cA := cA) HSL.out hHeld HV.out HLS.out HFL.out HTK.out HPO.out HGF.out HGT.out HGL.out HNE.out
            refine take_call (i := 9) rfl (by kernel_rfl) (fun K2 hK => ?_)
            go_simp
            rw [← HWF.out]
            refine hK.out _ _ HBF.out (fun _ => ?_)
            clear hK HWF
            refine wpAnyH_done (by kernel_rfl) ?_ _
            go_wp2_with fail
            go_meet
            case rel => exact ⟨po, gl, cA, gf, gt, rfl, HRM⟩
        · have hlt9 := HFL.out.lt
          obtain ⟨Z73, hZ73⟩ : ∃ Z', Z' = Z67.alloc (mkO n) := ⟨_, rfl⟩
          have hb : Below Z67.heap.size Z67 Z73 := by rw [hZ73]; exact rbel _ _
          replace OW := Lib.hid (rown_below OW.out hb)
          replace HFL := Lib.hid (HFL.out.block (hb.block _ HFL.out.lt))
          have HTK : Hid (InBlk Z67.heap.size n (fun _ => 0) Z73) := by show InBlk _ _ _ _; rw [hZ73]; exact made_blk Z67 n
          obtain ⟨gt, hg0⟩ : ∃ g, g = Z67.heap.size := ⟨_, rfl⟩
          rw [← hg0] at HTK
          have HGT : Hid (V0.heap.size ≤ gt) := by show _ ≤ _; rw [hg0]; exact hHeld.size
          have HNE : Hid (gf ≠ gt) := by show gf ≠ gt; omega
          clear hlt9
          go_simp
          rw [← hZ73, ← hg0]
          clear hg0
          clear hZ73
          refine hK.out _ _ (hHeld.trans (hb.mono hHeld.size)) (fun hHeld2 => ?_)
          clear hK hHeld hb
          have hHeld := hHeld2
          clear hHeld2
          refine wpAnyH_ready (rs := [2, 8]) (by kernel_rfl) (by simp) (AllReadyH.cons (at_drop (i := 2) rfl) (fun K2 hK => ?_) (AllReadyH.cons (at_drop (i := 8) rfl) (fun K2 hK => ?_) (AllReadyH.nil)))
          · refine step_append_rv rfl (.tmp 25) (.tmp 26) 25 rfl V0.heap.size 55 i0 _ 6 48 Tryd.underlying25 hi0 hy0 hy1 hy2 rfl (by decide) _ 0 [] rfl OW.out ⟨lb, 0, none⟩ n cn (inVs (scF rs) (n * 6)) rfl (by rw [inVs_len]) (rc_news (fun i hi => (H.out i hi).block (hHeld.block _ HLB.out))) rc_one (by unfold maxLen; omega) (by omega) hHeld.size ?_
            intro v5 Z74 hown hgrow
            have hb0 : Below V0.heap.size Z73 Z74 := (Below.refl _ _).grown hgrow hHeld.size (fun k e => (OW.out.lt k e).1)
            obtain ⟨gl, cA, rfl, hgl, hls⟩ := own_rc (by simpa using hown) hn1
            have HLS := Lib.hid hls
            have HGL := Lib.hid hgl
            replace HFL := Lib.hid (HFL.out.block (hgrow.block _ HFL.out.lt (rown_nei OW.out HFL.out)))
            replace HTK := Lib.hid (HTK.out.block (hgrow.block _ HTK.out.lt (rown_nei OW.out HTK.out)))
            refine hK.out _ _ (hHeld.trans hb0) (fun hHeld2 => ?_)
            clear hK hHeld hb0 hown hgrow hls hgl OW
            have hHeld := hHeld2
            clear hHeld2
            simp only [Act.put, List.setIfInBounds_toArray, List.set_cons_zero, List.set_cons_succ]
            refine take_do (i := 7) (v := (.agg #[.slice (some ⟨gl, 0, none⟩) n cA, .slice (some ⟨gf, 0, none⟩) n n, .slice (some ⟨gt, 0, none⟩) n n, .int .i64 0, .int .i64 0])) rfl (by kernel_rfl) (by kernel_rfl) (by kernel_rfl) (fun _ _ _ h => h) (by rfl) ?_ (by assumption) ?_
            · intro w hSw
              skip
              go_simp
            simp only [Act.put, List.setIfInBounds_toArray, List.set_cons_zero, List.set_cons_succ]
            refine wpAnyH_ready (rs := [8]) (by kernel_rfl) (by simp) (AllReadyH.cons (at_drop (i := 8) rfl) (fun K2 hK => ?_) (AllReadyH.nil))
            obtain ⟨Z75, hZ75⟩ : ∃ Z', Z' = Z74.alloc (.cells #[.slice none 0 0, .slice none 0 0, .slice none 0 0, .int .i64 0, .int .i64 0] 27) := ⟨_, rfl⟩
            have hb : Below Z74.heap.size Z74 Z75 := by rw [hZ75]; exact rbel _ _
            replace HLS := Lib.hid (HLS.out.block (hb.block _ HLS.out.lt))
            replace HFL := Lib.hid (HFL.out.block (hb.block _ HFL.out.lt))
            replace HTK := Lib.hid (HTK.out.block (hb.block _ HTK.out.lt))
            have HV : Hid (Z75.rowIs Z74.heap.size 27 5 (ro5 (.slice none 0 0) (.slice none 0 0) (.slice none 0 0) 0 0)) := by show World.rowIs _ _ _ _ _; rw [hZ75]; exact World.rowIs_alloc Z74 #[.slice none 0 0, .slice none 0 0, .slice none 0 0, .int .i64 0, .int .i64 0] 27 _ (ro5_row (.slice none 0 0) (.slice none 0 0) (.slice none 0 0) 0 0)
            obtain ⟨po, hg0⟩ : ∃ g, g = Z74.heap.size := ⟨_, rfl⟩
            rw [← hg0] at HV
            have HPO : Hid (V0.heap.size ≤ po) := by show _ ≤ _; rw [hg0]; exact hHeld.size
            go_simp
            rw [← hZ75, ← hg0]
            clear hg0
            clear hZ75
            refine hK.out _ _ (hHeld.trans (hb.mono hHeld.size)) (fun hHeld2 => ?_)
            clear hK hHeld hb
            have hHeld := hHeld2
            clear hHeld2
            obtain ⟨WF, HWF, HRM, HBF, ⟨o0, o1, o2, o3, o4⟩, ⟨z0, z1, z2, z3, z4⟩, hol⟩ := rr_leaf (gl := gl) (cA := cA) HSL.out hHeld HV.out HLS.out HFL.out HTK.out HPO.out HGF.out HGT.out HGL.out HNE.out
            refine take_call (i := 9) rfl (by kernel_rfl) (fun K2 hK => ?_)
            go_simp
            rw [← HWF.out]
            refine hK.out _ _ HBF.out (fun _ => ?_)
            clear hK HWF
            refine wpAnyH_done (by kernel_rfl) ?_ _
            go_wp2_with fail
            go_meet
            case rel => exact ⟨po, gl, cA, gf, gt, rfl, HRM⟩
          · obtain ⟨Z76, hZ76⟩ : ∃ Z', Z' = Z73.alloc (.cells #[.slice none 0 0, .slice none 0 0, .slice none 0 0, .int .i64 0, .int .i64 0] 27) := ⟨_, rfl⟩
            have hb : Below Z73.heap.size Z73 Z76 := by rw [hZ76]; exact rbel _ _
            replace OW := Lib.hid (rown_below OW.out hb)
            replace HFL := Lib.hid (HFL.out.block (hb.block _ HFL.out.lt))
            replace HTK := Lib.hid (HTK.out.block (hb.block _ HTK.out.lt))
            have HV : Hid (Z76.rowIs Z73.heap.size 27 5 (ro5 (.slice none 0 0) (.slice none 0 0) (.slice none 0 0) 0 0)) := by show World.rowIs _ _ _ _ _; rw [hZ76]; exact World.rowIs_alloc Z73 #[.slice none 0 0, .slice none 0 0, .slice none 0 0, .int .i64 0, .int .i64 0] 27 _ (ro5_row (.slice none 0 0) (.slice none 0 0) (.slice none 0 0) 0 0)
            obtain ⟨po, hg0⟩ : ∃ g, g = Z73.heap.size := ⟨_, rfl⟩
            rw [← hg0] at HV
            have HPO : Hid (V0.heap.size ≤ po) := by show _ ≤ _; rw [hg0]; exact hHeld.size
            go_simp
            rw [← hZ76, ← hg0]
            clear hg0
            clear hZ76
            refine hK.out _ _ (hHeld.trans (hb.mono hHeld.size)) (fun hHeld2 => ?_)
            clear hK hHeld hb
            have hHeld := hHeld2
            clear hHeld2
            refine wpAnyH_ready (rs := [2]) (by kernel_rfl) (by simp) (AllReadyH.cons (at_drop (i := 2) rfl) (fun K2 hK => ?_) (AllReadyH.nil))
            refine step_append_rv rfl (.tmp 25) (.tmp 26) 25 rfl V0.heap.size 55 i0 _ 6 48 Tryd.underlying25 hi0 hy0 hy1 hy2 rfl (by decide) _ 0 [] rfl OW.out ⟨lb, 0, none⟩ n cn (inVs (scF rs) (n * 6)) rfl (by rw [inVs_len]) (rc_news (fun i hi => (H.out i hi).block (hHeld.block _ HLB.out))) rc_one (by unfold maxLen; omega) (by omega) hHeld.size ?_
            intro v5 Z77 hown hgrow
            have hb0 : Below V0.heap.size Z76 Z77 := (Below.refl _ _).grown hgrow hHeld.size (fun k e => (OW.out.lt k e).1)
            obtain ⟨gl, cA, rfl, hgl, hls⟩ := own_rc (by simpa using hown) hn1
            have HLS := Lib.hid hls
            have HGL := Lib.hid hgl
            replace HFL := Lib.hid (HFL.out.block (hgrow.block _ HFL.out.lt (rown_nei OW.out HFL.out)))
            replace HTK := Lib.hid (HTK.out.block (hgrow.block _ HTK.out.lt (rown_nei OW.out HTK.out)))
            replace HV := Lib.hid (HV.out.of_block (hgrow.block _ HV.out.lt (rown_ne OW.out HV.out (by decide))))
            refine hK.out _ _ (hHeld.trans hb0) (fun hHeld2 => ?_)
            clear hK hHeld hb0 hown hgrow hls hgl OW
            have hHeld := hHeld2
            clear hHeld2
            simp only [Act.put, List.setIfInBounds_toArray, List.set_cons_zero, List.set_cons_succ]
            refine take_do (i := 7) (v := (.agg #[.slice (some ⟨gl, 0, none⟩) n cA, .slice (some ⟨gf, 0, none⟩) n n, .slice (some ⟨gt, 0, none⟩) n n, .int .i64 0, .int .i64 0])) rfl (by kernel_rfl) (by kernel_rfl) (by kernel_rfl) (fun _ _ _ h => h) (by rfl) ?_ (by assumption) ?_
            · intro w hSw
              skip
              go_simp
            simp only [Act.put, List.setIfInBounds_toArray, List.set_cons_zero, List.set_cons_succ]
            obtain ⟨WF, HWF, HRM, HBF, ⟨o0, o1, o2, o3, o4⟩, ⟨z0, z1, z2, z3, z4⟩, hol⟩ := rr_leaf (gl := gl) (cA := cA) HSL.out hHeld HV.out HLS.out HFL.out HTK.out HPO.out HGF.out HGT.out HGL.out HNE.out
            refine take_call (i := 9) rfl (by kernel_rfl) (fun K2 hK => ?_)
            go_simp
            rw [← HWF.out]
            refine hK.out _ _ HBF.out (fun _ => ?_)
            clear hK HWF
            refine wpAnyH_done (by kernel_rfl) ?_ _
            go_wp2_with fail
            go_meet
            case rel => exact ⟨po, gl, cA, gf, gt, rfl, HRM⟩
        · obtain ⟨Z78, hZ78⟩ : ∃ Z', Z' = Z67.alloc (.cells #[.slice none 0 0, .slice none 0 0, .slice none 0 0, .int .i64 0, .int .i64 0] 27) := ⟨_, rfl⟩
          have hb : Below Z67.heap.size Z67 Z78 := by rw [hZ78]; exact rbel _ _
          replace OW := Lib.hid (rown_below OW.out hb)
          replace HFL := Lib.hid (HFL.out.block (hb.block _ HFL.out.lt))
          have HV : Hid (Z78.rowIs Z67.heap.size 27 5 (ro5 (.slice none 0 0) (.slice none 0 0) (.slice none 0 0) 0 0)) := by show World.rowIs _ _ _ _ _; rw [hZ78]; exact World.rowIs_alloc Z67 #[.slice none 0 0, .slice none 0 0, .slice none 0 0, .int .i64 0, .int .i64 0] 27 _ (ro5_row (.slice none 0 0) (.slice none 0 0) (.slice none 0 0) 0 0)
          obtain ⟨po, hg0⟩ : ∃ g, g = Z67.heap.size := ⟨_, rfl⟩
          rw [← hg0] at HV
          have HPO : Hid (V0.heap.size ≤ po) := by show _ ≤ _; rw [hg0]; exact hHeld.size
          go_simp
          rw [← hZ78, ← hg0]
          clear hg0
          clear hZ78
          refine hK.out _ _ (hHeld.trans (hb.mono hHeld.size)) (fun hHeld2 => ?_)
          clear hK hHeld hb
          have hHeld := hHeld2
          clear hHeld2
          refine wpAnyH_ready (rs := [2, 6]) (by kernel_rfl) (by simp) (AllReadyH.cons (at_drop (i := 2) rfl) (fun K2 hK => ?_) (AllReadyH.cons (at_drop (i := 6) rfl) (fun K2 hK => ?_) (AllReadyH.nil)))
          · refine step_append_rv rfl (.tmp 25) (.tmp 26) 25 rfl V0.heap.size 55 i0 _ 6 48 Tryd.underlying25 hi0 hy0 hy1 hy2 rfl (by decide) _ 0 [] rfl OW.out ⟨lb, 0, none⟩ n cn (inVs (scF rs) (n * 6)) rfl (by rw [inVs_len]) (rc_news (fun i hi => (H.out i hi).block (hHeld.block _ HLB.out))) rc_one (by unfold maxLen; omega) (by omega) hHeld.size ?_
            intro v5 Z79 hown hgrow
            have hb0 : Below V0.heap.size Z78 Z79 := (Below.refl _ _).grown hgrow hHeld.size (fun k e => (OW.out.lt k e).1)
            obtain ⟨gl, cA, rfl, hgl, hls⟩ := own_rc (by simpa using hown) hn1
            have HLS := Lib.hid hls
            have HGL := Lib.hid hgl
            replace HFL := Lib.hid (HFL.out.block (hgrow.block _ HFL.out.lt (rown_nei OW.out HFL.out)))
            replace HV := Lib.hid (HV.out.of_block (hgrow.block _ HV.out.lt (rown_ne OW.out HV.out (by decide))))
            refine hK.out _ _ (hHeld.trans hb0) (fun hHeld2 => ?_)
            clear hK hHeld hb0 hown hgrow hls hgl OW
            have hHeld := hHeld2
            clear hHeld2
            simp only [Act.put, List.setIfInBounds_toArray, List.set_cons_zero, List.set_cons_succ]
            refine wpAnyH_ready (rs := [6]) (by kernel_rfl) (by simp) (AllReadyH.cons (at_drop (i := 6) rfl) (fun K2 hK => ?_) (AllReadyH.nil))
            have hlt9 := HFL.out.lt
            obtain ⟨Z80, hZ80⟩ : ∃ Z', Z' = Z79.alloc (mkO n) := ⟨_, rfl⟩
            have hb : Below Z79.heap.size Z79 Z80 := by rw [hZ80]; exact rbel _ _
            replace HLS := Lib.hid (HLS.out.block (hb.block _ HLS.out.lt))
            replace HFL := Lib.hid (HFL.out.block (hb.block _ HFL.out.lt))
            replace HV := Lib.hid (rrow_below HV.out hb)
            have HTK : Hid (InBlk Z79.heap.size n (fun _ => 0) Z80) := by show InBlk _ _ _ _; rw [hZ80]; exact made_blk Z79 n
            obtain ⟨gt, hg0⟩ : ∃ g, g = Z79.heap.size := ⟨_, rfl⟩
            rw [← hg0] at HTK
            have HGT : Hid (V0.heap.size ≤ gt) := by show _ ≤ _; rw [hg0]; exact hHeld.size
            have HNE : Hid (gf ≠ gt) := by show gf ≠ gt; omega
            clear hlt9
            go_simp
            rw [← hZ80, ← hg0]
            clear hg0
            clear hZ80
            refine hK.out _ _ (hHeld.trans (hb.mono hHeld.size)) (fun hHeld2 => ?_)
            clear hK hHeld hb
            have hHeld := hHeld2
            clear hHeld2
            refine take_do (i := 7) (v := (.agg #[.slice (some ⟨gl, 0, none⟩) n cA, .slice (some ⟨gf, 0, none⟩) n n, .slice (some ⟨gt, 0, none⟩) n n, .int .i64 0, .int .i64 0])) rfl (by kernel_rfl) (by kernel_rfl) (by kernel_rfl) (fun _ _ _ h => h) (by rfl) ?_ (by assumption) ?_
            · intro w hSw
              skip
              go_simp
            simp only [Act.put, List.setIfInBounds_toArray, List.set_cons_zero, List.set_cons_succ]
            obtain ⟨WF, HWF, HRM, HBF, ⟨o0, o1, o2, o3, o4⟩, ⟨z0, z1, z2, z3, z4⟩, hol⟩ := rr_leaf (gl := gl) (cA := cA) HSL.out hHeld HV.out HLS.out HFL.out HTK.out HPO.out HGF.out HGT.out HGL.out HNE.out
            refine take_call (i := 9) rfl (by kernel_rfl) (fun K2 hK => ?_)
            go_simp
            rw [← HWF.out]
            refine hK.out _ _ HBF.out (fun _ => ?_)
            clear hK HWF
            refine wpAnyH_done (by kernel_rfl) ?_ _
            go_wp2_with fail
            go_meet
            case rel => exact ⟨po, gl, cA, gf, gt, rfl, HRM⟩
          · have hlt9 := HFL.out.lt
            obtain ⟨Z81, hZ81⟩ : ∃ Z', Z' = Z78.alloc (mkO n) := ⟨_, rfl⟩
            have hb : Below Z78.heap.size Z78 Z81 := by rw [hZ81]; exact rbel _ _
            replace OW := Lib.hid (rown_below OW.out hb)
            replace HFL := Lib.hid (HFL.out.block (hb.block _ HFL.out.lt))
            replace HV := Lib.hid (rrow_below HV.out hb)
            have HTK : Hid (InBlk Z78.heap.size n (fun _ => 0) Z81) := by show InBlk _ _ _ _; rw [hZ81]; exact made_blk Z78 n
            obtain ⟨gt, hg0⟩ : ∃ g, g = Z78.heap.size := ⟨_, rfl⟩
            rw [← hg0] at HTK
            have HGT : Hid (V0.heap.size ≤ gt) := by show _ ≤ _; rw [hg0]; exact hHeld.size
            have HNE : Hid (gf ≠ gt) := by show gf ≠ gt; omega
            clear hlt9
            go_simp
            rw [← hZ81, ← hg0]
            clear hg0
            clear hZ81
            refine hK.out _ _ (hHeld.trans (hb.mono hHeld.size)) (fun hHeld2 => ?_)
            clear hK hHeld hb
            have hHeld := hHeld2
            clear hHeld2
            refine wpAnyH_ready (rs := [2]) (by kernel_rfl) (by simp) (AllReadyH.cons (at_drop (i := 2) rfl) (fun K2 hK => ?_) (AllReadyH.nil))
            refine step_append_rv rfl (.tmp 25) (.tmp 26) 25 rfl V0.heap.size 55 i0 _ 6 48 Tryd.underlying25 hi0 hy0 hy1 hy2 rfl (by decide) _ 0 [] rfl OW.out ⟨lb, 0, none⟩ n cn (inVs (scF rs) (n * 6)) rfl (by rw [inVs_len]) (rc_news (fun i hi => (H.out i hi).block (hHeld.block _ HLB.out))) rc_one (by unfold maxLen; omega) (by omega) hHeld.size ?_
            intro v5 Z82 hown hgrow
            have hb0 : Below V0.heap.size Z81 Z82 := (Below.refl _ _).grown hgrow hHeld.size (fun k e => (OW.out.lt k e).1)
            obtain ⟨gl, cA, rfl, hgl, hls⟩ := own_rc (by simpa using hown) hn1
            have HLS := Lib.hid hls
            have HGL := Lib.hid hgl
            replace HFL := Lib.hid (HFL.out.block (hgrow.block _ HFL.out.lt (rown_nei OW.out HFL.out)))
            replace HTK := Lib.hid (HTK.out.block (hgrow.block _ HTK.out.lt (rown_nei OW.out HTK.out)))
            replace HV := Lib.hid (HV.out.of_block (hgrow.block _ HV.out.lt (rown_ne OW.out HV.out (by decide))))
            refine hK.out _ _ (hHeld.trans hb0) (fun hHeld2 => ?_)
            clear hK hHeld hb0 hown hgrow hls hgl OW
            have hHeld := hHeld2
            clear hHeld2
            simp only [Act.put, List.setIfInBounds_toArray, List.set_cons_zero, List.set_cons_succ]
            refine take_do (i := 7) (v := (.agg #[.slice (some ⟨gl, 0, none⟩) n cA, .slice (some ⟨gf, 0, none⟩) n n, .slice (some ⟨gt, 0, none⟩) n n, .int .i64 0, .int .i64 0])) rfl (by kernel_rfl) (by kernel_rfl) (by kernel_rfl) (fun _ _ _ h => h) (by rfl) ?_ (by assumption) ?_
            · intro w hSw
              skip
              go_simp
            simp only [Act.put, List.setIfInBounds_toArray, List.set_cons_zero, List.set_cons_succ]
            obtain ⟨WF, HWF, HRM, HBF, ⟨o0, o1, o2, o3, o4⟩, ⟨z0, z1, z2, z3, z4⟩, hol⟩ := rr_leaf (gl := gl) (cA := cA) HSL.out hHeld HV.out HLS.out HFL.out HTK.out HPO.out HGF.out HGT.out HGL.out HNE.out
            refine take_call (i := 9) rfl (by kernel_rfl) (fun K2 hK => ?_)
            go_simp
            rw [← HWF.out]
            refine hK.out _ _ HBF.out (fun _ => ?_)
            clear hK HWF
            refine wpAnyH_done (by kernel_rfl) ?_ _
            go_wp2_with fail
            go_meet
            case rel => exact ⟨po, gl, cA, gf, gt, rfl, HRM⟩
      · have hlt9 := HFL.out.lt
        obtain ⟨Z83, hZ83⟩ : ∃ Z', Z' = Z66.alloc (mkO n) := ⟨_, rfl⟩
        have hb : Below Z66.heap.size Z66 Z83 := by rw [hZ83]; exact rbel _ _
        replace HFL := Lib.hid (HFL.out.block (hb.block _ HFL.out.lt))
        have HTK : Hid (InBlk Z66.heap.size n (fun _ => 0) Z83) := by show InBlk _ _ _ _; rw [hZ83]; exact made_blk Z66 n
        obtain ⟨gt, hg0⟩ : ∃ g, g = Z66.heap.size := ⟨_, rfl⟩
        rw [← hg0] at HTK
        have HGT : Hid (V0.heap.size ≤ gt) := by show _ ≤ _; rw [hg0]; exact hHeld.size
        have HNE : Hid (gf ≠ gt) := by show gf ≠ gt; omega
        clear hlt9
        go_simp
        rw [← hZ83, ← hg0]
        clear hg0
        clear hZ83
        refine hK.out _ _ (hHeld.trans (hb.mono hHeld.size)) (fun hHeld2 => ?_)
        clear hK hHeld hb
        have hHeld := hHeld2
        clear hHeld2
        refine wpAnyH_ready (rs := [0, 8]) (by kernel_rfl) (by simp) (AllReadyH.cons (at_drop (i := 0) rfl) (fun K2 hK => ?_) (AllReadyH.cons (at_drop (i := 8) rfl) (fun K2 hK => ?_) (AllReadyH.nil)))
        · obtain ⟨Z84, hZ84⟩ : ∃ Z', Z' = Z83.alloc (.cells #[] 55) := ⟨_, rfl⟩
          have hb : Below Z83.heap.size Z83 Z84 := by rw [hZ84]; exact rbel _ _
          replace HFL := Lib.hid (HFL.out.block (hb.block _ HFL.out.lt))
          replace HTK := Lib.hid (HTK.out.block (hb.block _ HTK.out.lt))
          have OW : Hid (Z84.ownsRow V0.heap.size 55 6 (.slice (some ⟨Z83.heap.size, 0, none⟩) 0 0) 0 []) := by show World.ownsRow _ _ _ _ _ _ _; rw [hZ84]; exact World.ownsRow_made Z83 #[] 0 hHeld.size (Nat.zero_le _) rfl
          go_simp
          rw [← hZ84]
          clear hZ84
          refine hK.out _ _ (hHeld.trans (hb.mono hHeld.size)) (fun hHeld2 => ?_)
          clear hK hHeld hb
          have hHeld := hHeld2
          clear hHeld2
          refine wpAnyH_ready (rs := [2, 8]) (by kernel_rfl) (by simp) (AllReadyH.cons (at_drop (i := 2) rfl) (fun K2 hK => ?_) (AllReadyH.cons (at_drop (i := 8) rfl) (fun K2 hK => ?_) (AllReadyH.nil)))
          · refine step_append_rv rfl (.tmp 25) (.tmp 26) 25 rfl V0.heap.size 55 i0 _ 6 48 Tryd.underlying25 hi0 hy0 hy1 hy2 rfl (by decide) _ 0 [] rfl OW.out ⟨lb, 0, none⟩ n cn (inVs (scF rs) (n * 6)) rfl (by rw [inVs_len]) (rc_news (fun i hi => (H.out i hi).block (hHeld.block _ HLB.out))) rc_one (by unfold maxLen; omega) (by omega) hHeld.size ?_
            intro v5 Z85 hown hgrow
            have hb0 : Below V0.heap.size Z84 Z85 := (Below.refl _ _).grown hgrow hHeld.size (fun k e => (OW.out.lt k e).1)
            obtain ⟨gl, cA, rfl, hgl, hls⟩ := own_rc (by simpa using hown) hn1
            have HLS := Lib.hid hls
            have HGL := Lib.hid hgl
            replace HFL := Lib.hid (HFL.out.block (hgrow.block _ HFL.out.lt (rown_nei OW.out HFL.out)))
            replace HTK := Lib.hid (HTK.out.block (hgrow.block _ HTK.out.lt (rown_nei OW.out HTK.out)))
            refine hK.out _ _ (hHeld.trans hb0) (fun hHeld2 => ?_)
            clear hK hHeld hb0 hown hgrow hls hgl OW
            have hHeld := hHeld2
            clear hHeld2
            simp only [Act.put, List.setIfInBounds_toArray, List.set_cons_zero, List.set_cons_succ]
            refine take_do (i := 7) (v := (.agg #[.slice (some ⟨gl, 0, none⟩) n cA, .slice (some ⟨gf, 0, none⟩) n n, .slice (some ⟨gt, 0, none⟩) n n, .int .i64 0, .int .i64 0])) rfl (by kernel_rfl) (by kernel_rfl) (by kernel_rfl) (fun _ _ _ h => h) (by rfl) ?_ (by assumption) ?_
            · intro w hSw
              skip
              go_simp
            simp only [Act.put, List.setIfInBounds_toArray, List.set_cons_zero, List.set_cons_succ]
            refine wpAnyH_ready (rs := [8]) (by kernel_rfl) (by simp) (AllReadyH.cons (at_drop (i := 8) rfl) (fun K2 hK => ?_) (AllReadyH.nil))
            obtain ⟨Z86, hZ86⟩ : ∃ Z', Z' = Z85.alloc (.cells #[.slice none 0 0, .slice none 0 0, .slice none 0 0, .int .i64 0, .int .i64 0] 27) := ⟨_, rfl⟩
            have hb : Below Z85.heap.size Z85 Z86 := by rw [hZ86]; exact rbel _ _
            replace HLS := Lib.hid (HLS.out.block (hb.block _ HLS.out.lt))
            replace HFL := Lib.hid (HFL.out.block (hb.block _ HFL.out.lt))
            replace HTK := Lib.hid (HTK.out.block (hb.block _ HTK.out.lt))
            have HV : Hid (Z86.rowIs Z85.heap.size 27 5 (ro5 (.slice none 0 0) (.slice none 0 0) (.slice none 0 0) 0 0)) := by show World.rowIs _ _ _ _ _; rw [hZ86]; exact World.rowIs_alloc Z85 #[.slice none 0 0, .slice none 0 0, .slice none 0 0, .int .i64 0, .int .i64 0] 27 _ (ro5_row (.slice none 0 0) (.slice none 0 0) (.slice none 0 0) 0 0)
            obtain ⟨po, hg0⟩ : ∃ g, g = Z85.heap.size := ⟨_, rfl⟩
            rw [← hg0] at HV
            have HPO : Hid (V0.heap.size ≤ po) := by show _ ≤ _; rw [hg0]; exact hHeld.size
            go_simp
            rw [← hZ86, ← hg0]
            clear hg0
            clear hZ86
            refine hK.out _ _ (hHeld.trans (hb.mono hHeld.size)) (fun hHeld2 => ?_)
            clear hK hHeld hb
            have hHeld := hHeld2
            clear hHeld2
            obtain ⟨WF, HWF, HRM, HBF, ⟨o0, o1, o2, o3, o4⟩, ⟨z0, z1, z2, z3, z4⟩, hol⟩ := rr_leaf (gl := gl) (cA := cA) HSL.out hHeld HV.out HLS.out HFL.out HTK.out HPO.out HGF.out HGT.out HGL.out HNE.out
            refine take_call (i := 9) rfl (by kernel_rfl) (fun K2 hK => ?_)
            go_simp
            rw [← HWF.out]
            refine hK.out _ _ HBF.out (fun _ => ?_)
            clear hK HWF
            refine wpAnyH_done (by kernel_rfl) ?_ _
            go_wp2_with fail
            go_meet
            case rel => exact ⟨po, gl, cA, gf, gt, rfl, HRM⟩
          · obtain ⟨Z87, hZ87⟩ : ∃ Z', Z' = Z84.alloc (.cells #[.slice none 0 0, .slice none 0 0, .slice none 0 0, .int .i64 0, .int .i64 0] 27) := ⟨_, rfl⟩
            have hb : Below Z84.heap.size Z84 Z87 := by rw [hZ87]; exact rbel _ _
            replace OW := Lib.hid (rown_below OW.out hb)
            replace HFL := Lib.hid (HFL.out.block (hb.block _ HFL.out.lt))
            replace HTK := Lib.hid (HTK.out.block (hb.block _ HTK.out.lt))
            have HV : Hid (Z87.rowIs Z84.heap.size 27 5 (ro5 (.slice none 0 0) (.slice none 0 0) (.slice none 0 0) 0 0)) := by show World.rowIs _ _ _ _ _; rw [hZ87]; exact World.rowIs_alloc Z84 #[.slice none 0 0, .slice none 0 0, .slice none 0 0, .int .i64 0, .int .i64 0] 27 _ (ro5_row (.slice none 0 0) (.slice none 0 0) (.slice none 0 0) 0 0)
            obtain ⟨po, hg0⟩ : ∃ g, g = Z84.heap.size := ⟨_, rfl⟩
            rw [← hg0] at HV
            have HPO : Hid (V0.heap.size ≤ po) := by show _ ≤ _; rw [hg0]; exact hHeld.size
            go_simp
            rw [← hZ87, ← hg0]
            clear hg0
            clear hZ87
            refine hK.out _ _ (hHeld.trans (hb.mono hHeld.size)) (fun hHeld2 => ?_)
            clear hK hHeld hb
            have hHeld := hHeld2
            clear hHeld2
            refine wpAnyH_ready (rs := [2]) (by kernel_rfl) (by simp) (AllReadyH.cons (at_drop (i := 2) rfl) (fun K2 hK => ?_) (AllReadyH.nil))
            refine step_append_rv rfl (.tmp 25) (.tmp 26) 25 rfl V0.heap.size 55 i0 _ 6 48 Tryd.underlying25 hi0 hy0 hy1 hy2 rfl (by decide) _ 0 [] rfl OW.out ⟨lb, 0, none⟩ n cn (inVs (scF rs) (n * 6)) rfl (by rw [inVs_len]) (rc_news (fun i hi => (H.out i hi).block (hHeld.block _ HLB.out))) rc_one (by unfold maxLen; omega) (by omega) hHeld.size ?_
            intro v5 Z88 hown hgrow
            have hb0 : Below V0.heap.size Z87 Z88 := (Below.refl _ _).grown hgrow hHeld.size (fun k e => (OW.out.lt k e).1)
            obtain ⟨gl, cA, rfl, hgl, hls⟩ := own_rc (by simpa using hown) hn1
            have HLS := Lib.hid hls
            have HGL := Lib.hid hgl
            replace HFL := Lib.hid (HFL.out.block (hgrow.block _ HFL.out.lt (rown_nei OW.out HFL.out)))
            replace HTK := Lib.hid (HTK.out.block (hgrow.block _ HTK.out.lt (rown_nei OW.out HTK.out)))
            replace HV := Lib.hid (HV.out.of_block (hgrow.block _ HV.out.lt (rown_ne OW.out HV.out (by decide))))
            refine hK.out _ _ (hHeld.trans hb0) (fun hHeld2 => ?_)
            clear hK hHeld hb0 hown hgrow hls hgl OW
            have hHeld := hHeld2
            clear hHeld2
            simp only [Act.put, List.setIfInBounds_toArray, List.set_cons_zero, List.set_cons_succ]
            refine take_do (i := 7) (v := (.agg #[.slice (some ⟨gl, 0, none⟩) n cA, .slice (some ⟨gf, 0, none⟩) n n, .slice (some ⟨gt, 0, none⟩) n n, .int .i64 0, .int .i64 0])) rfl (by kernel_rfl) (by kernel_rfl) (by kernel_rfl) (fun _ _ _ h => h) (by rfl) ?_ (by assumption) ?_
            · intro w hSw
              skip
              go_simp
            simp only [Act.put, List.setIfInBounds_toArray, List.set_cons_zero, List.set_cons_succ]
            obtain ⟨WF, HWF, HRM, HBF, ⟨o0, o1, o2, o3, o4⟩, ⟨z0, z1, z2, z3, z4⟩, hol⟩ := rr_leaf (gl := gl) (cA := cA) HSL.out hHeld HV.out HLS.out HFL.out HTK.out HPO.out HGF.out HGT.out HGL.out HNE.out
            refine take_call (i := 9) rfl (by kernel_rfl) (fun K2 hK => ?_)
            go_simp
            rw [← HWF.out]
            refine hK.out _ _ HBF.out (fun _ => ?_)
            clear hK HWF
            refine wpAnyH_done (by kernel_rfl) ?_ _
            go_wp2_with fail
            go_meet
            case rel => exact ⟨po, gl, cA, gf, gt, rfl, HRM⟩
        · obtain ⟨Z89, hZ89⟩ : ∃ Z', Z' = Z83.alloc (.cells #[.slice none 0 0, .slice none 0 0, .slice none 0 0, .int .i64 0, .int .i64 0] 27) := ⟨_, rfl⟩
          have hb : Below Z83.heap.size Z83 Z89 := by rw [hZ89]; exact rbel _ _
          replace HFL := Lib.hid (HFL.out.block (hb.block _ HFL.out.lt))
          replace HTK := Lib.hid (HTK.out.block (hb.block _ HTK.out.lt))
          have HV : Hid (Z89.rowIs Z83.heap.size 27 5 (ro5 (.slice none 0 0) (.slice none 0 0) (.slice none 0 0) 0 0)) := by show World.rowIs _ _ _ _ _; rw [hZ89]; exact World.rowIs_alloc Z83 #[.slice none 0 0, .slice none 0 0, .slice none 0 0, .int .i64 0, .int .i64 0] 27 _ (ro5_row (.slice none 0 0) (.slice none 0 0) (.slice none 0 0) 0 0)
          obtain ⟨po, hg0⟩ : ∃ g, g = Z83.heap.size := ⟨_, rfl⟩
          rw [← hg0] at HV
          have HPO : Hid (V0.heap.size ≤ po) := by show _ ≤ _; rw [hg0]; exact hHeld.size
          go_simp
          rw [← hZ89, ← hg0]
          clear hg0
          clear hZ89
          refine hK.out _ _ (hHeld.trans (hb.mono hHeld.size)) (fun hHeld2 => ?_)
          clear hK hHeld hb
          have hHeld := hHeld2
          clear hHeld2
          refine wpAnyH_ready (rs := [0]) (by kernel_rfl) (by simp) (AllReadyH.cons (at_drop (i := 0) rfl) (fun K2 hK => ?_) (AllReadyH.nil))
          obtain ⟨Z90, hZ90⟩ : ∃ Z', Z' = Z89.alloc (.cells #[] 55) := ⟨_, rfl⟩
          have hb : Below Z89.heap.size Z89 Z90 := by rw [hZ90]; exact rbel _ _
          replace HFL := Lib.hid (HFL.out.block (hb.block _ HFL.out.lt))
          replace HTK := Lib.hid (HTK.out.block (hb.block _ HTK.out.lt))
          replace HV := Lib.hid (rrow_below HV.out hb)
          have OW : Hid (Z90.ownsRow V0.heap.size 55 6 (.slice (some ⟨Z89.heap.size, 0, none⟩) 0 0) 0 []) := by show World.ownsRow _ _ _ _ _ _ _; rw [hZ90]; exact World.ownsRow_made Z89 #[] 0 hHeld.size (Nat.zero_le _) rfl
          go_simp
          rw [← hZ90]
          clear hZ90
          refine hK.out _ _ (hHeld.trans (hb.mono hHeld.size)) (fun hHeld2 => ?_)
          clear hK hHeld hb
          have hHeld := hHeld2
          clear hHeld2
          refine wpAnyH_ready (rs := [2]) (by kernel_rfl) (by simp) (AllReadyH.cons (at_drop (i := 2) rfl) (fun K2 hK => ?_) (AllReadyH.nil))
          refine step_append_rv rfl (.tmp 25) (.tmp 26) 25 rfl V0.heap.size 55 i0 _ 6 48 Tryd.underlying25 hi0 hy0 hy1 hy2 rfl (by decide) _ 0 [] rfl OW.out ⟨lb, 0, none⟩ n cn (inVs (scF rs) (n * 6)) rfl (by rw [inVs_len]) (rc_news (fun i hi => (H.out i hi).block (hHeld.block _ HLB.out))) rc_one (by unfold maxLen; omega) (by omega) hHeld.size ?_
          intro v5 Z91 hown hgrow
          have hb0 : Below V0.heap.size Z90 Z91 := (Below.refl _ _).grown hgrow hHeld.size (fun k e => (OW.out.lt k e).1)
          obtain ⟨gl, cA, rfl, hgl, hls⟩ := own_rc (by simpa using hown) hn1
          have HLS := Lib.hid hls
          have HGL := Lib.hid hgl
          replace HFL := Lib.hid (HFL.out.block (hgrow.block _ HFL.out.lt (rown_nei OW.out HFL.out)))
          replace HTK := Lib.hid (HTK.out.block (hgrow.block _ HTK.out.lt (rown_nei OW.out HTK.out)))
          replace HV := Lib.hid (HV.out.of_block (hgrow.block _ HV.out.lt (rown_ne OW.out HV.out (by decide))))
          refine hK.out _ _ (hHeld.trans hb0) (fun hHeld2 => ?_)
          clear hK hHeld hb0 hown hgrow hls hgl OW
          have hHeld := hHeld2
          clear hHeld2
          simp only [Act.put, List.setIfInBounds_toArray, List.set_cons_zero, List.set_cons_succ]
          refine take_do (i := 7) (v := (.agg #[.slice (some ⟨gl, 0, none⟩) n cA, .slice (some ⟨gf, 0, none⟩) n n, .slice (some ⟨gt, 0, none⟩) n n, .int .i64 0, .int .i64 0])) rfl (by kernel_rfl) (by kernel_rfl) (by kernel_rfl) (fun _ _ _ h => h) (by rfl) ?_ (by assumption) ?_
          · intro w hSw
            skip
            go_simp
          simp only [Act.put, List.setIfInBounds_toArray, List.set_cons_zero, List.set_cons_succ]
          obtain ⟨WF, HWF, HRM, HBF, ⟨o0, o1, o2, o3, o4⟩, ⟨z0, z1, z2, z3, z4⟩, hol⟩ := rr_leaf (gl := gl) (cA := cA) HSL.out hHeld HV.out HLS.out HFL.out HTK.out HPO.out HGF.out HGT.out HGL.out HNE.out
          refine take_call (i := 9) rfl (by kernel_rfl) (fun K2 hK => ?_)
          go_simp
          rw [← HWF.out]
          refine hK.out _ _ HBF.out (fun _ => ?_)
          clear hK HWF
          refine wpAnyH_done (by kernel_rfl) ?_ _
          go_wp2_with fail
          go_meet
          case rel => exact ⟨po, gl, cA, gf, gt, rfl, HRM⟩
      · obtain ⟨Z92, hZ92⟩ : ∃ Z', Z' = Z66.alloc (.cells #[.slice none 0 0, .slice none 0 0, .slice none 0 0, .int .i64 0, .int .i64 0] 27) := ⟨_, rfl⟩
        have hb : Below Z66.heap.size Z66 Z92 := by rw [hZ92]; exact rbel _ _
        replace HFL := Lib.hid (HFL.out.block (hb.block _ HFL.out.lt))
        have HV : Hid (Z92.rowIs Z66.heap.size 27 5 (ro5 (.slice none 0 0) (.slice none 0 0) (.slice none 0 0) 0 0)) := by show World.rowIs _ _ _ _ _; rw [hZ92]; exact World.rowIs_alloc Z66 #[.slice none 0 0, .slice none 0 0, .slice none 0 0, .int .i64 0, .int .i64 0] 27 _ (ro5_row (.slice none 0 0) (.slice none 0 0) (.slice none 0 0) 0 0)
        obtain ⟨po, hg0⟩ : ∃ g, g = Z66.heap.size := ⟨_, rfl⟩
        rw [← hg0] at HV
        have HPO : Hid (V0.heap.size ≤ po) := by show _ ≤ _; rw [hg0]; exact hHeld.size
        go_simp
        rw [← hZ92, ← hg0]
        clear hg0
        clear hZ92
        refine hK.out _ _ (hHeld.trans (hb.mono hHeld.size)) (fun hHeld2 => ?_)
        clear hK hHeld hb
        have hHeld := hHeld2
        clear hHeld2
        refine wpAnyH_ready (rs := [0, 6]) (by kernel_rfl) (by simp) (AllReadyH.cons (at_drop (i := 0) rfl) (fun K2 hK => ?_) (AllReadyH.cons (at_drop (i := 6) rfl) (fun K2 hK => ?_) (AllReadyH.nil)))
        · obtain ⟨Z93, hZ93⟩ : ∃ Z', Z' = Z92.alloc (.cells #[] 55) := ⟨_, rfl⟩
          have hb : Below Z92.heap.size Z92 Z93 := by rw [hZ93]; exact rbel _ _
          replace HFL := Lib.hid (HFL.out.block (hb.block _ HFL.out.lt))
          replace HV := Lib.hid (rrow_below HV.out hb)
          have OW : Hid (Z93.ownsRow V0.heap.size 55 6 (.slice (some ⟨Z92.heap.size, 0, none⟩) 0 0) 0 []) := by show World.ownsRow _ _ _ _ _ _ _; rw [hZ93]; exact World.ownsRow_made Z92 #[] 0 hHeld.size (Nat.zero_le _) rfl
          go_simp
          rw [← hZ93]
          clear hZ93
          refine hK.out _ _ (hHeld.trans (hb.mono hHeld.size)) (fun hHeld2 => ?_)
          clear hK hHeld hb
          have hHeld := hHeld2
          clear hHeld2
          refine wpAnyH_ready (rs := [2, 6]) (by kernel_rfl) (by simp) (AllReadyH.cons (at_drop (i := 2) rfl) (fun K2 hK => ?_) (AllReadyH.cons (at_drop (i := 6) rfl) (fun K2 hK => ?_) (AllReadyH.nil)))
          · refine step_append_rv rfl (.tmp 25) (.tmp 26) 25 rfl V0.heap.size 55 i0 _ 6 48 Tryd.underlying25 hi0 hy0 hy1 hy2 rfl (by decide) _ 0 [] rfl OW.out ⟨lb, 0, none⟩ n cn (inVs (scF rs) (n * 6)) rfl (by rw [inVs_len]) (rc_news (fun i hi => (H.out i hi).block (hHeld.block _ HLB.out))) rc_one (by unfold maxLen; omega) (by omega) hHeld.size ?_
            intro v5 Z94 hown hgrow
            have hb0 : Below V0.heap.size Z93 Z94 := (Below.refl _ _).grown hgrow hHeld.size (fun k e => (OW.out.lt k e).1)
            obtain ⟨gl, cA, rfl, hgl, hls⟩ := own_rc (by simpa using hown) hn1
            have HLS := Lib.hid hls
            have HGL := Lib.hid hgl
            replace HFL := Lib.hid (HFL.out.block (hgrow.block _ HFL.out.lt (rown_nei OW.out HFL.out)))
            replace HV := Lib.hid (HV.out.of_block (hgrow.block _ HV.out.lt (rown_ne OW.out HV.out (by decide))))
            refine hK.out _ _ (hHeld.trans hb0) (fun hHeld2 => ?_)
            clear hK hHeld hb0 hown hgrow hls hgl OW
            have hHeld := hHeld2
            clear hHeld2
            simp only [Act.put, List.setIfInBounds_toArray, List.set_cons_zero, List.set_cons_succ]
            refine wpAnyH_ready (rs := [6]) (by kernel_rfl) (by simp) (AllReadyH.cons (at_drop (i := 6) rfl) (fun K2 hK => ?_) (AllReadyH.nil))
            have hlt9 := HFL.out.lt
            obtain ⟨Z95, hZ95⟩ : ∃ Z', Z' = Z94.alloc (mkO n) := ⟨_, rfl⟩
            have hb : Below Z94.heap.size Z94 Z95 := by rw [hZ95]; exact rbel _ _
            replace HLS := Lib.hid (HLS.out.block (hb.block _ HLS.out.lt))
            replace HFL := Lib.hid (HFL.out.block (hb.block _ HFL.out.lt))
            replace HV := Lib.hid (rrow_below HV.out hb)
            have HTK : Hid (InBlk Z94.heap.size n (fun _ => 0) Z95) := by show InBlk _ _ _ _; rw [hZ95]; exact made_blk Z94 n
            obtain ⟨gt, hg0⟩ : ∃ g, g = Z94.heap.size := ⟨_, rfl⟩
            rw [← hg0] at HTK
            have HGT : Hid (V0.heap.size ≤ gt) := by show _ ≤ _; rw [hg0]; exact hHeld.size
            have HNE : Hid (gf ≠ gt) := by show gf ≠ gt; omega
            clear hlt9
            go_simp
            rw [← hZ95, ← hg0]
            clear hg0
            clear hZ95
            refine hK.out _ _ (hHeld.trans (hb.mono hHeld.size)) (fun hHeld2 => ?_)
            clear hK hHeld hb
            have hHeld := hHeld2
            clear hHeld2
            refine take_do (i := 7) (v := (.agg #[.slice (some ⟨gl, 0, none⟩) n cA, .slice (some ⟨gf, 0, none⟩) n n, .slice (some ⟨gt, 0, none⟩) n n, .int .i64 0, .int .i64 0])) rfl (by kernel_rfl) (by kernel_rfl) (by kernel_rfl) (fun _ _ _ h => h) (by rfl) ?_ (by assumption) ?_
            · intro w hSw
              skip
              go_simp
            simp only [Act.put, List.setIfInBounds_toArray, List.set_cons_zero, List.set_cons_succ]
            obtain ⟨WF, HWF, HRM, HBF, ⟨o0, o1, o2, o3, o4⟩, ⟨z0, z1, z2, z3, z4⟩, hol⟩ := rr_leaf (gl := gl) (cA := cA) HSL.out hHeld HV.out HLS.out HFL.out HTK.out HPO.out HGF.out HGT.out HGL.out HNE.out
            refine take_call (i := 9) rfl (by kernel_rfl) (fun K2 hK => ?_)
            go_simp
            rw [← HWF.out]
            refine hK.out _ _ HBF.out (fun _ => ?_)
            clear hK HWF
            refine wpAnyH_done (by kernel_rfl) ?_ _
            go_wp2_with fail
            go_meet
            case rel => exact ⟨po, gl, cA, gf, gt, rfl, HRM⟩
          · have hlt9 := HFL.out.lt
            obtain ⟨Z96, hZ96⟩ : ∃ Z', Z' = Z93.alloc (mkO n) := ⟨_, rfl⟩
            have hb : Below Z93.heap.size Z93 Z96 := by rw [hZ96]; exact rbel _ _
            replace OW := Lib.hid (rown_below OW.out hb)
            replace HFL := Lib.hid (HFL.out.block (hb.block _ HFL.out.lt))
            replace HV := Lib.hid (rrow_below HV.out hb)
            have HTK : Hid (InBlk Z93.heap.size n (fun _ => 0) Z96) := by show InBlk _ _ _ _; rw [hZ96]; exact made_blk Z93 n
            obtain ⟨gt, hg0⟩ : ∃ g, g = Z93.heap.size := ⟨_, rfl⟩
            rw [← hg0] at HTK
            have HGT : Hid (V0.heap.size ≤ gt) := by show _ ≤ _; rw [hg0]; exact hHeld.size
            have HNE : Hid (gf ≠ gt) := by show gf ≠ gt; omega
            clear hlt9
            go_simp
            rw [← hZ96, ← hg0]
            clear hg0
            clear hZ96
            refine hK.out _ _ (hHeld.trans (hb.mono hHeld.size)) (fun hHeld2 => ?_)
            clear hK hHeld hb
            have hHeld := hHeld2
            clear hHeld2
            refine wpAnyH_ready (rs := [2]) (by kernel_rfl) (by simp) (AllReadyH.cons (at_drop (i := 2) rfl) (fun K2 hK => ?_) (AllReadyH.nil))
            refine step_append_rv rfl (.tmp 25) (.tmp 26) 25 rfl V0.heap.size 55 i0 _ 6 48 Tryd.underlying25 hi0 hy0 hy1 hy2 rfl (by decide) _ 0 [] rfl OW.out ⟨lb, 0, none⟩ n cn (inVs (scF rs) (n * 6)) rfl (by rw [inVs_len]) (rc_news (fun i hi => (H.out i hi).block (hHeld.block _ HLB.out))) rc_one (by unfold maxLen; omega) (by omega) hHeld.size ?_
            intro v5 Z97 hown hgrow
            have hb0 : Below V0.heap.size Z96 Z97 := (Below.refl _ _).grown hgrow hHeld.size (fun k e => (OW.out.lt k e).1)
            obtain ⟨gl, cA, rfl, hgl, hls⟩ := own_rc (by simpa using hown) hn1
            have HLS := Lib.hid hls
            have HGL := Lib.hid hgl
            replace HFL := Lib.hid (HFL.out.block (hgrow.block _ HFL.out.lt (rown_nei OW.out HFL.out)))
            replace HTK := Lib.hid (HTK.out.block (hgrow.block _ HTK.out.lt (rown_nei OW.out HTK.out)))
            replace HV := Lib.hid (HV.out.of_block (hgrow.block _ HV.out.lt (rown_ne OW.out HV.out (by decide))))
            refine hK.out _ _ (hHeld.trans hb0) (fun hHeld2 => ?_)
            clear hK hHeld hb0 hown hgrow hls hgl OW
            have hHeld := hHeld2
            clear hHeld2
            simp only [Act.put, List.setIfInBounds_toArray, List.set_cons_zero, List.set_cons_succ]
            refine take_do (i := 7) (v := (.agg #[.slice (some ⟨gl, 0, none⟩) n cA, .slice (some ⟨gf, 0, none⟩) n n, .slice (some ⟨gt, 0, none⟩) n n, .int .i64 0, .int .i64 0])) rfl (by kernel_rfl) (by kernel_rfl) (by kernel_rfl) (fun _ _ _ h => h) (by rfl) ?_ (by assumption) ?_
            · intro w hSw
              skip
              go_simp
            simp only [Act.put, List.setIfInBounds_toArray, List.set_cons_zero, List.set_cons_succ]
            obtain ⟨WF, HWF, HRM, HBF, ⟨o0, o1, o2, o3, o4⟩, ⟨z0, z1, z2, z3, z4⟩, hol⟩ := rr_leaf (gl := gl) (cA := cA) HSL.out hHeld HV.out HLS.out HFL.out HTK.out HPO.out HGF.out HGT.out HGL.out HNE.out
            refine take_call (i := 9) rfl (by kernel_rfl) (fun K2 hK => ?_)
            go_simp
            rw [← HWF.out]
            refine hK.out _ _ HBF.out (fun _ => ?_)
            clear hK HWF
            refine wpAnyH_done (by kernel_rfl) ?_ _
            go_wp2_with fail
            go_meet
            case rel => exact ⟨po, gl, cA, gf, gt, rfl, HRM⟩
        · have hlt9 := HFL.out.lt
          obtain ⟨Z98, hZ98⟩ : ∃ Z', Z' = Z92.alloc (mkO n) := ⟨_, rfl⟩
          have hb : Below Z92.heap.size Z92 Z98 := by rw [hZ98]; exact rbel _ _
          replace HFL := Lib.hid (HFL.out.block (hb.block _ HFL.out.lt))
          replace HV := Lib.hid (rrow_below HV.out hb)
          have HTK : Hid (InBlk Z92.heap.size n (fun _ => 0) Z98) := by show InBlk _ _ _ _; rw [hZ98]; exact made_blk Z92 n
          obtain ⟨gt, hg0⟩ : ∃ g, g = Z92.heap.size := ⟨_, rfl⟩
          rw [← hg0] at HTK
          have HGT : Hid (V0.heap.size ≤ gt) := by show _ ≤ _; rw [hg0]; exact hHeld.size
          have HNE : Hid (gf ≠ gt) := by show gf ≠ gt; omega
          clear hlt9
          go_simp
          rw [← hZ98, ← hg0]
          clear hg0
          clear hZ98
          refine hK.out _ _ (hHeld.trans (hb.mono hHeld.size)) (fun hHeld2 => ?_)
          clear hK hHeld hb
          have hHeld := hHeld2
          clear hHeld2
          refine wpAnyH_ready (rs := [0]) (by kernel_rfl) (by simp) (AllReadyH.cons (at_drop (i := 0) rfl) (fun K2 hK => ?_) (AllReadyH.nil))
          obtain ⟨Z99, hZ99⟩ : ∃ Z', Z' = Z98.alloc (.cells #[] 55) := ⟨_, rfl⟩
          have hb : Below Z98.heap.size Z98 Z99 := by rw [hZ99]; exact rbel _ _
          replace HFL := Lib.hid (HFL.out.block (hb.block _ HFL.out.lt))
          replace HTK := Lib.hid (HTK.out.block (hb.block _ HTK.out.lt))
          replace HV := Lib.hid (rrow_below HV.out hb)
          have OW : Hid (Z99.ownsRow V0.heap.size 55 6 (.slice (some ⟨Z98.heap.size, 0, none⟩) 0 0) 0 []) := by show World.ownsRow _ _ _ _ _ _ _; rw [hZ99]; exact World.ownsRow_made Z98 #[] 0 hHeld.size (Nat.zero_le _) rfl
          go_simp
          rw [← hZ99]
          clear hZ99
          refine hK.out _ _ (hHeld.trans (hb.mono hHeld.size)) (fun hHeld2 => ?_)
          clear hK hHeld hb
          have hHeld := hHeld2
          clear hHeld2
          refine wpAnyH_ready (rs := [2]) (by kernel_rfl) (by simp) (AllReadyH.cons (at_drop (i := 2) rfl) (fun K2 hK => ?_) (AllReadyH.nil))
          refine step_append_rv rfl (.tmp 25) (.tmp 26) 25 rfl V0.heap.size 55 i0 _ 6 48 Tryd.underlying25 hi0 hy0 hy1 hy2 rfl (by decide) _ 0 [] rfl OW.out ⟨lb, 0, none⟩ n cn (inVs (scF rs) (n * 6)) rfl (by rw [inVs_len]) (rc_news (fun i hi => (H.out i hi).block (hHeld.block _ HLB.out))) rc_one (by unfold maxLen; omega) (by omega) hHeld.size ?_
          intro v5 Z100 hown hgrow
          have hb0 : Below V0.heap.size Z99 Z100 := (Below.refl _ _).grown hgrow hHeld.size (fun k e => (OW.out.lt k e).1)
          obtain ⟨gl, cA, rfl, hgl, hls⟩ := own_rc (by simpa using hown) hn1
          have HLS := Lib.hid hls
          have HGL := Lib.hid hgl
          replace HFL := Lib.hid (HFL.out.block (hgrow.block _ HFL.out.lt (rown_nei OW.out HFL.out)))
          replace HTK := Lib.hid (HTK.out.block (hgrow.block _ HTK.out.lt (rown_nei OW.out HTK.out)))
          replace HV := Lib.hid (HV.out.of_block (hgrow.block _ HV.out.lt (rown_ne OW.out HV.out (by decide))))
          refine hK.out _ _ (hHeld.trans hb0) (fun hHeld2 => ?_)
          clear hK hHeld hb0 hown hgrow hls hgl OW
          have hHeld := hHeld2
          clear hHeld2
          simp only [Act.put, List.setIfInBounds_toArray, List.set_cons_zero, List.set_cons_succ]
          refine take_do (i := 7) (v := (.agg #[.slice (some ⟨gl, 0, none⟩) n cA, .slice (some ⟨gf, 0, none⟩) n n, .slice (some ⟨gt, 0, none⟩) n n, .int .i64 0, .int .i64 0])) rfl (by kernel_rfl) (by kernel_rfl) (by kernel_rfl) (fun _ _ _ h => h) (by rfl) ?_ (by assumption) ?_
          · intro w hSw
            skip
            go_simp
          simp only [Act.put, List.setIfInBounds_toArray, List.set_cons_zero, List.set_cons_succ]
          obtain ⟨WF, HWF, HRM, HBF, ⟨o0, o1, o2, o3, o4⟩, ⟨z0, z1, z2, z3, z4⟩, hol⟩ := rr_leaf (gl := gl) (cA := cA) HSL.out hHeld HV.out HLS.out HFL.out HTK.out HPO.out HGF.out HGT.out HGL.out HNE.out
          refine take_call (i := 9) rfl (by kernel_rfl) (fun K2 hK => ?_)
          go_simp
          rw [← HWF.out]
          refine hK.out _ _ HBF.out (fun _ => ?_)
          clear hK HWF
          refine wpAnyH_done (by kernel_rfl) ?_ _
          go_wp2_with fail
          go_meet
          case rel => exact ⟨po, gl, cA, gf, gt, rfl, HRM⟩
    · obtain ⟨Z101, hZ101⟩ : ∃ Z', Z' = Z.alloc (mkO n) := ⟨_, rfl⟩
      have hb : Below Z.heap.size Z Z101 := by rw [hZ101]; exact rbel _ _
      have HTK : Hid (InBlk Z.heap.size n (fun _ => 0) Z101) := by show InBlk _ _ _ _; rw [hZ101]; exact made_blk Z n
      obtain ⟨gt, hg0⟩ : ∃ g, g = Z.heap.size := ⟨_, rfl⟩
      rw [← hg0] at HTK
      have HGT : Hid (V0.heap.size ≤ gt) := by show _ ≤ _; rw [hg0]; exact hHeld.size
      go_simp
      rw [← hZ101, ← hg0]
      clear hg0
      clear hZ101
      refine hK.out _ _ (hHeld.trans (hb.mono hHeld.size)) (fun hHeld2 => ?_)
      clear hK hHeld hb
      have hHeld := hHeld2
      clear hHeld2
      refine wpAnyH_ready (rs := [0, 4, 8]) (by kernel_rfl) (by simp) (AllReadyH.cons (at_drop (i := 0) rfl) (fun K2 hK => ?_) (AllReadyH.cons (at_drop (i := 4) rfl) (fun K2 hK => ?_) (AllReadyH.cons (at_drop (i := 8) rfl) (fun K2 hK => ?_) (AllReadyH.nil))))
      · obtain ⟨Z102, hZ102⟩ : ∃ Z', Z' = Z101.alloc (.cells #[] 55) := ⟨_, rfl⟩
        have hb : Below Z101.heap.size Z101 Z102 := by rw [hZ102]; exact rbel _ _
        replace HTK := Lib.hid (HTK.out.block (hb.block _ HTK.out.lt))
        have OW : Hid (Z102.ownsRow V0.heap.size 55 6 (.slice (some ⟨Z101.heap.size, 0, none⟩) 0 0) 0 []) := by show World.ownsRow _ _ _ _ _ _ _; rw [hZ102]; exact World.ownsRow_made Z101 #[] 0 hHeld.size (Nat.zero_le _) rfl
        go_simp
        rw [← hZ102]
        clear hZ102
        refine hK.out _ _ (hHeld.trans (hb.mono hHeld.size)) (fun hHeld2 => ?_)
        clear hK hHeld hb
        have hHeld := hHeld2
        clear hHeld2
        refine wpAnyH_ready (rs := [2, 4, 8]) (by kernel_rfl) (by simp) (AllReadyH.cons (at_drop (i := 2) rfl) (fun K2 hK => ?_) (AllReadyH.cons (at_drop (i := 4) rfl) (fun K2 hK => ?_) (AllReadyH.cons (at_drop (i := 8) rfl) (fun K2 hK => ?_) (AllReadyH.nil))))
        · refine step_append_rv rfl (.tmp 25) (.tmp 26) 25 rfl V0.heap.size 55 i0 _ 6 48 Tryd.underlying25 hi0 hy0 hy1 hy2 rfl (by decide) _ 0 [] rfl OW.out ⟨lb, 0, none⟩ n cn (inVs (scF rs) (n * 6)) rfl (by rw [inVs_len]) (rc_news (fun i hi => (H.out i hi).block (hHeld.block _ HLB.out))) rc_one (by unfold maxLen; omega) (by omega) hHeld.size ?_
          intro v5 Z103 hown hgrow
          have hb0 : Below V0.heap.size Z102 Z103 := (Below.refl _ _).grown hgrow hHeld.size (fun k e => (OW.out.lt k e).1)
          obtain ⟨gl, cA, rfl, hgl, hls⟩ := own_rc (by simpa using hown) hn1
          have HLS := Lib.hid hls
          have HGL := Lib.hid hgl
          replace HTK := Lib.hid (HTK.out.block (hgrow.block _ HTK.out.lt (rown_nei OW.out HTK.out)))
          refine hK.out _ _ (hHeld.trans hb0) (fun hHeld2 => ?_)
          clear hK hHeld hb0 hown hgrow hls hgl OW
          have hHeld := hHeld2
          clear hHeld2
          simp only [Act.put, List.setIfInBounds_toArray, List.set_cons_zero, List.set_cons_succ]
          refine wpAnyH_ready (rs := [4, 8]) (by kernel_rfl) (by simp) (AllReadyH.cons (at_drop (i := 4) rfl) (fun K2 hK => ?_) (AllReadyH.cons (at_drop (i := 8) rfl) (fun K2 hK => ?_) (AllReadyH.nil)))
          · have hlt9 := HTK.out.lt
            obtain ⟨Z104, hZ104⟩ : ∃ Z', Z' = Z103.alloc (mkO n) := ⟨_, rfl⟩
            have hb : Below Z103.heap.size Z103 Z104 := by rw [hZ104]; exact rbel _ _
            replace HLS := Lib.hid (HLS.out.block (hb.block _ HLS.out.lt))
            replace HTK := Lib.hid (HTK.out.block (hb.block _ HTK.out.lt))
            have HFL : Hid (InBlk Z103.heap.size n (fun _ => 0) Z104) := by show InBlk _ _ _ _; rw [hZ104]; exact made_blk Z103 n
            obtain ⟨gf, hg0⟩ : ∃ g, g = Z103.heap.size := ⟨_, rfl⟩
            rw [← hg0] at HFL
            have HGF : Hid (V0.heap.size ≤ gf) := by show _ ≤ _; rw [hg0]; exact hHeld.size
            have HNE : Hid (gf ≠ gt) := by show gf ≠ gt; omega
            clear hlt9
            go_simp
            rw [← hZ104, ← hg0]
            clear hg0
            clear hZ104
            refine hK.out _ _ (hHeld.trans (hb.mono hHeld.size)) (fun hHeld2 => ?_)
            clear hK hHeld hb
            have hHeld := hHeld2
            clear hHeld2
            refine take_do (i := 7) (v := (.agg #[.slice (some ⟨gl, 0, none⟩) n cA, .slice (some ⟨gf, 0, none⟩) n n, .slice (some ⟨gt, 0, none⟩) n n, .int .i64 0, .int .i64 0])) rfl (by kernel_rfl) (by kernel_rfl) (by kernel_rfl) (fun _ _ _ h => h) (by rfl) ?_ (by assumption) ?_
            · intro w hSw
              skip
              go_simp
            simp only [Act.put, List.setIfInBounds_toArray, List.set_cons_zero, List.set_cons_succ]
            refine wpAnyH_ready (rs := [8]) (by kernel_rfl) (by simp) (AllReadyH.cons (at_drop (i := 8) rfl) (fun K2 hK => ?_) (AllReadyH.nil))
            obtain ⟨Z105, hZ105⟩ : ∃ Z', Z' = Z104.alloc (.cells #[.slice none 0 0, .slice none 0 0, .slice none 0 0, .int .i64 0, .int .i64 0] 27) := ⟨_, rfl⟩
            have hb : Below Z104.heap.size Z104 Z105 := by rw [hZ105]; exact rbel _ _
            replace HLS := Lib.hid (HLS.out.block (hb.block _ HLS.out.lt))
            replace HFL := Lib.hid (HFL.out.block (hb.block _ HFL.out.lt))
            replace HTK := Lib.hid (HTK.out.block (hb.block _ HTK.out.lt))
            have HV : Hid (Z105.rowIs Z104.heap.size 27 5 (ro5 (.slice none 0 0) (.slice none 0 0) (.slice none 0 0) 0 0)) := by show World.rowIs _ _ _ _ _; rw [hZ105]; exact World.rowIs_alloc Z104 #[.slice none 0 0, .slice none 0 0, .slice none 0 0, .int .i64 0, .int .i64 0] 27 _ (ro5_row (.slice none 0 0) (.slice none 0 0) (.slice none 0 0) 0 0)
            obtain ⟨po, hg0⟩ : ∃ g, g = Z104.heap.size := ⟨_, rfl⟩
            rw [← hg0] at HV
            have HPO : Hid (V0.heap.size ≤ po) := by show _ ≤ _; rw [hg0]; exact hHeld.size
            go_simp
            rw [← hZ105, ← hg0]
            clear hg0
            clear hZ105
            refine hK.out _ _ (hHeld.trans (hb.mono hHeld.size)) (fun hHeld2 => ?_)
            clear hK hHeld hb
            have hHeld := hHeld2
            clear hHeld2
            obtain ⟨WF, HWF, HRM, HBF, ⟨o0, o1, o2, o3, o4⟩, ⟨z0, z1, z2, z3, z4⟩, hol⟩ := rr_leaf (gl := gl) (cA := cA) HSL.out hHeld HV.out HLS.out HFL.out HTK.out HPO.out HGF.out HGT.out HGL.out HNE.out
            refine take_call (i := 9) rfl (by kernel_rfl) (fun K2 hK => ?_)
            go_simp
            rw [← HWF.out]
            refine hK.out _ _ HBF.out (fun _ => ?_)
            clear hK HWF
            refine wpAnyH_done (by kernel_rfl) ?_ _
            go_wp2_with fail
            go_meet
            case rel => exact ⟨po, gl, cA, gf, gt, rfl, HRM⟩
          · obtain ⟨Z106, hZ106⟩ : ∃ Z', Z' = Z103.alloc (.cells #[.slice none 0 0, .slice none 0 0, .slice none 0 0, .int .i64 0, .int .i64 0] 27) := ⟨_, rfl⟩
            have hb : Below Z103.heap.size Z103 Z106 := by rw [hZ106]; exact rbel _ _
            replace HLS := Lib.hid (HLS.out.block (hb.block _ HLS.out.lt))
            replace HTK := Lib.hid (HTK.out.block (hb.block _ HTK.out.lt))
            have HV : Hid (Z106.rowIs Z103.heap.size 27 5 (ro5 (.slice none 0 0) (.slice none 0 0) (.slice none 0 0) 0 0)) := by show World.rowIs _ _ _ _ _; rw [hZ106]; exact World.rowIs_alloc Z103 #[.slice none 0 0, .slice none 0 0, .slice none 0 0, .int .i64 0, .int .i64 0] 27 _ (ro5_row (.slice none 0 0) (.slice none 0 0) (.slice none 0 0) 0 0)
            obtain ⟨po, hg0⟩ : ∃ g, g = Z103.heap.size := ⟨_, rfl⟩
            rw [← hg0] at HV
            have HPO : Hid (V0.heap.size ≤ po) := by show _ ≤ _; rw [hg0]; exact hHeld.size
            go_simp
            rw [← hZ106, ← hg0]
            clear hg0
            clear hZ106
            refine hK.out _ _ (hHeld.trans (hb.mono hHeld.size)) (fun hHeld2 => ?_)
            clear hK hHeld hb
            have hHeld := hHeld2
            clear hHeld2
            refine wpAnyH_ready (rs := [4]) (by kernel_rfl) (by simp) (AllReadyH.cons (at_drop (i := 4) rfl) (fun K2 hK => ?_) (AllReadyH.nil))
            have hlt9 := HTK.out.lt
            obtain ⟨Z107, hZ107⟩ : ∃ Z', Z' = Z106.alloc (mkO n) := ⟨_, rfl⟩
            have hb : Below Z106.heap.size Z106 Z107 := by rw [hZ107]; exact rbel _ _
            replace HLS := Lib.hid (HLS.out.block (hb.block _ HLS.out.lt))
            replace HTK := Lib.hid (HTK.out.block (hb.block _ HTK.out.lt))
            replace HV := Lib.hid (rrow_below HV.out hb)
            have HFL : Hid (InBlk Z106.heap.size n (fun _ => 0) Z107) := by show InBlk _ _ _ _; rw [hZ107]; exact made_blk Z106 n
            obtain ⟨gf, hg0⟩ : ∃ g, g = Z106.heap.size := ⟨_, rfl⟩
            rw [← hg0] at HFL
            have HGF : Hid (V0.heap.size ≤ gf) := by show _ ≤ _; rw [hg0]; exact hHeld.size
            have HNE : Hid (gf ≠ gt) := by show gf ≠ gt; omega
            clear hlt9
            go_simp
            rw [← hZ107, ← hg0]
            clear hg0
            clear hZ107
            refine hK.out _ _ (hHeld.trans (hb.mono hHeld.size)) (fun hHeld2 => ?_)
            clear hK hHeld hb
            have hHeld := hHeld2
            clear hHeld2
            refine take_do (i := 7) (v := (.agg #[.slice (some ⟨gl, 0, none⟩) n cA, .slice (some ⟨gf, 0, none⟩) n n, .slice (some ⟨gt, 0, none⟩) n n, .int .i64 0, .int .i64 0])) rfl (by kernel_rfl) (by kernel_rfl) (by kernel_rfl) (fun _ _ _ h => h) (by rfl) ?_ (by assumption) ?_
            · intro w hSw
              skip
              go_simp
            simp only [Act.put, List.setIfInBounds_toArray, List.set_cons_zero, List.set_cons_succ]
            obtain ⟨WF, HWF, HRM, HBF, ⟨o0, o1, o2, o3, o4⟩, ⟨z0, z1, z2, z3, z4⟩, hol⟩ := rr_leaf (gl := gl) (cA := cA) HSL.out hHeld HV.out HLS.out HFL.out HTK.out HPO.out HGF.out HGT.out HGL.out HNE.out
            refine take_call (i := 9) rfl (by kernel_rfl) (fun K2 hK => ?_)
            go_simp
            rw [← HWF.out]
            refine hK.out _ _ HBF.out (fun _ => ?_)
            clear hK HWF
            refine wpAnyH_done (by kernel_rfl) ?_ _
            go_wp2_with fail
            go_meet
            case rel => exact ⟨po, gl, cA, gf, gt, rfl, HRM⟩
        · have hlt9 := HTK.out.lt
          obtain ⟨Z108, hZ108⟩ : ∃ Z', Z' = Z102.alloc (mkO n) := ⟨_, rfl⟩
          have hb : Below Z102.heap.size Z102 Z108 := by rw [hZ108]; exact rbel _ _
          replace OW := Lib.hid (rown_below OW.out hb)
          replace HTK := Lib.hid (HTK.out.block (hb.block _ HTK.out.lt))
          have HFL : Hid (InBlk Z102.heap.size n (fun _ => 0) Z108) := by show InBlk _ _ _ _; rw [hZ108]; exact made_blk Z102 n
          obtain ⟨gf, hg0⟩ : ∃ g, g = Z102.heap.size := ⟨_, rfl⟩
          rw [← hg0] at HFL
          have HGF : Hid (V0.heap.size ≤ gf) := by show _ ≤ _; rw [hg0]; exact hHeld.size
          have HNE : Hid (gf ≠ gt) := by show gf ≠ gt; omega
          clear hlt9
          go_simp
          rw [← hZ108, ← hg0]
          clear hg0
          clear hZ108
          refine hK.out _ _ (hHeld.trans (hb.mono hHeld.size)) (fun hHeld2 => ?_)
          clear hK hHeld hb
          have hHeld := hHeld2
          clear hHeld2
          refine wpAnyH_ready (rs := [2, 8]) (by kernel_rfl) (by simp) (AllReadyH.cons (at_drop (i := 2) rfl) (fun K2 hK => ?_) (AllReadyH.cons (at_drop (i := 8) rfl) (fun K2 hK => ?_) (AllReadyH.nil)))
          · refine step_append_rv rfl (.tmp 25) (.tmp 26) 25 rfl V0.heap.size 55 i0 _ 6 48 Tryd.underlying25 hi0 hy0 hy1 hy2 rfl (by decide) _ 0 [] rfl OW.out ⟨lb, 0, none⟩ n cn (inVs (scF rs) (n * 6)) rfl (by rw [inVs_len]) (rc_news (fun i hi => (H.out i hi).block (hHeld.block _ HLB.out))) rc_one (by unfold maxLen; omega) (by omega) hHeld.size ?_
            intro v5 Z109 hown hgrow
            have hb0 : Below V0.heap.size Z108 Z109 := (Below.refl _ _).grown hgrow hHeld.size (fun k e => (OW.out.lt k e).1)
            obtain ⟨gl, cA, rfl, hgl, hls⟩ := own_rc (by simpa using hown) hn1
            have HLS := Lib.hid hls
            have HGL := Lib.hid hgl
            replace HFL := Lib.hid (HFL.out.block (hgrow.block _ HFL.out.lt (rown_nei OW.out HFL.out)))
            replace HTK := Lib.hid (HTK.out.block (hgrow.block _ HTK.out.lt (rown_nei OW.out HTK.out)))
            refine hK.out _ _ (hHeld.trans hb0) (fun hHeld2 => ?_)
            clear hK hHeld hb0 hown hgrow hls hgl OW
            have hHeld := hHeld2
            clear hHeld2
            simp only [Act.put, List.setIfInBounds_toArray, List.set_cons_zero, List.set_cons_succ]
            refine take_do (i := 7) (v := (.agg #[.slice (some ⟨gl, 0, none⟩) n cA, .slice (some ⟨gf, 0, none⟩) n n, .slice (some ⟨gt, 0, none⟩) n n, .int .i64 0, .int .i64 0])) rfl (by kernel_rfl) (by kernel_rfl) (by kernel_rfl) (fun _ _ _ h => h) (by rfl) ?_ (by assumption) ?_
            · intro w hSw
              skip
              go_simp
            simp only [Act.put, List.setIfInBounds_toArray, List.set_cons_zero, List.set_cons_succ]
            refine wpAnyH_ready (rs := [8]) (by kernel_rfl) (by simp) (AllReadyH.cons (at_drop (i := 8) rfl) (fun K2 hK => ?_) (AllReadyH.nil))
            obtain ⟨Z110, hZ110⟩ : ∃ Z', Z' = Z109.alloc (.cells #[.slice none 0 0, .slice none 0 0, .slice none 0 0, .int .i64 0, .int .i64 0] 27) := ⟨_, rfl⟩
            have hb : Below Z109.heap.size Z109 Z110 := by rw [hZ110]; exact rbel _ _
            replace HLS := Lib.hid (HLS.out.block (hb.block _ HLS.out.lt))
            replace HFL := Lib.hid (HFL.out.block (hb.block _ HFL.out.lt))
            replace HTK := Lib.hid (HTK.out.block (hb.block _ HTK.out.lt))
            have HV : Hid (Z110.rowIs Z109.heap.size 27 5 (ro5 (.slice none 0 0) (.slice none 0 0) (.slice none 0 0) 0 0)) := by show World.rowIs _ _ _ _ _; rw [hZ110]; exact World.rowIs_alloc Z109 #[.slice none 0 0, .slice none 0 0, .slice none 0 0, .int .i64 0, .int .i64 0] 27 _ (ro5_row (.slice none 0 0) (.slice none 0 0) (.slice none 0 0) 0 0)
            obtain ⟨po, hg0⟩ : ∃ g, g = Z109.heap.size := ⟨_, rfl⟩
            rw [← hg0] at HV
            have HPO : Hid (V0.heap.size ≤ po) := by show _ ≤ _; rw [hg0]; exact hHeld.size
            go_simp
            rw [← hZ110, ← hg0]
            clear hg0
            clear hZ110
            refine hK.out _ _ (hHeld.trans (hb.mono hHeld.size)) (fun hHeld2 => ?_)
            clear hK hHeld hb
            have hHeld := hHeld2
            clear hHeld2
            obtain ⟨WF, HWF, HRM, HBF, ⟨o0, o1, o2, o3, o4⟩, ⟨z0, z1, z2, z3, z4⟩, hol⟩ := rr_leaf (gl := gl) (cA := cA) HSL.out hHeld HV.out HLS.out HFL.out HTK.out HPO.out HGF.out HGT.out HGL.out HNE.out
            refine take_call (i := 9) rfl (by kernel_rfl) (fun K2 hK => ?_)
            go_simp
            rw [← HWF.out]
            refine hK.out _ _ HBF.out (fun _ => ?_)
            clear hK HWF
            refine wpAnyH_done (by kernel_rfl) ?_ _
            go_wp2_with fail
            go_meet
            case rel => exact ⟨po, gl, cA, gf, gt, rfl, HRM⟩
          · obtain ⟨Z111, hZ111⟩ : ∃ Z', Z' = Z108.alloc (.cells #[.slice none 0 0, .slice none 0 0, .slice none 0 0, .int .i64 0, .int .i64 0] 27) := ⟨_, rfl⟩
            have hb : Below Z108.heap.size Z108 Z111 := by rw [hZ111]; exact rbel _ _
            replace OW := Lib.hid (rown_below OW.out hb)
            replace HFL := Lib.hid (HFL.out.block (hb.block _ HFL.out.lt))
            replace HTK := Lib.hid (HTK.out.block (hb.block _ HTK.out.lt))
            have HV : Hid (Z111.rowIs Z108.heap.size 27 5 (ro5 (.slice none 0 0) (.slice none 0 0) (.slice none 0 0) 0 0)) := by show World.rowIs _ _ _ _ _; rw [hZ111]; exact World.rowIs_alloc Z108 #[.slice none 0 0, .slice none 0 0, .slice none 0 0, .int .i64 0, .int .i64 0] 27 _ (ro5_row (.slice none 0 0) (.slice none 0 0) (.slice none 0 0) 0 0)
            obtain ⟨po, hg0⟩ : ∃ g, g = Z108.heap.size := ⟨_, rfl⟩
            rw [← hg0] at HV
            have HPO : Hid (V0.heap.size ≤ po) := by show _ ≤ _; rw [hg0]; exact hHeld.size
            go_simp
            rw [← hZ111, ← hg0]
            clear hg0
            clear hZ111
            refine hK.out _ _ (hHeld.trans (hb.mono hHeld.size)) (fun hHeld2 => ?_)
            clear hK hHeld hb
            have hHeld := hHeld2
            clear hHeld2
            refine wpAnyH_ready (rs := [2]) (by kernel_rfl) (by simp) (AllReadyH.cons (at_drop (i := 2) rfl) (fun K2 hK => ?_) (AllReadyH.nil))
            refine step_append_rv rfl (.tmp 25) (.tmp 26) 25 rfl V0.heap.size 55 i0 _ 6 48 Tryd.underlying25 hi0 hy0 hy1 hy2 rfl (by decide) _ 0 [] rfl OW.out ⟨lb, 0, none⟩ n cn (inVs (scF rs) (n * 6)) rfl (by rw [inVs_len]) (rc_news (fun i hi => (H.out i hi).block (hHeld.block _ HLB.out))) rc_one (by unfold maxLen; omega) (by omega) hHeld.size ?_
            intro v5 Z112 hown hgrow
            have hb0 : Below V0.heap.size Z111 Z112 := (Below.refl _ _).grown hgrow hHeld.size (fun k e => (OW.out.lt k e).1)
            obtain ⟨gl, cA, rfl, hgl, hls⟩ := own_rc (by simpa using hown) hn1
            have HLS := Lib.hid hls
            have HGL := Lib.hid hgl
            replace HFL := Lib.hid (HFL.out.block (hgrow.block _ HFL.out.lt (rown_nei OW.out HFL.out)))
            replace HTK := Lib.hid (HTK.out.block (hgrow.block _ HTK.out.lt (rown_nei OW.out HTK.out)))
            replace HV := Lib.hid (HV.out.of_block (hgrow.block _ HV.out.lt (rown_ne OW.out HV.out (by decide))))
            refine hK.out _ _ (hHeld.trans hb0) (fun hHeld2 => ?_)
            clear hK hHeld hb0 hown hgrow hls hgl OW
            have hHeld := hHeld2
            clear hHeld2
            simp only [Act.put, List.setIfInBounds_toArray, List.set_cons_zero, List.set_cons_succ]
            refine take_do (i := 7) (v := (.agg #[.slice (some ⟨gl, 0, none⟩) n cA, .slice (some ⟨gf, 0, none⟩) n n, .slice (some ⟨gt, 0, none⟩) n n, .int .i64 0, .int .i64 0])) rfl (by kernel_rfl) (by kernel_rfl) (by kernel_rfl) (fun _ _ _ h => h) (by rfl) ?_ (by assumption) ?_
            · intro w hSw
              skip
              go_simp
            simp only [Act.put, List.setIfInBounds_toArray, List.set_cons_zero, List.set_cons_succ]
            obtain ⟨WF, HWF, HRM, HBF, ⟨o0, o1, o2, o3, o4⟩, ⟨z0, z1, z2, z3, z4⟩, hol⟩ := rr_leaf (gl := gl) (cA := cA) HSL.out hHeld HV.out HLS.out HFL.out HTK.out HPO.out HGF.out HGT.out HGL.out HNE.out
            refine take_call (i := 9) rfl (by kernel_rfl) (fun K2 hK => ?_)
            go_simp
            rw [← HWF.out]
            refine hK.out _ _ HBF.out (fun _ => ?_)
            clear hK HWF
            refine wpAnyH_done (by kernel_rfl) ?_ _
            go_wp2_with fail
            go_meet
            case rel => exact ⟨po, gl, cA, gf, gt, rfl, HRM⟩
        · obtain ⟨Z113, hZ113⟩ : ∃ Z', Z' = Z102.alloc (.cells #[.slice none 0 0, .slice none 0 0, .slice none 0 0, .int .i64 0, .int .i64 0] 27) := ⟨_, rfl⟩
          have hb : Below Z102.heap.size Z102 Z113 := by rw [hZ113]; exact rbel _ _
          replace OW := Lib.hid (rown_below OW.out hb)
          replace HTK := Lib.hid (HTK.out.block (hb.block _ HTK.out.lt))
          have HV : Hid (Z113.rowIs Z102.heap.size 27 5 (ro5 (.slice none 0 0) (.slice none 0 0) (.slice none 0 0) 0 0)) := by show World.rowIs _ _ _ _ _; rw [hZ113]; exact World.rowIs_alloc Z102 #[.slice none 0 0, .slice none 0 0, .slice none 0 0, .int .i64 0, .int .i64 0] 27 _ (ro5_row (.slice none 0 0) (.slice none 0 0) (.slice none 0 0) 0 0)
          obtain ⟨po, hg0⟩ : ∃ g, g = Z102.heap.size := ⟨_, rfl⟩
          rw [← hg0] at HV
          have HPO : Hid (V0.heap.size ≤ po) := by show _ ≤ _; rw [hg0]; exact hHeld.size
          go_simp
          rw [← hZ113, ← hg0]
          clear hg0
          clear hZ113
          refine hK.out _ _ (hHeld.trans (hb.mono hHeld.size)) (fun hHeld2 => ?_)
          clear hK hHeld hb
          have hHeld := hHeld2
          clear hHeld2
          refine wpAnyH_ready (rs := [2, 4]) (by kernel_rfl) (by simp) (AllReadyH.cons (at_drop (i := 2) rfl) (fun K2 hK => ?_) (AllReadyH.cons (at_drop (i := 4) rfl) (fun K2 hK => ?_) (AllReadyH.nil)))
          · refine step_append_rv rfl (.tmp 25) (.tmp 26) 25 rfl V0.heap.size 55 i0 _ 6 48 Tryd.underlying25 hi0 hy0 hy1 hy2 rfl (by decide) _ 0 [] rfl OW.out ⟨lb, 0, none⟩ n cn (inVs (scF rs) (n * 6)) rfl (by rw [inVs_len]) (rc_news (fun i hi => (H.out i hi).block (hHeld.block _ HLB.out))) rc_one (by unfold maxLen; omega) (by omega) hHeld.size ?_
            intro v5 Z114 hown hgrow
            have hb0 : Below V0.heap.size Z113 Z114 := (Below.refl _ _).grown hgrow hHeld.size (fun k e => (OW.out.lt k e).1)
            obtain ⟨gl, cA, rfl, hgl, hls⟩ := own_rc (by simpa using hown) hn1
            have HLS := Lib.hid hls
            have HGL := Lib.hid hgl
            replace HTK := Lib.hid (HTK.out.block (hgrow.block _ HTK.out.lt (rown_nei OW.out HTK.out)))
            replace HV := Lib.hid (HV.out.of_block (hgrow.block _ HV.out.lt (rown_ne OW.out HV.out (by decide))))
            refine hK.out _ _ (hHeld.trans hb0) (fun hHeld2 => ?_)
            clear hK hHeld hb0 hown hgrow hls hgl OW
            have hHeld := hHeld2
            clear hHeld2
            simp only [Act.put, List.setIfInBounds_toArray, List.set_cons_zero, List.set_cons_succ]
            refine wpAnyH_ready (rs := [4]) (by kernel_rfl) (by simp) (AllReadyH.cons (at_drop (i := 4) rfl) (fun K2 hK => ?_) (AllReadyH.nil))
            have hlt9 := HTK.out.lt
            obtain ⟨Z115, hZ115⟩ : ∃ Z', Z' = Z114.alloc (mkO n) := ⟨_, rfl⟩
            have hb : Below Z114.heap.size Z114 Z115 := by rw [hZ115]; exact rbel _ _
            replace HLS := Lib.hid (HLS.out.block (hb.block _ HLS.out.lt))
            replace HTK := Lib.hid (HTK.out.block (hb.block _ HTK.out.lt))
            replace HV := Lib.hid (rrow_below HV.out hb)
            have HFL : Hid (InBlk Z114.heap.size n (fun _ => 0) Z115) := by show InBlk _ _ _ _; rw [hZ115]; exact made_blk Z114 n
            obtain ⟨gf, hg0⟩ : ∃ g, g = Z114.heap.size := ⟨_, rfl⟩
            rw [← hg0] at HFL
            have HGF : Hid (V0.heap.size ≤ gf) := by show _ ≤ _; rw [hg0]; exact hHeld.size
            have HNE : Hid (gf ≠ gt) := by show gf ≠ gt; omega
            clear hlt9
            go_simp
            rw [← hZ115, ← hg0]
            clear hg0
            clear hZ115
            refine hK.out _ _ (hHeld.trans (hb.mono hHeld.size)) (fun hHeld2 => ?_)
            clear hK hHeld hb
            have hHeld := hHeld2
            clear hHeld2
            refine take_do (i := 7) (v := (.agg #[.slice (some ⟨gl, 0, none⟩) n cA, .slice (some ⟨gf, 0, none⟩) n n, .slice (some ⟨gt, 0, none⟩) n n, .int .i64 0, .int .i64 0])) rfl (by kernel_rfl) (by kernel_rfl) (by kernel_rfl) (fun _ _ _ h => h) (by rfl) ?_ (by assumption) ?_
            · intro w hSw
              skip
              go_simp
            simp only [Act.put, List.setIfInBounds_toArray, List.set_cons_zero, List.set_cons_succ]
            obtain ⟨WF, HWF, HRM, HBF, ⟨o0, o1, o2, o3, o4⟩, ⟨z0, z1, z2, z3, z4⟩, hol⟩ := rr_leaf (gl := gl) (cA := cA) HSL.out hHeld HV.out HLS.out HFL.out HTK.out HPO.out HGF.out HGT.out HGL.out HNE.out
            refine take_call (i := 9) rfl (by kernel_rfl) (fun K2 hK => ?_)
            go_simp
            rw [← HWF.out]
            refine hK.out _ _ HBF.out (fun _ => ?_)
            clear hK HWF
            refine wpAnyH_done (by kernel_rfl) ?_ _
            go_wp2_with fail
            go_meet
            case rel => exact ⟨po, gl, cA, gf, gt, rfl, HRM⟩
          · have hlt9 := HTK.out.lt
            obtain ⟨Z116, hZ116⟩ : ∃ Z', Z' = Z113.alloc (mkO n) := ⟨_, rfl⟩
            have hb : Below Z113.heap.size Z113 Z116 := by rw [hZ116]; exact rbel _ _
            replace OW := Lib.hid (rown_below OW.out hb)
            replace HTK := Lib.hid (HTK.out.block (hb.block _ HTK.out.lt))
            replace HV := Lib.hid (rrow_below HV.out hb)
            have HFL : Hid (InBlk Z113.heap.size n (fun _ => 0) Z116) := by show InBlk _ _ _ _; rw [hZ116]; exact made_blk Z113 n
            obtain ⟨gf, hg0⟩ : ∃ g, g = Z113.heap.size := ⟨_, rfl⟩
            rw [← hg0] at HFL
            have HGF : Hid (V0.heap.size ≤ gf) := by show _ ≤ _; rw [hg0]; exact hHeld.size
            have HNE : Hid (gf ≠ gt) := by show gf ≠ gt; omega
            clear hlt9
            go_simp
            rw [← hZ116, ← hg0]
            clear hg0
            clear hZ116
            refine hK.out _ _ (hHeld.trans (hb.mono hHeld.size)) (fun hHeld2 => ?_)
            clear hK hHeld hb
            have hHeld := hHeld2
            clear hHeld2
            refine wpAnyH_ready (rs := [2]) (by kernel_rfl) (by simp) (AllReadyH.cons (at_drop (i := 2) rfl) (fun K2 hK => ?_) (AllReadyH.nil))
            refine step_append_rv rfl (.tmp 25) (.tmp 26) 25 rfl V0.heap.size 55 i0 _ 6 48 Tryd.underlying25 hi0 hy0 hy1 hy2 rfl (by decide) _ 0 [] rfl OW.out ⟨lb, 0, none⟩ n cn (inVs (scF rs) (n * 6)) rfl (by rw [inVs_len]) (rc_news (fun i hi => (H.out i hi).block (hHeld.block _ HLB.out))) rc_one (by unfold maxLen; omega) (by omega) hHeld.size ?_
            intro v5 Z117 hown hgrow
            have hb0 : Below V0.heap.size Z116 Z117 := (Below.refl _ _).grown hgrow hHeld.size (fun k e => (OW.out.lt k e).1)
            obtain ⟨gl, cA, rfl, hgl, hls⟩ := own_rc (by simpa using hown) hn1
            have HLS := Lib.hid hls
            have HGL := Lib.hid hgl
            replace HFL := Lib.hid (HFL.out.block (hgrow.block _ HFL.out.lt (rown_nei OW.out HFL.out)))
            replace HTK := Lib.hid (HTK.out.block (hgrow.block _ HTK.out.lt (rown_nei OW.out HTK.out)))
            replace HV := Lib.hid (HV.out.of_block (hgrow.block _ HV.out.lt (rown_ne OW.out HV.out (by decide))))
            refine hK.out _ _ (hHeld.trans hb0) (fun hHeld2 => ?_)
            clear hK hHeld hb0 hown hgrow hls hgl OW
            have hHeld := hHeld2
            clear hHeld2
            simp only [Act.put, List.setIfInBounds_toArray, List.set_cons_zero, List.set_cons_succ]
            refine take_do (i := 7) (v := (.agg #[.slice (some ⟨gl, 0, none⟩) n cA, .slice (some ⟨gf, 0, none⟩) n n, .slice (some ⟨gt, 0, none⟩) n n, .int .i64 0, .int .i64 0])) rfl (by kernel_rfl) (by kernel_rfl) (by kernel_rfl) (fun _ _ _ h => h) (by rfl) ?_ (by assumption) ?_
            · intro w hSw
              skip
              go_simp
            simp only [Act.put, List.setIfInBounds_toArray, List.set_cons_zero, List.set_cons_succ]
            obtain ⟨WF, HWF, HRM, HBF, ⟨o0, o1, o2, o3, o4⟩, ⟨z0, z1, z2, z3, z4⟩, hol⟩ := rr_leaf (gl := gl) (cA := cA) HSL.out hHeld HV.out HLS.out HFL.out HTK.out HPO.out HGF.out HGT.out HGL.out HNE.out
            refine take_call (i := 9) rfl (by kernel_rfl) (fun K2 hK => ?_)
            go_simp
            rw [← HWF.out]
            refine hK.out _ _ HBF.out (fun _ => ?_)
            clear hK HWF
            refine wpAnyH_done (by kernel_rfl) ?_ _
            go_wp2_with fail
            go_meet
            case rel => exact ⟨po, gl, cA, gf, gt, rfl, HRM⟩
      · have hlt9 := HTK.out.lt
        obtain ⟨Z118, hZ118⟩ : ∃ Z', Z' = Z101.alloc (mkO n) := ⟨_, rfl⟩
        have hb : Below Z101.heap.size Z101 Z118 := by rw [hZ118]; exact rbel _ _
        replace HTK := Lib.hid (HTK.out.block (hb.block _ HTK.out.lt))
        have HFL : Hid (InBlk Z101.heap.size n (fun _ => 0) Z118) := by show InBlk _ _ _ _; rw [hZ118]; exact made_blk Z101 n
        obtain ⟨gf, hg0⟩ : ∃ g, g = Z101.heap.size := ⟨_, rfl⟩
        rw [← hg0] at HFL
        have HGF : Hid (V0.heap.size ≤ gf) := by show _ ≤ _; rw [hg0]; exact hHeld.size
        have HNE : Hid (gf ≠ gt) := by show gf ≠ gt; omega
        clear hlt9
        go_simp
        rw [← hZ118, ← hg0]
        clear hg0
        clear hZ118
        refine hK.out _ _ (hHeld.trans (hb.mono hHeld.size)) (fun hHeld2 => ?_)
        clear hK hHeld hb
        have hHeld := hHeld2
        clear hHeld2
        refine wpAnyH_ready (rs := [0, 8]) (by kernel_rfl) (by simp) (AllReadyH.cons (at_drop (i := 0) rfl) (fun K2 hK => ?_) (AllReadyH.cons (at_drop (i := 8) rfl) (fun K2 hK => ?_) (AllReadyH.nil)))
        · obtain ⟨Z119, hZ119⟩ : ∃ Z', Z' = Z118.alloc (.cells #[] 55) := ⟨_, rfl⟩
          have hb : Below Z118.heap.size Z118 Z119 := by rw [hZ119]; exact rbel _ _
          replace HFL := Lib.hid (HFL.out.block (hb.block _ HFL.out.lt))
          replace HTK := Lib.hid (HTK.out.block (hb.block _ HTK.out.lt))
          have OW : Hid (Z119.ownsRow V0.heap.size 55 6 (.slice (some ⟨Z118.heap.size, 0, none⟩) 0 0) 0 []) := by show World.ownsRow _ _ _ _ _ _ _; rw [hZ119]; exact World.ownsRow_made Z118 #[] 0 hHeld.size (Nat.zero_le _) rfl
          go_simp
          rw [← hZ119]
          clear hZ119
          refine hK.out _ _ (hHeld.trans (hb.mono hHeld.size)) (fun hHeld2 => ?_)
          clear hK hHeld hb
          have hHeld := hHeld2
          clear hHeld2
          refine wpAnyH_ready (rs := [2, 8]) (by kernel_rfl) (by simp) (AllReadyH.cons (at_drop (i := 2) rfl) (fun K2 hK => ?_) (AllReadyH.cons (at_drop (i := 8) rfl) (fun K2 hK => ?_) (AllReadyH.nil)))
          · refine step_append_rv rfl (.tmp 25) (.tmp 26) 25 rfl V0.heap.size 55 i0 _ 6 48 Tryd.underlying25 hi0 hy0 hy1 hy2 rfl (by decide) _ 0 [] rfl OW.out ⟨lb, 0, none⟩ n cn (inVs (scF rs) (n * 6)) rfl (by rw [inVs_len]) (rc_news (fun i hi => (H.out i hi).block (hHeld.block _ HLB.out))) rc_one (by unfold maxLen; omega) (by omega) hHeld.size ?_
            intro v5 Z120 hown hgrow
            have hb0 : Below V0.heap.size Z119 Z120 := (Below.refl _ _).grown hgrow hHeld.size (fun k e => (OW.out.lt k e).1)
            obtain ⟨gl, cA, rfl, hgl, hls⟩ := own_rc (by simpa using hown) hn1
            have HLS := Lib.hid hls
            have HGL := Lib.hid hgl
            replace HFL := Lib.hid (HFL.out.block (hgrow.block _ HFL.out.lt (rown_nei OW.out HFL.out)))
            replace HTK := Lib.hid (HTK.out.block (hgrow.block _ HTK.out.lt (rown_nei OW.out HTK.out)))
            refine hK.out _ _ (hHeld.trans hb0) (fun hHeld2 => ?_)
            clear hK hHeld hb0 hown hgrow hls hgl OW
            have hHeld := hHeld2
            clear hHeld2
            simp only [Act.put, List.setIfInBounds_toArray, List.set_cons_zero, List.set_cons_succ]
            refine take_do (i := 7) (v := (.agg #[.slice (some ⟨gl, 0, none⟩) n cA, .slice (some ⟨gf, 0, none⟩) n n, .slice (some ⟨gt, 0, none⟩) n n, .int .i64 0, .int .i64 0])) rfl (by kernel_rfl) (by kernel_rfl) (by kernel_rfl) (fun _ _ _ h => h) (by rfl) ?_ (by assumption) ?_
            · intro w hSw
              skip
              go_simp
            simp only [Act.put, List.setIfInBounds_toArray, List.set_cons_zero, List.set_cons_succ]
            refine wpAnyH_ready (rs := [8]) (by kernel_rfl) (by simp) (AllReadyH.cons (at_drop (i := 8) rfl) (fun K2 hK => ?_) (AllReadyH.nil))
            obtain ⟨Z121, hZ121⟩ : ∃ Z', Z' = Z120.alloc (.cells #[.slice none 0 0, .slice none 0 0, .slice none 0 0, .int .i64 0, .int .i64 0] 27) := ⟨_, rfl⟩
            have hb : Below Z120.heap.size Z120 Z121 := by rw [hZ121]; exact rbel _ _
            replace HLS := Lib.hid (HLS.out.block (hb.block _ HLS.out.lt))
            replace HFL := Lib.hid (HFL.out.block (hb.block _ HFL.out.lt))
            replace HTK := Lib.hid (HTK.out.block (hb.block _ HTK.out.lt))
            have HV : Hid (Z121.rowIs Z120.heap.size 27 5 (ro5 (.slice none 0 0) (.slice none 0 0) (.slice none 0 0) 0 0)) := by show World.rowIs _ _ _ _ _; rw [hZ121]; exact World.rowIs_alloc Z120 #[.slice none 0 0, .slice none 0 0, .slice none 0 0, .int .i64 0, .int .i64 0] 27 _ (ro5_row (.slice none 0 0) (.slice none 0 0) (.slice none 0 0) 0 0)
            obtain ⟨po, hg0⟩ : ∃ g, g = Z120.heap.size := ⟨_, rfl⟩
            rw [← hg0] at HV
            have HPO : Hid (V0.heap.size ≤ po) := by show _ ≤ _; rw [hg0]; exact hHeld.size
            go_simp
            rw [← hZ121, ← hg0]
            clear hg0
            clear hZ121
            refine hK.out _ _ (hHeld.trans (hb.mono hHeld.size)) (fun hHeld2 => ?_)
            clear hK hHeld hb
            have hHeld := hHeld2
            clear hHeld2
            obtain ⟨WF, HWF, HRM, HBF, ⟨o0, o1, o2, o3, o4⟩, ⟨z0, z1, z2, z3, z4⟩, hol⟩ := rr_leaf (gl := gl) (cA := cA) HSL.out hHeld HV.out HLS.out HFL.out HTK.out HPO.out HGF.out HGT.out HGL.out HNE.out
            refine take_call (i := 9) rfl (by kernel_rfl) (fun K2 hK => ?_)
            go_simp
            rw [← HWF.out]
            refine hK.out _ _ HBF.out (fun _ => ?_)
            clear hK HWF
            refine wpAnyH_done (by kernel_rfl) ?_ _
            go_wp2_with fail
            go_meet
            case rel => exact ⟨po, gl, cA, gf, gt, rfl, HRM⟩
          · obtain ⟨Z122, hZ122⟩ : ∃ Z', Z' = Z119.alloc (.cells #[.slice none 0 0, .slice none 0 0, .slice none 0 0, .int .i64 0, .int .i64 0] 27) := ⟨_, rfl⟩
            have hb : Below Z119.heap.size Z119 Z122 := by rw [hZ122]; exact rbel _ _
            replace OW := Lib.hid (rown_below OW.out hb)
            replace HFL := Lib.hid (HFL.out.block (hb.block _ HFL.out.lt))
            replace HTK := Lib.hid (HTK.out.block (hb.block _ HTK.out.lt))
            have HV : Hid (Z122.rowIs Z119.heap.size 27 5 (ro5 (.slice none 0 0) (.slice none 0 0) (.slice none 0 0) 0 0)) := by show World.rowIs _ _ _ _ _; rw [hZ122]; exact World.rowIs_alloc Z119 #[.slice none 0 0, .slice none 0 0, .slice none 0 0, .int .i64 0, .int .i64 0] 27 _ (ro5_row (.slice none 0 0) (.slice none 0 0) (.slice none 0 0) 0 0)
            obtain ⟨po, hg0⟩ : ∃ g, g = Z119.heap.size := ⟨_, rfl⟩
            rw [← hg0] at HV
            have HPO : Hid (V0.heap.size ≤ po) := by show _ ≤ _; rw [hg0]; exact hHeld.size
            go_simp
            rw [← hZ122, ← hg0]
            clear hg0
            clear hZ122
            refine hK.out _ _ (hHeld.trans (hb.mono hHeld.size)) (fun hHeld2 => ?_)
            clear hK hHeld hb
            have hHeld := hHeld2
            clear hHeld2
            refine wpAnyH_ready (rs := [2]) (by kernel_rfl) (by simp) (AllReadyH.cons (at_drop (i := 2) rfl) (fun K2 hK => ?_) (AllReadyH.nil))
            refine step_append_rv rfl (.tmp 25) (.tmp 26) 25 rfl V0.heap.size 55 i0 _ 6 48 Tryd.underlying25 hi0 hy0 hy1 hy2 rfl (by decide) _ 0 [] rfl OW.out ⟨lb, 0, none⟩ n cn (inVs (scF rs) (n * 6)) rfl (by rw [inVs_len]) (rc_news (fun i hi => (H.out i hi).block (hHeld.block _ HLB.out))) rc_one (by unfold maxLen; omega) (by omega) hHeld.size ?_
            intro v5 Z123 hown hgrow
            have hb0 : Below V0.heap.size Z122 Z123 := (Below.refl _ _).grown hgrow hHeld.size (fun k e => (OW.out.lt k e).1)
            obtain ⟨gl, cA, rfl, hgl, hls⟩ := own_rc (by simpa using hown) hn1
            have HLS := Lib.hid hls
            have HGL := Lib.hid hgl
            replace HFL := Lib.hid (HFL.out.block (hgrow.block _ HFL.out.lt (rown_nei OW.out HFL.out)))
            replace HTK := Lib.hid (HTK.out.block (hgrow.block _ HTK.out.lt (rown_nei OW.out HTK.out)))
            replace HV := Lib.hid (HV.out.of_block (hgrow.block _ HV.out.lt (rown_ne OW.out HV.out (by decide))))
            refine hK.out _ _ (hHeld.trans hb0) (fun hHeld2 => ?_)
            clear hK hHeld hb0 hown hgrow hls hgl OW
            have hHeld := hHeld2
            clear hHeld2
            simp only [Act.put, List.setIfInBounds_toArray, List.set_cons_zero, List.set_cons_succ]
            refine take_do (i := 7) (v := (.agg #[.slice (some ⟨gl, 0, none⟩) n cA, .slice (some ⟨gf, 0, none⟩) n n, .slice (some ⟨gt, 0, none⟩) n n, .int .i64 0, .int .i64 0])) rfl (by kernel_rfl) (by kernel_rfl) (by kernel_rfl) (fun _ _ _ h => h) (by rfl) ?_ (by assumption) ?_
            · intro w hSw
              skip
              go_simp
            simp only [Act.put, List.setIfInBounds_toArray, List.set_cons_zero, List.set_cons_succ]
            obtain ⟨WF, HWF, HRM, HBF, ⟨o0, o1, o2, o3, o4⟩, ⟨z0, z1, z2, z3, z4⟩, hol⟩ := rr_leaf (gl := gl) (cA := cA) HSL.out hHeld HV.out HLS.out HFL.out HTK.out HPO.out HGF.out HGT.out HGL.out HNE.out
            refine take_call (i := 9) rfl (by kernel_rfl) (fun K2 hK => ?_)
            go_simp
            rw [← HWF.out]
            refine hK.out _ _ HBF.out (fun _ => ?_)
            clear hK HWF
            refine wpAnyH_done (by kernel_rfl) ?_ _
            go_wp2_with fail
            go_meet
            case rel => exact ⟨po, gl, cA, gf, gt, rfl, HRM⟩
        · obtain ⟨Z124, hZ124⟩ : ∃ Z', Z' = Z118.alloc (.cells #[.slice none 0 0, .slice none 0 0, .slice none 0 0, .int .i64 0, .int .i64 0] 27) := ⟨_, rfl⟩
          have hb : Below Z118.heap.size Z118 Z124 := by rw [hZ124]; exact rbel _ _
          replace HFL := Lib.hid (HFL.out.block (hb.block _ HFL.out.lt))
          replace HTK := Lib.hid (HTK.out.block (hb.block _ HTK.out.lt))
          have HV : Hid (Z124.rowIs Z118.heap.size 27 5 (ro5 (.slice none 0 0) (.slice none 0 0) (.slice none 0 0) 0 0)) := by show World.rowIs _ _ _ _ _; rw [hZ124]; exact World.rowIs_alloc Z118 #[.slice none 0 0, .slice none 0 0, .slice none 0 0, .int .i64 0, .int .i64 0] 27 _ (ro5_row (.slice none 0 0) (.slice none 0 0) (.slice none 0 0) 0 0)
          obtain ⟨po, hg0⟩ : ∃ g, g = Z118.heap.size := ⟨_, rfl⟩
          rw [← hg0] at HV
          have HPO : Hid (V0.heap.size ≤ po) := by show _ ≤ _; rw [hg0]; exact hHeld.size
          go_simp
          rw [← hZ124, ← hg0]
          clear hg0
          clear hZ124
          refine hK.out _ _ (hHeld.trans (hb.mono hHeld.size)) (fun hHeld2 => ?_)
          clear hK hHeld hb
          have hHeld := hHeld2
          clear hHeld2
          refine wpAnyH_ready (rs := [0]) (by kernel_rfl) (by simp) (AllReadyH.cons (at_drop (i := 0) rfl) (fun K2 hK => ?_) (AllReadyH.nil))
          obtain ⟨Z125, hZ125⟩ : ∃ Z', Z' = Z124.alloc (.cells #[] 55) := ⟨_, rfl⟩
          have hb : Below Z124.heap.size Z124 Z125 := by rw [hZ125]; exact rbel _ _
          replace HFL := Lib.hid (HFL.out.block (hb.block _ HFL.out.lt))
          replace HTK := Lib.hid (HTK.out.block (hb.block _ HTK.out.lt))
          replace HV := Lib.hid (rrow_below HV.out hb)
          have OW : Hid (Z125.ownsRow V0.heap.size 55 6 (.slice (some ⟨Z124.heap.size, 0, none⟩) 0 0) 0 []) := by show World.ownsRow _ _ _ _ _ _ _; rw [hZ125]; exact World.ownsRow_made Z124 #[] 0 hHeld.size (Nat.zero_le _) rfl
          go_simp
          rw [← hZ125]
          clear hZ125
          refine hK.out _ _ (hHeld.trans (hb.mono hHeld.size)) (fun hHeld2 => ?_)
          clear hK hHeld hb
          have hHeld := hHeld2
          clear hHeld2
          refine wpAnyH_ready (rs := [2]) (by kernel_rfl) (by simp) (AllReadyH.cons (at_drop (i := 2) rfl) (fun K2 hK => ?_) (AllReadyH.nil))
          refine step_append_rv rfl (.tmp 25) (.tmp 26) 25 rfl V0.heap.size 55 i0 _ 6 48 Tryd.underlying25 hi0 hy0 hy1 hy2 rfl (by decide) _ 0 [] rfl OW.out ⟨lb, 0, none⟩ n cn (inVs (scF rs) (n * 6)) rfl (by rw [inVs_len]) (rc_news (fun i hi => (H.out i hi).block (hHeld.block _ HLB.out))) rc_one (by unfold maxLen; omega) (by omega) hHeld.size ?_
          intro v5 Z126 hown hgrow
          have hb0 : Below V0.heap.size Z125 Z126 := (Below.refl _ _).grown hgrow hHeld.size (fun k e => (OW.out.lt k e).1)
          obtain ⟨gl, cA, rfl, hgl, hls⟩ := own_rc (by simpa using hown) hn1
          have HLS := Lib.hid hls
          have HGL := Lib.hid hgl
          replace HFL := Lib.hid (HFL.out.block (hgrow.block _ HFL.out.lt (rown_nei OW.out HFL.out)))
          replace HTK := Lib.hid (HTK.out.block (hgrow.block _ HTK.out.lt (rown_nei OW.out HTK.out)))
          replace HV := Lib.hid (HV.out.of_block (hgrow.block _ HV.out.lt (rown_ne OW.out HV.out (by decide))))
          refine hK.out _ _ (hHeld.trans hb0) (fun hHeld2 => ?_)
          clear hK hHeld hb0 hown hgrow hls hgl OW
          have hHeld := hHeld2
          clear hHeld2
          simp only [Act.put, List.setIfInBounds_toArray, List.set_cons_zero, List.set_cons_succ]
          refine take_do (i := 7) (v := (.agg #[.slice (some ⟨gl, 0, none⟩) n cA, .slice (some ⟨gf, 0, none⟩) n n, .slice (some ⟨gt, 0, none⟩) n n, .int .i64 0, .int .i64 0])) rfl (by kernel_rfl) (by kernel_rfl) (by kernel_rfl) (fun _ _ _ h => h) (by rfl) ?_ (by assumption) ?_
          · intro w hSw
            skip
            go_simp
          simp only [Act.put, List.setIfInBounds_toArray, List.set_cons_zero, List.set_cons_succ]
          obtain ⟨WF, HWF, HRM, HBF, ⟨o0, o1, o2, o3, o4⟩, ⟨z0, z1, z2, z3, z4⟩, hol⟩ := rr_leaf (gl := gl) (cA := cA) HSL.out hHeld HV.out HLS.out HFL.out HTK.out HPO.out HGF.out HGT.out HGL.out HNE.out
          refine take_call (i := 9) rfl (by kernel_rfl) (fun K2 hK => ?_)
          go_simp
          rw [← HWF.out]
          refine hK.out _ _ HBF.out (fun _ => ?_)
          clear hK HWF
          refine wpAnyH_done (by kernel_rfl) ?_ _
          go_wp2_with fail
          go_meet
          case rel => exact ⟨po, gl, cA, gf, gt, rfl, HRM⟩
      · obtain ⟨Z127, hZ127⟩ : ∃ Z', Z' = Z101.alloc (.cells #[.slice none 0 0, .slice none 0 0, .slice none 0 0, .int .i64 0, .int .i64 0] 27) := ⟨_, rfl⟩
        have hb : Below Z101.heap.size Z101 Z127 := by rw [hZ127]; exact rbel _ _
        replace HTK := Lib.hid (HTK.out.block (hb.block _ HTK.out.lt))
        have HV : Hid (Z127.rowIs Z101.heap.size 27 5 (ro5 (.slice none 0 0) (.slice none 0 0) (.slice none 0 0) 0 0)) := by show World.rowIs _ _ _ _ _; rw [hZ127]; exact World.rowIs_alloc Z101 #[.slice none 0 0, .slice none 0 0, .slice none 0 0, .int .i64 0, .int .i64 0] 27 _ (ro5_row (.slice none 0 0) (.slice none 0 0) (.slice none 0 0) 0 0)
        obtain ⟨po, hg0⟩ : ∃ g, g = Z101.heap.size := ⟨_, rfl⟩
        rw [← hg0] at HV
        have HPO : Hid (V0.heap.size ≤ po) := by show _ ≤ _; rw [hg0]; exact hHeld.size
        go_simp
        rw [← hZ127, ← hg0]
        clear hg0
        clear hZ127
        refine hK.out _ _ (hHeld.trans (hb.mono hHeld.size)) (fun hHeld2 => ?_)
        clear hK hHeld hb
        have hHeld := hHeld2
        clear hHeld2
        refine wpAnyH_ready (rs := [0, 4]) (by kernel_rfl) (by simp) (AllReadyH.cons (at_drop (i := 0) rfl) (fun K2 hK => ?_) (AllReadyH.cons (at_drop (i := 4) rfl) (fun K2 hK => ?_) (AllReadyH.nil)))
        · obtain ⟨Z128, hZ128⟩ : ∃ Z', Z' = Z127.alloc (.cells #[] 55) := ⟨_, rfl⟩
          have hb : Below Z127.heap.size Z127 Z128 := by rw [hZ128]; exact rbel _ _
          replace HTK := Lib.hid (HTK.out.block (hb.block _ HTK.out.lt))
          replace HV := Lib.hid (rrow_below HV.out hb)
          have OW : Hid (Z128.ownsRow V0.heap.size 55 6 (.slice (some ⟨Z127.heap.size, 0, none⟩) 0 0) 0 []) := by show World.ownsRow _ _ _ _ _ _ _; rw [hZ128]; exact World.ownsRow_made Z127 #[] 0 hHeld.size (Nat.zero_le _) rfl
          go_simp
          rw [← hZ128]
          clear hZ128
          refine hK.out _ _ (hHeld.trans (hb.mono hHeld.size)) (fun hHeld2 => ?_)
          clear hK hHeld hb
          have hHeld := hHeld2
          clear hHeld2
          refine wpAnyH_ready (rs := [2, 4]) (by kernel_rfl) (by simp) (AllReadyH.cons (at_drop (i := 2) rfl) (fun K2 hK => ?_) (AllReadyH.cons (at_drop (i := 4) rfl) (fun K2 hK => ?_) (AllReadyH.nil)))
          · refine step_append_rv rfl (.tmp 25) (.tmp 26) 25 rfl V0.heap.size 55 i0 _ 6 48 Tryd.underlying25 hi0 hy0 hy1 hy2 rfl (by decide) _ 0 [] rfl OW.out ⟨lb, 0, none⟩ n cn (inVs (scF rs) (n * 6)) rfl (by rw [inVs_len]) (rc_news (fun i hi => (H.out i hi).block (hHeld.block _ HLB.out))) rc_one (by unfold maxLen; omega) (by omega) hHeld.size ?_
            intro v5 Z129 hown hgrow
            have hb0 : Below V0.heap.size Z128 Z129 := (Below.refl _ _).grown hgrow hHeld.size (fun k e => (OW.out.lt k e).1)
            obtain ⟨gl, cA, rfl, hgl, hls⟩ := own_rc (by simpa using hown) hn1
            have HLS := Lib.hid hls
            have HGL := Lib.hid hgl
            replace HTK := Lib.hid (HTK.out.block (hgrow.block _ HTK.out.lt (rown_nei OW.out HTK.out)))
            replace HV := Lib.hid (HV.out.of_block (hgrow.block _ HV.out.lt (rown_ne OW.out HV.out (by decide))))
            refine hK.out _ _ (hHeld.trans hb0) (fun hHeld2 => ?_)
            clear hK hHeld hb0 hown hgrow hls hgl OW
            have hHeld := hHeld2
            clear hHeld2
            simp only [Act.put, List.setIfInBounds_toArray, List.set_cons_zero, List.set_cons_succ]
            refine wpAnyH_ready (rs := [4]) (by kernel_rfl) (by simp) (AllReadyH.cons (at_drop (i := 4) rfl) (fun K2 hK => ?_) (AllReadyH.nil))
            have hlt9 := HTK.out.lt
            obtain ⟨Z130, hZ130⟩ : ∃ Z', Z' = Z129.alloc (mkO n) := ⟨_, rfl⟩
            have hb : Below Z129.heap.size Z129 Z130 := by rw [hZ130]; exact rbel _ _
            replace HLS := Lib.hid (HLS.out.block (hb.block _ HLS.out.lt))
            replace HTK := Lib.hid (HTK.out.block (hb.block _ HTK.out.lt))
            replace HV := Lib.hid (rrow_below HV.out hb)
            have HFL : Hid (InBlk Z129.heap.size n (fun _ => 0) Z130) := by show InBlk _ _ _ _; rw [hZ130]; exact made_blk Z129 n
            obtain ⟨gf, hg0⟩ : ∃ g, g = Z129.heap.size := ⟨_, rfl⟩
            rw [← hg0] at HFL
            have HGF : Hid (V0.heap.size ≤ gf) := by show _ ≤ _; rw [hg0]; exact hHeld.size
            have HNE : Hid (gf ≠ gt) := by show gf ≠ gt; omega
            clear hlt9
            go_simp
            rw [← hZ130, ← hg0]
            clear hg0
            clear hZ130
            refine hK.out _ _ (hHeld.trans (hb.mono hHeld.size)) (fun hHeld2 => ?_)
            clear hK hHeld hb
            have hHeld := hHeld2
            clear hHeld2
            refine take_do (i := 7) (v := (.agg #[.slice (some ⟨gl, 0, none⟩) n cA, .slice (some ⟨gf, 0, none⟩) n n, .slice (some ⟨gt, 0, none⟩) n n, .int .i64 0, .int .i64 0])) rfl (by kernel_rfl) (by kernel_rfl) (by kernel_rfl) (fun _ _ _ h => h) (by rfl) ?_ (by assumption) ?_
            · intro w hSw
              skip
              go_simp
            simp only [Act.put, List.setIfInBounds_toArray, List.set_cons_zero, List.set_cons_succ]
            obtain ⟨WF, HWF, HRM, HBF, ⟨o0, o1, o2, o3, o4⟩, ⟨z0, z1, z2, z3, z4⟩, hol⟩ := rr_leaf (gl := gl) (cA := cA) HSL.out hHeld HV.out HLS.out HFL.out HTK.out HPO.out HGF.out HGT.out HGL.out HNE.out
            refine take_call (i := 9) rfl (by kernel_rfl) (fun K2 hK => ?_)
            go_simp
            rw [← HWF.out]
            refine hK.out _ _ HBF.out (fun _ => ?_)
            clear hK HWF
            refine wpAnyH_done (by kernel_rfl) ?_ _
            go_wp2_with fail
            go_meet
            case rel => exact ⟨po, gl, cA, gf, gt, rfl, HRM⟩
          · have hlt9 := HTK.out.lt
            obtain ⟨Z131, hZ131⟩ : ∃ Z', Z' = Z128.alloc (mkO n) := ⟨_, rfl⟩
            have hb : Below Z128.heap.size Z128 Z131 := by rw [hZ131]; exact rbel _ _
            replace OW := Lib.hid (rown_below OW.out hb)
            replace HTK := Lib.hid (HTK.out.block (hb.block _ HTK.out.lt))
            replace HV := Lib.hid (rrow_below HV.out hb)
            have HFL : Hid (InBlk Z128.heap.size n (fun _ => 0) Z131) := by show InBlk _ _ _ _; rw [hZ131]; exact made_blk Z128 n
            obtain ⟨gf, hg0⟩ : ∃ g, g = Z128.heap.size := ⟨_, rfl⟩
            rw [← hg0] at HFL
            have HGF : Hid (V0.heap.size ≤ gf) := by show _ ≤ _; rw [hg0]; exact hHeld.size
            have HNE : Hid (gf ≠ gt) := by show gf ≠ gt; omega
            clear hlt9
            go_simp
            rw [← hZ131, ← hg0]
            clear hg0
            clear hZ131
            refine hK.out _ _ (hHeld.trans (hb.mono hHeld.size)) (fun hHeld2 => ?_)
            clear hK hHeld hb
            have hHeld := hHeld2
            clear hHeld2
            refine wpAnyH_ready (rs := [2]) (by kernel_rfl) (by simp) (AllReadyH.cons (at_drop (i := 2) rfl) (fun K2 hK => ?_) (AllReadyH.nil))
            refine step_append_rv rfl (.tmp 25) (.tmp 26) 25 rfl V0.heap.size 55 i0 _ 6 48 Tryd.underlying25 hi0 hy0 hy1 hy2 rfl (by decide) _ 0 [] rfl OW.out ⟨lb, 0, none⟩ n cn (inVs (scF rs) (n * 6)) rfl (by rw [inVs_len]) (rc_news (fun i hi => (H.out i hi).block (hHeld.block _ HLB.out))) rc_one (by unfold maxLen; omega) (by omega) hHeld.size ?_
            intro v5 Z132 hown hgrow
            have hb0 : Below V0.heap.size Z131 Z132 := (Below.refl _ _).grown hgrow hHeld.size (fun k e => (OW.out.lt k e).1)
            obtain ⟨gl, cA, rfl, hgl, hls⟩ := own_rc (by simpa using hown) hn1
            have HLS := Lib.hid hls
            have HGL := Lib.hid hgl
            replace HFL := Lib.hid (HFL.out.block (hgrow.block _ HFL.out.lt (rown_nei OW.out HFL.out)))
            replace HTK := Lib.hid (HTK.out.block (hgrow.block _ HTK.out.lt (rown_nei OW.out HTK.out)))
            replace HV := Lib.hid (HV.out.of_block (hgrow.block _ HV.out.lt (rown_ne OW.out HV.out (by decide))))
            refine hK.out _ _ (hHeld.trans hb0) (fun hHeld2 => ?_)
            clear hK hHeld hb0 hown hgrow hls hgl OW
            have hHeld := hHeld2
            clear hHeld2
            simp only [Act.put, List.setIfInBounds_toArray, List.set_cons_zero, List.set_cons_succ]
            refine take_do (i := 7) (v := (.agg #[.slice (some ⟨gl, 0, none⟩) n cA, .slice (some ⟨gf, 0, none⟩) n n, .slice (some ⟨gt, 0, none⟩) n n, .int .i64 0, .int .i64 0])) rfl (by kernel_rfl) (by kernel_rfl) (by kernel_rfl) (fun _ _ _ h => h) (by rfl) ?_ (by assumption) ?_
            · intro w hSw
              skip
              go_simp
            simp only [Act.put, List.setIfInBounds_toArray, List.set_cons_zero, List.set_cons_succ]
            obtain ⟨WF, HWF, HRM, HBF, ⟨o0, o1, o2, o3, o4⟩, ⟨z0, z1, z2, z3, z4⟩, hol⟩ := rr_leaf (gl := gl) (cA := cA) HSL.out hHeld HV.out HLS.out HFL.out HTK.out HPO.out HGF.out HGT.out HGL.out HNE.out
            refine take_call (i := 9) rfl (by kernel_rfl) (fun K2 hK => ?_)
            go_simp
            rw [← HWF.out]
            refine hK.out _ _ HBF.out (fun _ => ?_)
            clear hK HWF
            refine wpAnyH_done (by kernel_rfl) ?_ _
            go_wp2_with fail
            go_meet
            case rel => exact ⟨po, gl, cA, gf, gt, rfl, HRM⟩
        · have hlt9 := HTK.out.lt
          obtain ⟨Z133, hZ133⟩ : ∃ Z', Z' = Z127.alloc (mkO n) := ⟨_, rfl⟩
          have hb : Below Z127.heap.size Z127 Z133 := by rw [hZ133]; exact rbel _ _
          replace HTK := Lib.hid (HTK.out.block (hb.block _ HTK.out.lt))
          replace HV := Lib.hid (rrow_below HV.out hb)
          have HFL : Hid (InBlk Z127.heap.size n (fun _ => 0) Z133) := by show InBlk _ _ _ _; rw [hZ133]; exact made_blk Z127 n
          obtain ⟨gf, hg0⟩ : ∃ g, g = Z127.heap.size := ⟨_, rfl⟩
          rw [← hg0] at HFL
          have HGF : Hid (V0.heap.size ≤ gf) := by show _ ≤ _; rw [hg0]; exact hHeld.size
          have HNE : Hid (gf ≠ gt) := by show gf ≠ gt; omega
          clear hlt9
          go_simp
          rw [← hZ133, ← hg0]
          clear hg0
          clear hZ133
          refine hK.out _ _ (hHeld.trans (hb.mono hHeld.size)) (fun hHeld2 => ?_)
          clear hK hHeld hb
          have hHeld := hHeld2
          clear hHeld2
          refine wpAnyH_ready (rs := [0]) (by kernel_rfl) (by simp) (AllReadyH.cons (at_drop (i := 0) rfl) (fun K2 hK => ?_) (AllReadyH.nil))
          obtain ⟨Z134, hZ134⟩ : ∃ Z', Z' = Z133.alloc (.cells #[] 55) := ⟨_, rfl⟩
          have hb : Below Z133.heap.size Z133 Z134 := by rw [hZ134]; exact rbel _ _
          replace HFL := Lib.hid (HFL.out.block (hb.block _ HFL.out.lt))
          replace HTK := Lib.hid (HTK.out.block (hb.block _ HTK.out.lt))
          replace HV := Lib.hid (rrow_below HV.out hb)
          have OW : Hid (Z134.ownsRow V0.heap.size 55 6 (.slice (some ⟨Z133.heap.size, 0, none⟩) 0 0) 0 []) := by show World.ownsRow _ _ _ _ _ _ _; rw [hZ134]; exact World.ownsRow_made Z133 #[] 0 hHeld.size (Nat.zero_le _) rfl
          go_simp
          rw [← hZ134]
          clear hZ134
          refine hK.out _ _ (hHeld.trans (hb.mono hHeld.size)) (fun hHeld2 => ?_)
          clear hK hHeld hb
          have hHeld := hHeld2
          clear hHeld2
          refine wpAnyH_ready (rs := [2]) (by kernel_rfl) (by simp) (AllReadyH.cons (at_drop (i := 2) rfl) (fun K2 hK => ?_) (AllReadyH.nil))
          refine step_append_rv rfl (.tmp 25) (.tmp 26) 25 rfl V0.heap.size 55 i0 _ 6 48 Tryd.underlying25 hi0 hy0 hy1 hy2 rfl (by decide) _ 0 [] rfl OW.out ⟨lb, 0, none⟩ n cn (inVs (scF rs) (n * 6)) rfl (by rw [inVs_len]) (rc_news (fun i hi => (H.out i hi).block (hHeld.block _ HLB.out))) rc_one (by unfold maxLen; omega) (by omega) hHeld.size ?_
          intro v5 Z135 hown hgrow
          have hb0 : Below V0.heap.size Z134 Z135 := (Below.refl _ _).grown hgrow hHeld.size (fun k e => (OW.out.lt k e).1)
          obtain ⟨gl, cA, rfl, hgl, hls⟩ := own_rc (by simpa using hown) hn1
          have HLS := Lib.hid hls
          have HGL := Lib.hid hgl
          replace HFL := Lib.hid (HFL.out.block (hgrow.block _ HFL.out.lt (rown_nei OW.out HFL.out)))
          replace HTK := Lib.hid (HTK.out.block (hgrow.block _ HTK.out.lt (rown_nei OW.out HTK.out)))
          replace HV := Lib.hid (HV.out.of_block (hgrow.block _ HV.out.lt (rown_ne OW.out HV.out (by decide))))
          refine hK.out _ _ (hHeld.trans hb0) (fun hHeld2 => ?_)
          clear hK hHeld hb0 hown hgrow hls hgl OW
          have hHeld := hHeld2
          clear hHeld2
          simp only [Act.put, List.setIfInBounds_toArray, List.set_cons_zero, List.set_cons_succ]
          refine take_do (i := 7) (v := (.agg #[.slice (some ⟨gl, 0, none⟩) n cA, .slice (some ⟨gf, 0, none⟩) n n, .slice (some ⟨gt, 0, none⟩) n n, .int .i64 0, .int .i64 0])) rfl (by kernel_rfl) (by kernel_rfl) (by kernel_rfl) (fun _ _ _ h => h) (by rfl) ?_ (by assumption) ?_
          · intro w hSw
            skip
            go_simp
          simp only [Act.put, List.setIfInBounds_toArray, List.set_cons_zero, List.set_cons_succ]
          obtain ⟨WF, HWF, HRM, HBF, ⟨o0, o1, o2, o3, o4⟩, ⟨z0, z1, z2, z3, z4⟩, hol⟩ := rr_leaf (gl := gl) (cA := cA) HSL.out hHeld HV.out HLS.out HFL.out HTK.out HPO.out HGF.out HGT.out HGL.out HNE.out
          refine take_call (i := 9) rfl (by kernel_rfl) (fun K2 hK => ?_)
          go_simp
          rw [← HWF.out]
          refine hK.out _ _ HBF.out (fun _ => ?_)
          clear hK HWF
          refine wpAnyH_done (by kernel_rfl) ?_ _
          go_wp2_with fail
          go_meet
          case rel => exact ⟨po, gl, cA, gf, gt, rfl, HRM⟩
    · obtain ⟨Z136, hZ136⟩ : ∃ Z', Z' = Z.alloc (.cells #[.slice none 0 0, .slice none 0 0, .slice none 0 0, .int .i64 0, .int .i64 0] 27) := ⟨_, rfl⟩
      have hb : Below Z.heap.size Z Z136 := by rw [hZ136]; exact rbel _ _
      have HV : Hid (Z136.rowIs Z.heap.size 27 5 (ro5 (.slice none 0 0) (.slice none 0 0) (.slice none 0 0) 0 0)) := by show World.rowIs _ _ _ _ _; rw [hZ136]; exact World.rowIs_alloc Z #[.slice none 0 0, .slice none 0 0, .slice none 0 0, .int .i64 0, .int .i64 0] 27 _ (ro5_row (.slice none 0 0) (.slice none 0 0) (.slice none 0 0) 0 0)
      obtain ⟨po, hg0⟩ : ∃ g, g = Z.heap.size := ⟨_, rfl⟩
      rw [← hg0] at HV
      have HPO : Hid (V0.heap.size ≤ po) := by show _ ≤ _; rw [hg0]; exact hHeld.size
      go_simp
      rw [← hZ136, ← hg0]
      clear hg0
      clear hZ136
      refine hK.out _ _ (hHeld.trans (hb.mono hHeld.size)) (fun hHeld2 => ?_)
      clear hK hHeld hb
      have hHeld := hHeld2
      clear hHeld2
      refine wpAnyH_ready (rs := [0, 4, 6]) (by kernel_rfl) (by simp) (AllReadyH.cons (at_drop (i := 0) rfl) (fun K2 hK => ?_) (AllReadyH.cons (at_drop (i := 4) rfl) (fun K2 hK => ?_) (AllReadyH.cons (at_drop (i := 6) rfl) (fun K2 hK => ?_) (AllReadyH.nil))))
      · obtain ⟨Z137, hZ137⟩ : ∃ Z', Z' = Z136.alloc (.cells #[] 55) := ⟨_, rfl⟩
        have hb : Below Z136.heap.size Z136 Z137 := by rw [hZ137]; exact rbel _ _
        replace HV := Lib.hid (rrow_below HV.out hb)
        have OW : Hid (Z137.ownsRow V0.heap.size 55 6 (.slice (some ⟨Z136.heap.size, 0, none⟩) 0 0) 0 []) := by show World.ownsRow _ _ _ _ _ _ _; rw [hZ137]; exact World.ownsRow_made Z136 #[] 0 hHeld.size (Nat.zero_le _) rfl
        go_simp
        rw [← hZ137]
        clear hZ137
        refine hK.out _ _ (hHeld.trans (hb.mono hHeld.size)) (fun hHeld2 => ?_)
        clear hK hHeld hb
        have hHeld := hHeld2
        clear hHeld2
        refine wpAnyH_ready (rs := [2, 4, 6]) (by kernel_rfl) (by simp) (AllReadyH.cons (at_drop (i := 2) rfl) (fun K2 hK => ?_) (AllReadyH.cons (at_drop (i := 4) rfl) (fun K2 hK => ?_) (AllReadyH.cons (at_drop (i := 6) rfl) (fun K2 hK => ?_) (AllReadyH.nil))))
        · refine step_append_rv rfl (.tmp 25) (.tmp 26) 25 rfl V0.heap.size 55 i0 _ 6 48 Tryd.underlying25 hi0 hy0 hy1 hy2 rfl (by decide) _ 0 [] rfl OW.out ⟨lb, 0, none⟩ n cn (inVs (scF rs) (n * 6)) rfl (by rw [inVs_len]) (rc_news (fun i hi => (H.out i hi).block (hHeld.block _ HLB.out))) rc_one (by unfold maxLen; omega) (by omega) hHeld.size ?_
          intro v5 Z138 hown hgrow
          have hb0 : Below V0.heap.size Z137 Z138 := (Below.refl _ _).grown hgrow hHeld.size (fun k e => (OW.out.lt k e).1)
          obtain ⟨gl, cA, rfl, hgl, hls⟩ := own_rc (by simpa using hown) hn1
          have HLS := Lib.hid hls
          have HGL := Lib.hid hgl
          replace HV := Lib.hid (HV.out.of_block (hgrow.block _ HV.out.lt (rown_ne OW.out HV.out (by decide))))
          refine hK.out _ _ (hHeld.trans hb0) (fun hHeld2 => ?_)
          clear hK hHeld hb0 hown hgrow hls hgl OW
          have hHeld := hHeld2
          clear hHeld2
          simp only [Act.put, List.setIfInBounds_toArray, List.set_cons_zero, List.set_cons_succ]
          refine wpAnyH_ready (rs := [4, 6]) (by kernel_rfl) (by simp) (AllReadyH.cons (at_drop (i := 4) rfl) (fun K2 hK => ?_) (AllReadyH.cons (at_drop (i := 6) rfl) (fun K2 hK => ?_) (AllReadyH.nil)))
          · obtain ⟨Z139, hZ139⟩ : ∃ Z', Z' = Z138.alloc (mkO n) := ⟨_, rfl⟩
            have hb : Below Z138.heap.size Z138 Z139 := by rw [hZ139]; exact rbel _ _
            replace HLS := Lib.hid (HLS.out.block (hb.block _ HLS.out.lt))
            replace HV := Lib.hid (rrow_below HV.out hb)
            have HFL : Hid (InBlk Z138.heap.size n (fun _ => 0) Z139) := by show InBlk _ _ _ _; rw [hZ139]; exact made_blk Z138 n
            obtain ⟨gf, hg0⟩ : ∃ g, g = Z138.heap.size := ⟨_, rfl⟩
            rw [← hg0] at HFL
            have HGF : Hid (V0.heap.size ≤ gf) := by show _ ≤ _; rw [hg0]; exact hHeld.size
            go_simp
            rw [← hZ139, ← hg0]
            clear hg0
            clear hZ139
            refine hK.out _ _ (hHeld.trans (hb.mono hHeld.size)) (fun hHeld2 => ?_)
            clear hK hHeld hb
            have hHeld := hHeld2
            clear hHeld2
            refine wpAnyH_ready (rs := [6]) (by kernel_rfl) (by simp) (AllReadyH.cons (at_drop (i := 6) rfl) (fun K2 hK => ?_) (AllReadyH.nil))
            have hlt9 := HFL.out.lt
            obtain ⟨Z140, hZ140⟩ : ∃ Z', Z' = Z139.alloc (mkO n) := ⟨_, rfl⟩
            have hb : Below Z139.heap.size Z139 Z140 := by rw [hZ140]; exact rbel _ _
            replace HLS := Lib.hid (HLS.out.block (hb.block _ HLS.out.lt))
            replace HFL := Lib.hid (HFL.out.block (hb.block _ HFL.out.lt))
            replace HV := Lib.hid (rrow_below HV.out hb)
            have HTK : Hid (InBlk Z139.heap.size n (fun _ => 0) Z140) := by show InBlk _ _ _ _; rw [hZ140]; exact made_blk Z139 n
            obtain ⟨gt, hg0⟩ : ∃ g, g = Z139.heap.size := ⟨_, rfl⟩
            rw [← hg0] at HTK
            have HGT : Hid (V0.heap.size ≤ gt) := by show _ ≤ _; rw [hg0]; exact hHeld.size
            have HNE : Hid (gf ≠ gt) := by show gf ≠ gt; omega
            clear hlt9
            go_simp
            rw [← hZ140, ← hg0]
            clear hg0
            clear hZ140
            refine hK.out _ _ (hHeld.trans (hb.mono hHeld.size)) (fun hHeld2 => ?_)
            clear hK hHeld hb
            have hHeld := hHeld2
            clear hHeld2
            refine take_do (i := 7) (v := (.agg #[.slice (some ⟨gl, 0, none⟩) n cA, .slice (some ⟨gf, 0, none⟩) n n, .slice (some ⟨gt, 0, none⟩) n n, .int .i64 0, .int .i64 0])) rfl (by kernel_rfl) (by kernel_rfl) (by kernel_rfl) (fun _ _ _ h => h) (by rfl) ?_ (by assumption) ?_
            · intro w hSw
              skip
              go_simp
            simp only [Act.put, List.setIfInBounds_toArray, List.set_cons_zero, List.set_cons_succ]
            obtain ⟨WF, HWF, HRM, HBF, ⟨o0, o1, o2, o3, o4⟩, ⟨z0, z1, z2, z3, z4⟩, hol⟩ := rr_leaf (gl := gl) (cA := cA) HSL.out hHeld HV.out HLS.out HFL.out HTK.out HPO.out HGF.out HGT.out HGL.out HNE.out
            refine take_call (i := 9) rfl (by kernel_rfl) (fun K2 hK => ?_)
            go_simp
            rw [← HWF.out]
            refine hK.out _ _ HBF.out (fun _ => ?_)
            clear hK HWF
            refine wpAnyH_done (by kernel_rfl) ?_ _
            go_wp2_with fail
            go_meet
            case rel => exact ⟨po, gl, cA, gf, gt, rfl, HRM⟩
          · obtain ⟨Z141, hZ141⟩ : ∃ Z', Z' = Z138.alloc (mkO n) := ⟨_, rfl⟩
            have hb : Below Z138.heap.size Z138 Z141 := by rw [hZ141]; exact rbel _ _
            replace HLS := Lib.hid (HLS.out.block (hb.block _ HLS.out.lt))
            replace HV := Lib.hid (rrow_below HV.out hb)
            have HTK : Hid (InBlk Z138.heap.size n (fun _ => 0) Z141) := by show InBlk _ _ _ _; rw [hZ141]; exact made_blk Z138 n
            obtain ⟨gt, hg0⟩ : ∃ g, g = Z138.heap.size := ⟨_, rfl⟩
            rw [← hg0] at HTK
            have HGT : Hid (V0.heap.size ≤ gt) := by show _ ≤ _; rw [hg0]; exact hHeld.size
            go_simp
            rw [← hZ141, ← hg0]
            clear hg0
            clear hZ141
            refine hK.out _ _ (hHeld.trans (hb.mono hHeld.size)) (fun hHeld2 => ?_)
            clear hK hHeld hb
            have hHeld := hHeld2
            clear hHeld2
            refine wpAnyH_ready (rs := [4]) (by kernel_rfl) (by simp) (AllReadyH.cons (at_drop (i := 4) rfl) (fun K2 hK => ?_) (AllReadyH.nil))
            have hlt9 := HTK.out.lt
            obtain ⟨Z142, hZ142⟩ : ∃ Z', Z' = Z141.alloc (mkO n) := ⟨_, rfl⟩
            have hb : Below Z141.heap.size Z141 Z142 := by rw [hZ142]; exact rbel _ _
            replace HLS := Lib.hid (HLS.out.block (hb.block _ HLS.out.lt))
            replace HTK := Lib.hid (HTK.out.block (hb.block _ HTK.out.lt))
            replace HV := Lib.hid (rrow_below HV.out hb)
            have HFL : Hid (InBlk Z141.heap.size n (fun _ => 0) Z142) := by show InBlk _ _ _ _; rw [hZ142]; exact made_blk Z141 n
            obtain ⟨gf, hg0⟩ : ∃ g, g = Z141.heap.size := ⟨_, rfl⟩
            rw [← hg0] at HFL
            have HGF : Hid (V0.heap.size ≤ gf) := by show _ ≤ _; rw [hg0]; exact hHeld.size
            have HNE : Hid (gf ≠ gt) := by show gf ≠ gt; omega
            clear hlt9
            go_simp
            rw [← hZ142, ← hg0]
            clear hg0
            clear hZ142
            refine hK.out _ _ (hHeld.trans (hb.mono hHeld.size)) (fun hHeld2 => ?_)
            clear hK hHeld hb
            have hHeld := hHeld2
            clear hHeld2
            refine take_do (i := 7) (v := (.agg #[.slice (some ⟨gl, 0, none⟩) n cA, .slice (some ⟨gf, 0, none⟩) n n, .slice (some ⟨gt, 0, none⟩) n n, .int .i64 0, .int .i64 0])) rfl (by kernel_rfl) (by kernel_rfl) (by kernel_rfl) (fun _ _ _ h => h) (by rfl) ?_ (by assumption) ?_
            · intro w hSw
              skip
              go_simp
            simp only [Act.put, List.setIfInBounds_toArray, List.set_cons_zero, List.set_cons_succ]
            obtain ⟨WF, HWF, HRM, HBF, ⟨o0, o1, o2, o3, o4⟩, ⟨z0, z1, z2, z3, z4⟩, hol⟩ := rr_leaf (gl := gl) (cA := cA) HSL.out hHeld HV.out HLS.out HFL.out HTK.out HPO.out HGF.out HGT.out HGL.out HNE.out
            refine take_call (i := 9) rfl (by kernel_rfl) (fun K2 hK => ?_)
            go_simp
            rw [← HWF.out]
            refine hK.out _ _ HBF.out (fun _ => ?_)
            clear hK HWF
            refine wpAnyH_done (by kernel_rfl) ?_ _
            go_wp2_with fail
            go_meet
            case rel => exact ⟨po, gl, cA, gf, gt, rfl, HRM⟩
        · obtain ⟨Z143, hZ143⟩ : ∃ Z', Z' = Z137.alloc (mkO n) := ⟨_, rfl⟩
          have hb : Below Z137.heap.size Z137 Z143 := by rw [hZ143]; exact rbel _ _
          replace OW := Lib.hid (rown_below OW.out hb)
          replace HV := Lib.hid (rrow_below HV.out hb)
          have HFL : Hid (InBlk Z137.heap.size n (fun _ => 0) Z143) := by show InBlk _ _ _ _; rw [hZ143]; exact made_blk Z137 n
          obtain ⟨gf, hg0⟩ : ∃ g, g = Z137.heap.size := ⟨_, rfl⟩
          rw [← hg0] at HFL
          have HGF : Hid (V0.heap.size ≤ gf) := by show _ ≤ _; rw [hg0]; exact hHeld.size
          go_simp
          rw [← hZ143, ← hg0]
          clear hg0
          clear hZ143
          refine hK.out _ _ (hHeld.trans (hb.mono hHeld.size)) (fun hHeld2 => ?_)
          clear hK hHeld hb
          have hHeld := hHeld2
          clear hHeld2
          refine wpAnyH_ready (rs := [2, 6]) (by kernel_rfl) (by simp) (AllReadyH.cons (at_drop (i := 2) rfl) (fun K2 hK => ?_) (AllReadyH.cons (at_drop (i := 6) rfl) (fun K2 hK => ?_) (AllReadyH.nil)))
          · refine step_append_rv rfl (.tmp 25) (.tmp 26) 25 rfl V0.heap.size 55 i0 _ 6 48 Tryd.underlying25 hi0 hy0 hy1 hy2 rfl (by decide) _ 0 [] rfl OW.out ⟨lb, 0, none⟩ n cn (inVs (scF rs) (n * 6)) rfl (by rw [inVs_len]) (rc_news (fun i hi => (H.out i hi).block (hHeld.block _ HLB.out))) rc_one (by unfold maxLen; omega) (by omega) hHeld.size ?_
            intro v5 Z144 hown hgrow
            have hb0 : Below V0.heap.size Z143 Z144 := (Below.refl _ _).grown hgrow hHeld.size (fun k e => (OW.out.lt k e).1)
            obtain ⟨gl, cA, rfl, hgl, hls⟩ := own_rc (by simpa using hown) hn1
            have HLS := Lib.hid hls
            have HGL := Lib.hid hgl
            replace HFL := Lib.hid (HFL.out.block (hgrow.block _ HFL.out.lt (rown_nei OW.out HFL.out)))
            replace HV := Lib.hid (HV.out.of_block (hgrow.block _ HV.out.lt (rown_ne OW.out HV.out (by decide))))
            refine hK.out _ _ (hHeld.trans hb0) (fun hHeld2 => ?_)
            clear hK hHeld hb0 hown hgrow hls hgl OW
            have hHeld := hHeld2
            clear hHeld2
            simp only [Act.put, List.setIfInBounds_toArray, List.set_cons_zero, List.set_cons_succ]
            refine wpAnyH_ready (rs := [6]) (by kernel_rfl) (by simp) (AllReadyH.cons (at_drop (i := 6) rfl) (fun K2 hK => ?_) (AllReadyH.nil))
            have hlt9 := HFL.out.lt
            obtain ⟨Z145, hZ145⟩ : ∃ Z', Z' = Z144.alloc (mkO n) := ⟨_, rfl⟩
            have hb : Below Z144.heap.size Z144 Z145 := by rw [hZ145]; exact rbel _ _
            replace HLS := Lib.hid (HLS.out.block (hb.block _ HLS.out.lt))
            replace HFL := Lib.hid (HFL.out.block (hb.block _ HFL.out.lt))
            replace HV := Lib.hid (rrow_below HV.out hb)
            have HTK : Hid (InBlk Z144.heap.size n (fun _ => 0) Z145) := by show InBlk _ _ _ _; rw [hZ145]; exact made_blk Z144 n
            obtain ⟨gt, hg0⟩ : ∃ g, g = Z144.heap.size := ⟨_, rfl⟩
            rw [← hg0] at HTK
            have HGT : Hid (V0.heap.size ≤ gt) := by show _ ≤ _; rw [hg0]; exact hHeld.size
            have HNE : Hid (gf ≠ gt) := by show gf ≠ gt; omega
            clear hlt9
            go_simp
            rw [← hZ145, ← hg0]
            clear hg0
            clear hZ145
            refine hK.out _ _ (hHeld.trans (hb.mono hHeld.size)) (fun hHeld2 => ?_)
            clear hK hHeld hb
            have hHeld := hHeld2
            clear hHeld2
            refine take_do (i := 7) (v := (.agg #[.slice (some ⟨gl, 0, none⟩) n cA, .slice (some ⟨gf, 0, none⟩) n n, .slice (some ⟨gt, 0, none⟩) n n, .int .i64 0, .int .i64 0])) rfl (by kernel_rfl) (by kernel_rfl) (by kernel_rfl) (fun _ _ _ h => h) (by rfl) ?_ (by assumption) ?_
            · intro w hSw
              skip
              go_simp
            simp only [Act.put, List.setIfInBounds_toArray, List.set_cons_zero, List.set_cons_succ]
            obtain ⟨WF, HWF, HRM, HBF, ⟨o0, o1, o2, o3, o4⟩, ⟨z0, z1, z2, z3, z4⟩, hol⟩ := rr_leaf (gl := gl) (cA := cA) HSL.out hHeld HV.out HLS.out HFL.out HTK.out HPO.out HGF.out HGT.out HGL.out HNE.out
            refine take_call (i := 9) rfl (by kernel_rfl) (fun K2 hK => ?_)
            go_simp
            rw [← HWF.out]
            refine hK.out _ _ HBF.out (fun _ => ?_)
            clear hK HWF
            refine wpAnyH_done (by kernel_rfl) ?_ _
            go_wp2_with fail
            go_meet
            case rel => exact ⟨po, gl, cA, gf, gt, rfl, HRM⟩
          · have hlt9 := HFL.out.lt
            obtain ⟨Z146, hZ146⟩ : ∃ Z', Z' = Z143.alloc (mkO n) := ⟨_, rfl⟩
            have hb : Below Z143.heap.size Z143 Z146 := by rw [hZ146]; exact rbel _ _
            replace OW := Lib.hid (rown_below OW.out hb)
            replace HFL := Lib.hid (HFL.out.block (hb.block _ HFL.out.lt))
            replace HV := Lib.hid (rrow_below HV.out hb)
            have HTK : Hid (InBlk Z143.heap.size n (fun _ => 0) Z146) := by show InBlk _ _ _ _; rw [hZ146]; exact made_blk Z143 n
            obtain ⟨gt, hg0⟩ : ∃ g, g = Z143.heap.size := ⟨_, rfl⟩
            rw [← hg0] at HTK
            have HGT : Hid (V0.heap.size ≤ gt) := by show _ ≤ _; rw [hg0]; exact hHeld.size
            have HNE : Hid (gf ≠ gt) := by show gf ≠ gt; omega
            clear hlt9
            go_simp
            rw [← hZ146, ← hg0]
            clear hg0
            clear hZ146
            refine hK.out _ _ (hHeld.trans (hb.mono hHeld.size)) (fun hHeld2 => ?_)
            clear hK hHeld hb
            have hHeld := hHeld2
            clear hHeld2
            refine wpAnyH_ready (rs := [2]) (by kernel_rfl) (by simp) (AllReadyH.cons (at_drop (i := 2) rfl) (fun K2 hK => ?_) (AllReadyH.nil))
            refine step_append_rv rfl (.tmp 25) (.tmp 26) 25 rfl V0.heap.size 55 i0 _ 6 48 Tryd.underlying25 hi0 hy0 hy1 hy2 rfl (by decide) _ 0 [] rfl OW.out ⟨lb, 0, none⟩ n cn (inVs (scF rs) (n * 6)) rfl (by rw [inVs_len]) (rc_news (fun i hi => (H.out i hi).block (hHeld.block _ HLB.out))) rc_one (by unfold maxLen; omega) (by omega) hHeld.size ?_
            intro v5 Z147 hown hgrow
            have hb0 : Below V0.heap.size Z146 Z147 := (Below.refl _ _).grown hgrow hHeld.size (fun k e => (OW.out.lt k e).1)
            obtain ⟨gl, cA, rfl, hgl, hls⟩ := own_rc (by simpa using hown) hn1
            have HLS := Lib.hid hls
            have HGL := Lib.hid hgl
            replace HFL := Lib.hid (HFL.out.block (hgrow.block _ HFL.out.lt (rown_nei OW.out HFL.out)))
            replace HTK := Lib.hid (HTK.out.block (hgrow.block _ HTK.out.lt (rown_nei OW.out HTK.out)))
            replace HV := Lib.hid (HV.out.of_block (hgrow.block _ HV.out.lt (rown_ne OW.out HV.out (by decide))))
            refine hK.out _ _ (hHeld.trans hb0) (fun hHeld2 => ?_)
            clear hK hHeld hb0 hown hgrow hls hgl OW
            have hHeld := hHeld2
            clear hHeld2
            simp only [Act.put, List.setIfInBounds_toArray, List.set_cons_zero, List.set_cons_succ]
            refine take_do (i := 7) (v := (.agg #[.slice (some ⟨gl, 0, none⟩) n cA, .slice (some ⟨gf, 0, none⟩) n n, .slice (some ⟨gt, 0, none⟩) n n, .int .i64 0, .int .i64 0])) rfl (by kernel_rfl) (by kernel_rfl) (by kernel_rfl) (fun _ _ _ h => h) (by rfl) ?_ (by assumption) ?_
            · intro w hSw
              skip
              go_simp
            simp only [Act.put, List.setIfInBounds_toArray, List.set_cons_zero, List.set_cons_succ]
            obtain ⟨WF, HWF, HRM, HBF, ⟨o0, o1, o2, o3, o4⟩, ⟨z0, z1, z2, z3, z4⟩, hol⟩ := rr_leaf (gl := gl) (cA := cA) HSL.out hHeld HV.out HLS.out HFL.out HTK.out HPO.out HGF.out HGT.out HGL.out HNE.out
            refine take_call (i := 9) rfl (by kernel_rfl) (fun K2 hK => ?_)
            go_simp
            rw [← HWF.out]
            refine hK.out _ _ HBF.out (fun _ => ?_)
            clear hK HWF
            refine wpAnyH_done (by kernel_rfl) ?_ _
            go_wp2_with fail
            go_meet
            case rel => exact ⟨po, gl, cA, gf, gt, rfl, HRM⟩
        · obtain ⟨Z148, hZ148⟩ : ∃ Z', Z' = Z137.alloc (mkO n) := ⟨_, rfl⟩
          have hb : Below Z137.heap.size Z137 Z148 := by rw [hZ148]; exact rbel _ _
          replace OW := Lib.hid (rown_below OW.out hb)
          replace HV := Lib.hid (rrow_below HV.out hb)
          have HTK : Hid (InBlk Z137.heap.size n (fun _ => 0) Z148) := by show InBlk _ _ _ _; rw [hZ148]; exact made_blk Z137 n
          obtain ⟨gt, hg0⟩ : ∃ g, g = Z137.heap.size := ⟨_, rfl⟩
          rw [← hg0] at HTK
          have HGT : Hid (V0.heap.size ≤ gt) := by show _ ≤ _; rw [hg0]; exact hHeld.size
          go_simp
          rw [← hZ148, ← hg0]
          clear hg0
          clear hZ148
          refine hK.out _ _ (hHeld.trans (hb.mono hHeld.size)) (fun hHeld2 => ?_)
          clear hK hHeld hb
          have hHeld := hHeld2
          clear hHeld2
          refine wpAnyH_ready (rs := [2, 4]) (by kernel_rfl) (by simp) (AllReadyH.cons (at_drop (i := 2) rfl) (fun K2 hK => ?_) (AllReadyH.cons (at_drop (i := 4) rfl) (fun K2 hK => ?_) (AllReadyH.nil)))
          · refine step_append_rv rfl (.tmp 25) (.tmp 26) 25 rfl V0.heap.size 55 i0 _ 6 48 Tryd.underlying25 hi0 hy0 hy1 hy2 rfl (by decide) _ 0 [] rfl OW.out ⟨lb, 0, none⟩ n cn (inVs (scF rs) (n * 6)) rfl (by rw [inVs_len]) (rc_news (fun i hi => (H.out i hi).block (hHeld.block _ HLB.out))) rc_one (by unfold maxLen; omega) (by omega) hHeld.size ?_
            intro v5 Z149 hown hgrow
            have hb0 : Below V0.heap.size Z148 Z149 := (Below.refl _ _).grown hgrow hHeld.size (fun k e => (OW.out.lt k e).1)
            obtain ⟨gl, cA, rfl, hgl, hls⟩ := own_rc (by simpa using hown) hn1
            have HLS := Lib.hid hls
            have HGL := Lib.hid hgl
            replace HTK := Lib.hid (HTK.out.block (hgrow.block _ HTK.out.lt (rown_nei OW.out HTK.out)))
            replace HV := Lib.hid (HV.out.of_block (hgrow.block _ HV.out.lt (rown_ne OW.out HV.out (by decide))))
            refine hK.out _ _ (hHeld.trans hb0) (fun hHeld2 => ?_)
            clear hK hHeld hb0 hown hgrow hls hgl OW
            have hHeld := hHeld2
            clear hHeld2
            simp only [Act.put, List.setIfInBounds_toArray, List.set_cons_zero, List.set_cons_succ]
            refine wpAnyH_ready (rs := [4]) (by kernel_rfl) (by simp) (AllReadyH.cons (at_drop (i := 4) rfl) (fun K2 hK => ?_) (AllReadyH.nil))
            have hlt9 := HTK.out.lt
            obtain ⟨Z150, hZ150⟩ : ∃ Z', Z' = Z149.alloc (mkO n) := ⟨_, rfl⟩
            have hb : Below Z149.heap.size Z149 Z150 := by rw [hZ150]; exact rbel _ _
            replace HLS := Lib.hid (HLS.out.block (hb.block _ HLS.out.lt))
            replace HTK := Lib.hid (HTK.out.block (hb.block _ HTK.out.lt))
            replace HV := Lib.hid (rrow_below HV.out hb)
            have HFL : Hid (InBlk Z149.heap.size n (fun _ => 0) Z150) := by show InBlk _ _ _ _; rw [hZ150]; exact made_blk Z149 n
            obtain ⟨gf, hg0⟩ : ∃ g, g = Z149.heap.size := ⟨_, rfl⟩
            rw [← hg0] at HFL
            have HGF : Hid (V0.heap.size ≤ gf) := by show _ ≤ _; rw [hg0]; exact hHeld.size
            have HNE : Hid (gf ≠ gt) := by show gf ≠ gt; omega
            clear hlt9
            go_simp
            rw [← hZ150, ← hg0]
            clear hg0
            clear hZ150
            refine hK.out _ _ (hHeld.trans (hb.mono hHeld.size)) (fun hHeld2 => ?_)
            clear hK hHeld hb
            have hHeld := hHeld2
            clear hHeld2
            refine take_do (i := 7) (v := (.agg #[.slice (some ⟨gl, 0, none⟩) n cA, .slice (some ⟨gf, 0, none⟩) n n, .slice (some ⟨gt, 0, none⟩) n n, .int .i64 0, .int .i64 0])) rfl (by kernel_rfl) (by kernel_rfl) (by kernel_rfl) (fun _ _ _ h => h) (by rfl) ?_ (by assumption) ?_
            · intro w hSw
              skip
              go_simp
            simp only [Act.put, List.setIfInBounds_toArray, List.set_cons_zero, List.set_cons_succ]
            obtain ⟨WF, HWF, HRM, HBF, ⟨o0, o1, o2, o3, o4⟩, ⟨z0, z1, z2, z3, z4⟩, hol⟩ := rr_leaf (gl := gl) (cA := cA) HSL.out hHeld HV.out HLS.out HFL.out HTK.out HPO.out HGF.out HGT.out HGL.out HNE.out
            refine take_call (i := 9) rfl (by kernel_rfl) (fun K2 hK => ?_)
            go_simp
            rw [← HWF.out]
            refine hK.out _ _ HBF.out (fun _ => ?_)
            clear hK HWF
            refine wpAnyH_done (by kernel_rfl) ?_ _
            go_wp2_with fail
            go_meet
            case rel => exact ⟨po, gl, cA, gf, gt, rfl, HRM⟩
          · have hlt9 := HTK.out.lt
            obtain ⟨Z151, hZ151⟩ : ∃ Z', Z' = Z148.alloc (mkO n) := ⟨_, rfl⟩
            have hb : Below Z148.heap.size Z148 Z151 := by rw [hZ151]; exact rbel _ _
            replace OW := Lib.hid (rown_below OW.out hb)
            replace HTK := Lib.hid (HTK.out.block (hb.block _ HTK.out.lt))
            replace HV := Lib.hid (rrow_below HV.out hb)
            have HFL : Hid (InBlk Z148.heap.size n (fun _ => 0) Z151) := by show InBlk _ _ _ _; rw [hZ151]; exact made_blk Z148 n
            obtain ⟨gf, hg0⟩ : ∃ g, g = Z148.heap.size := ⟨_, rfl⟩
            rw [← hg0] at HFL
            have HGF : Hid (V0.heap.size ≤ gf) := by show _ ≤ _; rw [hg0]; exact hHeld.size
            have HNE : Hid (gf ≠ gt) := by show gf ≠ gt; omega
            clear hlt9
            go_simp
            rw [← hZ151, ← hg0]
            clear hg0
            clear hZ151
            refine hK.out _ _ (hHeld.trans (hb.mono hHeld.size)) (fun hHeld2 => ?_)
            clear hK hHeld hb
            have hHeld := hHeld2
            clear hHeld2
            refine wpAnyH_ready (rs := [2]) (by kernel_rfl) (by simp) (AllReadyH.cons (at_drop (i := 2) rfl) (fun K2 hK => ?_) (AllReadyH.nil))
            refine step_append_rv rfl (.tmp 25) (.tmp 26) 25 rfl V0.heap.size 55 i0 _ 6 48 Tryd.underlying25 hi0 hy0 hy1 hy2 rfl (by decide) _ 0 [] rfl OW.out ⟨lb, 0, none⟩ n cn (inVs (scF rs) (n * 6)) rfl (by rw [inVs_len]) (rc_news (fun i hi => (H.out i hi).block (hHeld.block _ HLB.out))) rc_one (by unfold maxLen; omega) (by omega) hHeld.size ?_
            intro v5 Z152 hown hgrow
            have hb0 : Below V0.heap.size Z151 Z152 := (Below.refl _ _).grown hgrow hHeld.size (fun k e => (OW.out.lt k e).1)
            obtain ⟨gl, cA, rfl, hgl, hls⟩ := own_rc (by simpa using hown) hn1
            have HLS := Lib.hid hls
            have HGL := Lib.hid hgl
            replace HFL := Lib.hid (HFL.out.block (hgrow.block _ HFL.out.lt (rown_nei OW.out HFL.out)))
            replace HTK := Lib.hid (HTK.out.block (hgrow.block _ HTK.out.lt (rown_nei OW.out HTK.out)))
            replace HV := Lib.hid (HV.out.of_block (hgrow.block _ HV.out.lt (rown_ne OW.out HV.out (by decide))))
            refine hK.out _ _ (hHeld.trans hb0) (fun hHeld2 => ?_)
            clear hK hHeld hb0 hown hgrow hls hgl OW
            have hHeld := hHeld2
            clear hHeld2
            simp only [Act.put, List.setIfInBounds_toArray, List.set_cons_zero, List.set_cons_succ]
            refine take_do (i := 7) (v := (.agg #[.slice (some ⟨gl, 0, none⟩) n cA, .slice (some ⟨gf, 0, none⟩) n n, .slice (some ⟨gt, 0, none⟩) n n, .int .i64 0, .int .i64 0])) rfl (by kernel_rfl) (by kernel_rfl) (by kernel_rfl) (fun _ _ _ h => h) (by rfl) ?_ (by assumption) ?_
            · intro w hSw
              skip
              go_simp
            simp only [Act.put, List.setIfInBounds_toArray, List.set_cons_zero, List.set_cons_succ]
            obtain ⟨WF, HWF, HRM, HBF, ⟨o0, o1, o2, o3, o4⟩, ⟨z0, z1, z2, z3, z4⟩, hol⟩ := rr_leaf (gl := gl) (cA := cA) HSL.out hHeld HV.out HLS.out HFL.out HTK.out HPO.out HGF.out HGT.out HGL.out HNE.out
            refine take_call (i := 9) rfl (by kernel_rfl) (fun K2 hK => ?_)
            go_simp
            rw [← HWF.out]
            refine hK.out _ _ HBF.out (fun _ => ?_)
            clear hK HWF
            refine wpAnyH_done (by kernel_rfl) ?_ _
            go_wp2_with fail
            go_meet
            case rel => exact ⟨po, gl, cA, gf, gt, rfl, HRM⟩
      · obtain ⟨Z153, hZ153⟩ : ∃ Z', Z' = Z136.alloc (mkO n) := ⟨_, rfl⟩
        have hb : Below Z136.heap.size Z136 Z153 := by rw [hZ153]; exact rbel _ _
        replace HV := Lib.hid (rrow_below HV.out hb)
        have HFL : Hid (InBlk Z136.heap.size n (fun _ => 0) Z153) := by show InBlk _ _ _ _; rw [hZ153]; exact made_blk Z136 n
        obtain ⟨gf, hg0⟩ : ∃ g, g = Z136.heap.size := ⟨_, rfl⟩
        rw [← hg0] at HFL
        have HGF : Hid (V0.heap.size ≤ gf) := by show _ ≤ _; rw [hg0]; exact hHeld.size
        go_simp
        rw [← hZ153, ← hg0]
        clear hg0
        clear hZ153
        refine hK.out _ _ (hHeld.trans (hb.mono hHeld.size)) (fun hHeld2 => ?_)
        clear hK hHeld hb
        have hHeld := hHeld2
        clear hHeld2
        refine wpAnyH_ready (rs := [0, 6]) (by kernel_rfl) (by simp) (AllReadyH.cons (at_drop (i := 0) rfl) (fun K2 hK => ?_) (AllReadyH.cons (at_drop (i := 6) rfl) (fun K2 hK => ?_) (AllReadyH.nil)))
        · obtain ⟨Z154, hZ154⟩ : ∃ Z', Z' = Z153.alloc (.cells #[] 55) := ⟨_, rfl⟩
          have hb : Below Z153.heap.size Z153 Z154 := by rw [hZ154]; exact rbel _ _
          replace HFL := Lib.hid (HFL.out.block (hb.block _ HFL.out.lt))
          replace HV := Lib.hid (rrow_below HV.out hb)
          have OW : Hid (Z154.ownsRow V0.heap.size 55 6 (.slice (some ⟨Z153.heap.size, 0, none⟩) 0 0) 0 []) := by show World.ownsRow _ _ _ _ _ _ _; rw [hZ154]; exact World.ownsRow_made Z153 #[] 0 hHeld.size (Nat.zero_le _) rfl
          go_simp
          rw [← hZ154]
          clear hZ154
          refine hK.out _ _ (hHeld.trans (hb.mono hHeld.size)) (fun hHeld2 => ?_)
          clear hK hHeld hb
          have hHeld := hHeld2
          clear hHeld2
          refine wpAnyH_ready (rs := [2, 6]) (by kernel_rfl) (by simp) (AllReadyH.cons (at_drop (i := 2) rfl) (fun K2 hK => ?_) (AllReadyH.cons (at_drop (i := 6) rfl) (fun K2 hK => ?_) (AllReadyH.nil)))
          · refine step_append_rv rfl (.tmp 25) (.tmp 26) 25 rfl V0.heap.size 55 i0 _ 6 48 Tryd.underlying25 hi0 hy0 hy1 hy2 rfl (by decide) _ 0 [] rfl OW.out ⟨lb, 0, none⟩ n cn (inVs (scF rs) (n * 6)) rfl (by rw [inVs_len]) (rc_news (fun i hi => (H.out i hi).block (hHeld.block _ HLB.out))) rc_one (by unfold maxLen; omega) (by omega) hHeld.size ?_
            intro v5 Z155 hown hgrow
            have hb0 : Below V0.heap.size Z154 Z155 := (Below.refl _ _).grown hgrow hHeld.size (fun k e => (OW.out.lt k e).1)
            obtain ⟨gl, cA, rfl, hgl, hls⟩ := own_rc (by simpa using hown) hn1
            have HLS := Lib.hid hls
            have HGL := Lib.hid hgl
            replace HFL := Lib.hid (HFL.out.block (hgrow.block _ HFL.out.lt (rown_nei OW.out HFL.out)))
            replace HV := Lib.hid (HV.out.of_block (hgrow.block _ HV.out.lt (rown_ne OW.out HV.out (by decide))))
            refine hK.out _ _ (hHeld.trans hb0) (fun hHeld2 => ?_)
            clear hK hHeld hb0 hown hgrow hls hgl OW
            have hHeld := hHeld2
            clear hHeld2
            simp only [Act.put, List.setIfInBounds_toArray, List.set_cons_zero, List.set_cons_succ]
            refine wpAnyH_ready (rs := [6]) (by kernel_rfl) (by simp) (AllReadyH.cons (at_drop (i := 6) rfl) (fun K2 hK => ?_) (AllReadyH.nil))
            have hlt9 := HFL.out.lt
            obtain ⟨Z156, hZ156⟩ : ∃ Z', Z' = Z155.alloc (mkO n) := ⟨_, rfl⟩
            have hb : Below Z155.heap.size Z155 Z156 := by rw [hZ156]; exact rbel _ _
            replace HLS := Lib.hid (HLS.out.block (hb.block _ HLS.out.lt))
            replace HFL := Lib.hid (HFL.out.block (hb.block _ HFL.out.lt))
            replace HV := Lib.hid (rrow_below HV.out hb)
            have HTK : Hid (InBlk Z155.heap.size n (fun _ => 0) Z156) := by show InBlk _ _ _ _; rw [hZ156]; exact made_blk Z155 n
            obtain ⟨gt, hg0⟩ : ∃ g, g = Z155.heap.size := ⟨_, rfl⟩
            rw [← hg0] at HTK
            have HGT : Hid (V0.heap.size ≤ gt) := by show _ ≤ _; rw [hg0]; exact hHeld.size
            have HNE : Hid (gf ≠ gt) := by show gf ≠ gt; omega
            clear hlt9
            go_simp
            rw [← hZ156, ← hg0]
            clear hg0
            clear hZ156
            refine hK.out _ _ (hHeld.trans (hb.mono hHeld.size)) (fun hHeld2 => ?_)
            clear hK hHeld hb
            have hHeld := hHeld2
            clear hHeld2
            refine take_do (i := 7) (v := (.agg #[.slice (some ⟨gl, 0, none⟩) n cA, .slice (some ⟨gf, 0, none⟩) n n, .slice (some ⟨gt, 0, none⟩) n n, .int .i64 0, .int .i64 0])) rfl (by kernel_rfl) (by kernel_rfl) (by kernel_rfl) (fun _ _ _ h => h) (by rfl) ?_ (by assumption) ?_
            · intro w hSw
              skip
              go_simp
            simp only [Act.put, List.setIfInBounds_toArray, List.set_cons_zero, List.set_cons_succ]
            obtain ⟨WF, HWF, HRM, HBF, ⟨o0, o1, o2, o3, o4⟩, ⟨z0, z1, z2, z3, z4⟩, hol⟩ := rr_leaf (gl := gl) (cA := cA) HSL.out hHeld HV.out HLS.out HFL.out HTK.out HPO.out HGF.out HGT.out HGL.out HNE.out
            refine take_call (i := 9) rfl (by kernel_rfl) (fun K2 hK => ?_)
            go_simp
            rw [← HWF.out]
            refine hK.out _ _ HBF.out (fun _ => ?_)
            clear hK HWF
            refine wpAnyH_done (by kernel_rfl) ?_ _
            go_wp2_with fail
            go_meet
            case rel => exact ⟨po, gl, cA, gf, gt, rfl, HRM⟩
          · have hlt9 := HFL.out.lt
            obtain ⟨Z157, hZ157⟩ : ∃ Z', Z' = Z154.alloc (mkO n) := ⟨_, rfl⟩
            have hb : Below Z154.heap.size Z154 Z157 := by rw [hZ157]; exact rbel _ _
            replace OW := Lib.hid (rown_below OW.out hb)
            replace HFL := Lib.hid (HFL.out.block (hb.block _ HFL.out.lt))
            replace HV := Lib.hid (rrow_below HV.out hb)
            have HTK : Hid (InBlk Z154.heap.size n (fun _ => 0) Z157) := by show InBlk _ _ _ _; rw [hZ157]; exact made_blk Z154 n
            obtain ⟨gt, hg0⟩ : ∃ g, g = Z154.heap.size := ⟨_, rfl⟩
            rw [← hg0] at HTK
            have HGT : Hid (V0.heap.size ≤ gt) := by show _ ≤ _; rw [hg0]; exact hHeld.size
            have HNE : Hid (gf ≠ gt) := by show gf ≠ gt; omega
            clear hlt9
            go_simp
            rw [← hZ157, ← hg0]
            clear hg0
            clear hZ157
            refine hK.out _ _ (hHeld.trans (hb.mono hHeld.size)) (fun hHeld2 => ?_)
            clear hK hHeld hb
            have hHeld := hHeld2
            clear hHeld2
            refine wpAnyH_ready (rs := [2]) (by kernel_rfl) (by simp) (AllReadyH.cons (at_drop (i := 2) rfl) (fun K2 hK => ?_) (AllReadyH.nil))
            refine step_append_rv rfl (.tmp 25) (.tmp 26) 25 rfl V0.heap.size 55 i0 _ 6 48 Tryd.underlying25 hi0 hy0 hy1 hy2 rfl (by decide) _ 0 [] rfl OW.out ⟨lb, 0, none⟩ n cn (inVs (scF rs) (n * 6)) rfl (by rw [inVs_len]) (rc_news (fun i hi => (H.out i hi).block (hHeld.block _ HLB.out))) rc_one (by unfold maxLen; omega) (by omega) hHeld.size ?_
            intro v5 Z158 hown hgrow
            have hb0 : Below V0.heap.size Z157 Z158 := (Below.refl _ _).grown hgrow hHeld.size (fun k e => (OW.out.lt k e).1)
            obtain ⟨gl, cA, rfl, hgl, hls⟩ := own_rc (by simpa using hown) hn1
            have HLS := Lib.hid hls
            have HGL := Lib.hid hgl
            replace HFL := Lib.hid (HFL.out.block (hgrow.block _ HFL.out.lt (rown_nei OW.out HFL.out)))
            replace HTK := Lib.hid (HTK.out.block (hgrow.block _ HTK.out.lt (rown_nei OW.out HTK.out)))
            replace HV := Lib.hid (HV.out.of_block (hgrow.block _ HV.out.lt (rown_ne OW.out HV.out (by decide))))
            refine hK.out _ _ (hHeld.trans hb0) (fun hHeld2 => ?_)
            clear hK hHeld hb0 hown hgrow hls hgl OW
            have hHeld := hHeld2
            clear hHeld2
            simp only [Act.put, List.setIfInBounds_toArray, List.set_cons_zero, List.set_cons_succ]
            refine take_do (i := 7) (v := (.agg #[.slice (some ⟨gl, 0, none⟩) n cA, .slice (some ⟨gf, 0, none⟩) n n, .slice (some ⟨gt, 0, none⟩) n n, .int .i64 0, .int .i64 0])) rfl (by kernel_rfl) (by kernel_rfl) (by kernel_rfl) (fun _ _ _ h => h) (by rfl) ?_ (by assumption) ?_
            · intro w hSw
              skip
              go_simp
            simp only [Act.put, List.setIfInBounds_toArray, List.set_cons_zero, List.set_cons_succ]
            obtain ⟨WF, HWF, HRM, HBF, ⟨o0, o1, o2, o3, o4⟩, ⟨z0, z1, z2, z3, z4⟩, hol⟩ := rr_leaf (gl := gl) (cA := cA) HSL.out hHeld HV.out HLS.out HFL.out HTK.out HPO.out HGF.out HGT.out HGL.out HNE.out
            refine take_call (i := 9) rfl (by kernel_rfl) (fun K2 hK => ?_)
            go_simp
            rw [← HWF.out]
            refine hK.out _ _ HBF.out (fun _ => ?_)
            clear hK HWF
            refine wpAnyH_done (by kernel_rfl) ?_ _
            go_wp2_with fail
            go_meet
            case rel => exact ⟨po, gl, cA, gf, gt, rfl, HRM⟩
        · have hlt9 := HFL.out.lt
          obtain ⟨Z159, hZ159⟩ : ∃ Z', Z' = Z153.alloc (mkO n) := ⟨_, rfl⟩
          have hb : Below Z153.heap.size Z153 Z159 := by rw [hZ159]; exact rbel _ _
          replace HFL := Lib.hid (HFL.out.block (hb.block _ HFL.out.lt))
          replace HV := Lib.hid (rrow_below HV.out hb)
          have HTK : Hid (InBlk Z153.heap.size n (fun _ => 0) Z159) := by show InBlk _ _ _ _; rw [hZ159]; exact made_blk Z153 n
          obtain ⟨gt, hg0⟩ : ∃ g, g = Z153.heap.size := ⟨_, rfl⟩
          rw [← hg0] at HTK
          have HGT : Hid (V0.heap.size ≤ gt) := by show _ ≤ _; rw [hg0]; exact hHeld.size
          have HNE : Hid (gf ≠ gt) := by show gf ≠ gt; omega
          clear hlt9
          go_simp
          rw [← hZ159, ← hg0]
          clear hg0
          clear hZ159
          refine hK.out _ _ (hHeld.trans (hb.mono hHeld.size)) (fun hHeld2 => ?_)
          clear hK hHeld hb
          have hHeld := hHeld2
          clear hHeld2
          refine wpAnyH_ready (rs := [0]) (by kernel_rfl) (by simp) (AllReadyH.cons (at_drop (i := 0) rfl) (fun K2 hK => ?_) (AllReadyH.nil))
          obtain ⟨Z160, hZ160⟩ : ∃ Z', Z' = Z159.alloc (.cells #[] 55) := ⟨_, rfl⟩
          have hb : Below Z159.heap.size Z159 Z160 := by rw [hZ160]; exact rbel _ _
          replace HFL := Lib.hid (HFL.out.block (hb.block _ HFL.out.lt))
          replace HTK := Lib.hid (HTK.out.block (hb.block _ HTK.out.lt))
          replace HV := Lib.hid (rrow_below HV.out hb)
          have OW : Hid (Z160.ownsRow V0.heap.size 55 6 (.slice (some ⟨Z159.heap.size, 0, none⟩) 0 0) 0 []) := by show World.ownsRow _ _ _ _ _ _ _; rw [hZ160]; exact World.ownsRow_made Z159 #[] 0 hHeld.size (Nat.zero_le _) rfl
          go_simp
          rw [← hZ160]
          clear hZ160
          refine hK.out _ _ (hHeld.trans (hb.mono hHeld.size)) (fun hHeld2 => ?_)
          clear hK hHeld hb
          have hHeld := hHeld2
          clear hHeld2
          refine wpAnyH_ready (rs := [2]) (by kernel_rfl) (by simp) (AllReadyH.cons (at_drop (i := 2) rfl) (fun K2 hK => ?_) (AllReadyH.nil))
          refine step_append_rv rfl (.tmp 25) (.tmp 26) 25 rfl V0.heap.size 55 i0 _ 6 48 Tryd.underlying25 hi0 hy0 hy1 hy2 rfl (by decide) _ 0 [] rfl OW.out ⟨lb, 0, none⟩ n cn (inVs (scF rs) (n * 6)) rfl (by rw [inVs_len]) (rc_news (fun i hi => (H.out i hi).block (hHeld.block _ HLB.out))) rc_one (by unfold maxLen; omega) (by omega) hHeld.size ?_
          intro v5 Z161 hown hgrow
          have hb0 : Below V0.heap.size Z160 Z161 := (Below.refl _ _).grown hgrow hHeld.size (fun k e => (OW.out.lt k e).1)
          obtain ⟨gl, cA, rfl, hgl, hls⟩ := own_rc (by simpa using hown) hn1
          have HLS := Lib.hid hls
          have HGL := Lib.hid hgl
          replace HFL := Lib.hid (HFL.out.block (hgrow.block _ HFL.out.lt (rown_nei OW.out HFL.out)))
          replace HTK := Lib.hid (HTK.out.block (hgrow.block _ HTK.out.lt (rown_nei OW.out HTK.out)))
          replace HV := Lib.hid (HV.out.of_block (hgrow.block _ HV.out.lt (rown_ne OW.out HV.out (by decide))))
          refine hK.out _ _ (hHeld.trans hb0) (fun hHeld2 => ?_)
          clear hK hHeld hb0 hown hgrow hls hgl OW
          have hHeld := hHeld2
          clear hHeld2
          simp only [Act.put, List.setIfInBounds_toArray, List.set_cons_zero, List.set_cons_succ]
          refine take_do (i := 7) (v := (.agg #[.slice (some ⟨gl, 0, none⟩) n cA, .slice (some ⟨gf, 0, none⟩) n n, .slice (some ⟨gt, 0, none⟩) n n, .int .i64 0, .int .i64 0])) rfl (by kernel_rfl) (by kernel_rfl) (by kernel_rfl) (fun _ _ _ h => h) (by rfl) ?_ (by assumption) ?_
          · intro w hSw
            skip
            go_simp
          simp only [Act.put, List.setIfInBounds_toArray, List.set_cons_zero, List.set_cons_succ]
          obtain ⟨WF, HWF, HRM, HBF, ⟨o0, o1, o2, o3, o4⟩, ⟨z0, z1, z2, z3, z4⟩, hol⟩ := rr_leaf (gl := gl) (cA := cA) HSL.out hHeld HV.out HLS.out HFL.out HTK.out HPO.out HGF.out HGT.out HGL.out HNE.out
          refine take_call (i := 9) rfl (by kernel_rfl) (fun K2 hK => ?_)
          go_simp
          rw [← HWF.out]
          refine hK.out _ _ HBF.out (fun _ => ?_)
          clear hK HWF
          refine wpAnyH_done (by kernel_rfl) ?_ _
          go_wp2_with fail
          go_meet
          case rel => exact ⟨po, gl, cA, gf, gt, rfl, HRM⟩
      · obtain ⟨Z162, hZ162⟩ : ∃ Z', Z' = Z136.alloc (mkO n) := ⟨_, rfl⟩
        have hb : Below Z136.heap.size Z136 Z162 := by rw [hZ162]; exact rbel _ _
        replace HV := Lib.hid (rrow_below HV.out hb)
        have HTK : Hid (InBlk Z136.heap.size n (fun _ => 0) Z162) := by show InBlk _ _ _ _; rw [hZ162]; exact made_blk Z136 n
        obtain ⟨gt, hg0⟩ : ∃ g, g = Z136.heap.size := ⟨_, rfl⟩
        rw [← hg0] at HTK
        have HGT : Hid (V0.heap.size ≤ gt) := by show _ ≤ _; rw [hg0]; exact hHeld.size
        go_simp
        rw [← hZ162, ← hg0]
        clear hg0
        clear hZ162
        refine hK.out _ _ (hHeld.trans (hb.mono hHeld.size)) (fun hHeld2 => ?_)
        clear hK hHeld hb
        have hHeld := hHeld2
        clear hHeld2
        refine wpAnyH_ready (rs := [0, 4]) (by kernel_rfl) (by simp) (AllReadyH.cons (at_drop (i := 0) rfl) (fun K2 hK => ?_) (AllReadyH.cons (at_drop (i := 4) rfl) (fun K2 hK => ?_) (AllReadyH.nil)))
        · obtain ⟨Z163, hZ163⟩ : ∃ Z', Z' = Z162.alloc (.cells #[] 55) := ⟨_, rfl⟩
          have hb : Below Z162.heap.size Z162 Z163 := by rw [hZ163]; exact rbel _ _
          replace HTK := Lib.hid (HTK.out.block (hb.block _ HTK.out.lt))
          replace HV := Lib.hid (rrow_below HV.out hb)
          have OW : Hid (Z163.ownsRow V0.heap.size 55 6 (.slice (some ⟨Z162.heap.size, 0, none⟩) 0 0) 0 []) := by show World.ownsRow _ _ _ _ _ _ _; rw [hZ163]; exact World.ownsRow_made Z162 #[] 0 hHeld.size (Nat.zero_le _) rfl
          go_simp
          rw [← hZ163]
          clear hZ163
          refine hK.out _ _ (hHeld.trans (hb.mono hHeld.size)) (fun hHeld2 => ?_)
          clear hK hHeld hb
          have hHeld := hHeld2
          clear hHeld2
          refine wpAnyH_ready (rs := [2, 4]) (by kernel_rfl) (by simp) (AllReadyH.cons (at_drop (i := 2) rfl) (fun K2 hK => ?_) (AllReadyH.cons (at_drop (i := 4) rfl) (fun K2 hK => ?_) (AllReadyH.nil)))
          · refine step_append_rv rfl (.tmp 25) (.tmp 26) 25 rfl V0.heap.size 55 i0 _ 6 48 Tryd.underlying25 hi0 hy0 hy1 hy2 rfl (by decide) _ 0 [] rfl OW.out ⟨lb, 0, none⟩ n cn (inVs (scF rs) (n * 6)) rfl (by rw [inVs_len]) (rc_news (fun i hi => (H.out i hi).block (hHeld.block _ HLB.out))) rc_one (by unfold maxLen; omega) (by omega) hHeld.size ?_
            intro v5 Z164 hown hgrow
            have hb0 : Below V0.heap.size Z163 Z164 := (Below.refl _ _).grown hgrow hHeld.size (fun k e => (OW.out.lt k e).1)
            obtain ⟨gl, cA, rfl, hgl, hls⟩ := own_rc (by simpa using hown) hn1
            have HLS := Lib.hid hls
            have HGL := Lib.hid hgl
            replace HTK := Lib.hid (HTK.out.block (hgrow.block _ HTK.out.lt (rown_nei OW.out HTK.out)))
            replace HV := Lib.hid (HV.out.of_block (hgrow.block _ HV.out.lt (rown_ne OW.out HV.out (by decide))))
            refine hK.out _ _ (hHeld.trans hb0) (fun hHeld2 => ?_)
            clear hK hHeld hb0 hown hgrow hls hgl OW
            have hHeld := hHeld2
            clear hHeld2
            simp only [Act.put, List.setIfInBounds_toArray, List.set_cons_zero, List.set_cons_succ]
            refine wpAnyH_ready (rs := [4]) (by kernel_rfl) (by simp) (AllReadyH.cons (at_drop (i := 4) rfl) (fun K2 hK => ?_) (AllReadyH.nil))
            have hlt9 := HTK.out.lt
            obtain ⟨Z165, hZ165⟩ : ∃ Z', Z' = Z164.alloc (mkO n) := ⟨_, rfl⟩
            have hb : Below Z164.heap.size Z164 Z165 := by rw [hZ165]; exact rbel _ _
            replace HLS := Lib.hid (HLS.out.block (hb.block _ HLS.out.lt))
            replace HTK := Lib.hid (HTK.out.block (hb.block _ HTK.out.lt))
            replace HV := Lib.hid (rrow_below HV.out hb)
            have HFL : Hid (InBlk Z164.heap.size n (fun _ => 0) Z165) := by show InBlk _ _ _ _; rw [hZ165]; exact made_blk Z164 n
            obtain ⟨gf, hg0⟩ : ∃ g, g = Z164.heap.size := ⟨_, rfl⟩
            rw [← hg0] at HFL
            have HGF : Hid (V0.heap.size ≤ gf) := by show _ ≤ _; rw [hg0]; exact hHeld.size
            have HNE : Hid (gf ≠ gt) := by show gf ≠ gt; omega
            clear hlt9
            go_simp
            rw [← hZ165, ← hg0]
            clear hg0
            clear hZ165
            refine hK.out _ _ (hHeld.trans (hb.mono hHeld.size)) (fun hHeld2 => ?_)
            clear hK hHeld hb
            have hHeld := hHeld2
            clear hHeld2
            refine take_do (i := 7) (v := (.agg #[.slice (some ⟨gl, 0, none⟩) n cA, .slice (some ⟨gf, 0, none⟩) n n, .slice (some ⟨gt, 0, none⟩) n n, .int .i64 0, .int .i64 0])) rfl (by kernel_rfl) (by kernel_rfl) (by kernel_rfl) (fun _ _ _ h => h) (by rfl) ?_ (by assumption) ?_
            · intro w hSw
              skip
              go_simp
            simp only [Act.put, List.setIfInBounds_toArray, List.set_cons_zero, List.set_cons_succ]
            obtain ⟨WF, HWF, HRM, HBF, ⟨o0, o1, o2, o3, o4⟩, ⟨z0, z1, z2, z3, z4⟩, hol⟩ := rr_leaf (gl := gl) (cA := cA) HSL.out hHeld HV.out HLS.out HFL.out HTK.out HPO.out HGF.out HGT.out HGL.out HNE.out
            refine take_call (i := 9) rfl (by kernel_rfl) (fun K2 hK => ?_)
            go_simp
            rw [← HWF.out]
            refine hK.out _ _ HBF.out (fun _ => ?_)
            clear hK HWF
            refine wpAnyH_done (by kernel_rfl) ?_ _
            go_wp2_with fail
            go_meet
            case rel => exact ⟨po, gl, cA, gf, gt, rfl, HRM⟩
          · have hlt9 := HTK.out.lt
            obtain ⟨Z166, hZ166⟩ : ∃ Z', Z' = Z163.alloc (mkO n) := ⟨_, rfl⟩
            have hb : Below Z163.heap.size Z163 Z166 := by rw [hZ166]; exact rbel _ _
            replace OW := Lib.hid (rown_below OW.out hb)
            replace HTK := Lib.hid (HTK.out.block (hb.block _ HTK.out.lt))
            replace HV := Lib.hid (rrow_below HV.out hb)
            have HFL : Hid (InBlk Z163.heap.size n (fun _ => 0) Z166) := by show InBlk _ _ _ _; rw [hZ166]; exact made_blk Z163 n
            obtain ⟨gf, hg0⟩ : ∃ g, g = Z163.heap.size := ⟨_, rfl⟩
            rw [← hg0] at HFL
            have HGF : Hid (V0.heap.size ≤ gf) := by show _ ≤ _; rw [hg0]; exact hHeld.size
            have HNE : Hid (gf ≠ gt) := by show gf ≠ gt; omega
            clear hlt9
            go_simp
            rw [← hZ166, ← hg0]
            clear hg0
            clear hZ166
            refine hK.out _ _ (hHeld.trans (hb.mono hHeld.size)) (fun hHeld2 => ?_)
            clear hK hHeld hb
            have hHeld := hHeld2
            clear hHeld2
            refine wpAnyH_ready (rs := [2]) (by kernel_rfl) (by simp) (AllReadyH.cons (at_drop (i := 2) rfl) (fun K2 hK => ?_) (AllReadyH.nil))
            refine step_append_rv rfl (.tmp 25) (.tmp 26) 25 rfl V0.heap.size 55 i0 _ 6 48 Tryd.underlying25 hi0 hy0 hy1 hy2 rfl (by decide) _ 0 [] rfl OW.out ⟨lb, 0, none⟩ n cn (inVs (scF rs) (n * 6)) rfl (by rw [inVs_len]) (rc_news (fun i hi => (H.out i hi).block (hHeld.block _ HLB.out))) rc_one (by unfold maxLen; omega) (by omega) hHeld.size ?_
            intro v5 Z167 hown hgrow
            have hb0 : Below V0.heap.size Z166 Z167 := (Below.refl _ _).grown hgrow hHeld.size (fun k e => (OW.out.lt k e).1)
            obtain ⟨gl, cA, rfl, hgl, hls⟩ := own_rc (by simpa using hown) hn1
            have HLS := Lib.hid hls
            have HGL := Lib.hid hgl
            replace HFL := Lib.hid (HFL.out.block (hgrow.block _ HFL.out.lt (rown_nei OW.out HFL.out)))
            replace HTK := Lib.hid (HTK.out.block (hgrow.block _ HTK.out.lt (rown_nei OW.out HTK.out)))
            replace HV := Lib.hid (HV.out.of_block (hgrow.block _ HV.out.lt (rown_ne OW.out HV.out (by decide))))
            refine hK.out _ _ (hHeld.trans hb0) (fun hHeld2 => ?_)
            clear hK hHeld hb0 hown hgrow hls hgl OW
            have hHeld := hHeld2
            clear hHeld2
            simp only [Act.put, List.setIfInBounds_toArray, List.set_cons_zero, List.set_cons_succ]
            refine take_do (i := 7) (v := (.agg #[.slice (some ⟨gl, 0, none⟩) n cA, .slice (some ⟨gf, 0, none⟩) n n, .slice (some ⟨gt, 0, none⟩) n n, .int .i64 0, .int .i64 0])) rfl (by kernel_rfl) (by kernel_rfl) (by kernel_rfl) (fun _ _ _ h => h) (by rfl) ?_ (by assumption) ?_
            · intro w hSw
              skip
              go_simp
            simp only [Act.put, List.setIfInBounds_toArray, List.set_cons_zero, List.set_cons_succ]
            obtain ⟨WF, HWF, HRM, HBF, ⟨o0, o1, o2, o3, o4⟩, ⟨z0, z1, z2, z3, z4⟩, hol⟩ := rr_leaf (gl := gl) (cA := cA) HSL.out hHeld HV.out HLS.out HFL.out HTK.out HPO.out HGF.out HGT.out HGL.out HNE.out
            refine take_call (i := 9) rfl (by kernel_rfl) (fun K2 hK => ?_)
            go_simp
            rw [← HWF.out]
            refine hK.out _ _ HBF.out (fun _ => ?_)
            clear hK HWF
            refine wpAnyH_done (by kernel_rfl) ?_ _
            go_wp2_with fail
            go_meet
            case rel => exact ⟨po, gl, cA, gf, gt, rfl, HRM⟩
        · have hlt9 := HTK.out.lt
          obtain ⟨Z168, hZ168⟩ : ∃ Z', Z' = Z162.alloc (mkO n) := ⟨_, rfl⟩
          have hb : Below Z162.heap.size Z162 Z168 := by rw [hZ168]; exact rbel _ _
          replace HTK := Lib.hid (HTK.out.block (hb.block _ HTK.out.lt))
          replace HV := Lib.hid (rrow_below HV.out hb)
          have HFL : Hid (InBlk Z162.heap.size n (fun _ => 0) Z168) := by show InBlk _ _ _ _; rw [hZ168]; exact made_blk Z162 n
          obtain ⟨gf, hg0⟩ : ∃ g, g = Z162.heap.size := ⟨_, rfl⟩
          rw [← hg0] at HFL
          have HGF : Hid (V0.heap.size ≤ gf) := by show _ ≤ _; rw [hg0]; exact hHeld.size
          have HNE : Hid (gf ≠ gt) := by show gf ≠ gt; omega
          clear hlt9
          go_simp
          rw [← hZ168, ← hg0]
          clear hg0
          clear hZ168
          refine hK.out _ _ (hHeld.trans (hb.mono hHeld.size)) (fun hHeld2 => ?_)
          clear hK hHeld hb
          have hHeld := hHeld2
          clear hHeld2
          refine wpAnyH_ready (rs := [0]) (by kernel_rfl) (by simp) (AllReadyH.cons (at_drop (i := 0) rfl) (fun K2 hK => ?_) (AllReadyH.nil))
          obtain ⟨Z169, hZ169⟩ : ∃ Z', Z' = Z168.alloc (.cells #[] 55) := ⟨_, rfl⟩
          have hb : Below Z168.heap.size Z168 Z169 := by rw [hZ169]; exact rbel _ _
          replace HFL := Lib.hid (HFL.out.block (hb.block _ HFL.out.lt))
          replace HTK := Lib.hid (HTK.out.block (hb.block _ HTK.out.lt))
          replace HV := Lib.hid (rrow_below HV.out hb)
          have OW : Hid (Z169.ownsRow V0.heap.size 55 6 (.slice (some ⟨Z168.heap.size, 0, none⟩) 0 0) 0 []) := by show World.ownsRow _ _ _ _ _ _ _; rw [hZ169]; exact World.ownsRow_made Z168 #[] 0 hHeld.size (Nat.zero_le _) rfl
          go_simp
          rw [← hZ169]
          clear hZ169
          refine hK.out _ _ (hHeld.trans (hb.mono hHeld.size)) (fun hHeld2 => ?_)
          clear hK hHeld hb
          have hHeld := hHeld2
          clear hHeld2
          refine wpAnyH_ready (rs := [2]) (by kernel_rfl) (by simp) (AllReadyH.cons (at_drop (i := 2) rfl) (fun K2 hK => ?_) (AllReadyH.nil))
          refine step_append_rv rfl (.tmp 25) (.tmp 26) 25 rfl V0.heap.size 55 i0 _ 6 48 Tryd.underlying25 hi0 hy0 hy1 hy2 rfl (by decide) _ 0 [] rfl OW.out ⟨lb, 0, none⟩ n cn (inVs (scF rs) (n * 6)) rfl (by rw [inVs_len]) (rc_news (fun i hi => (H.out i hi).block (hHeld.block _ HLB.out))) rc_one (by unfold maxLen; omega) (by omega) hHeld.size ?_
          intro v5 Z170 hown hgrow
          have hb0 : Below V0.heap.size Z169 Z170 := (Below.refl _ _).grown hgrow hHeld.size (fun k e => (OW.out.lt k e).1)
          obtain ⟨gl, cA, rfl, hgl, hls⟩ := own_rc (by simpa using hown) hn1
          have HLS := Lib.hid hls
          have HGL := Lib.hid hgl
          replace HFL := Lib.hid (HFL.out.block (hgrow.block _ HFL.out.lt (rown_nei OW.out HFL.out)))
          replace HTK := Lib.hid (HTK.out.block (hgrow.block _ HTK.out.lt (rown_nei OW.out HTK.out)))
          replace HV := Lib.hid (HV.out.of_block (hgrow.block _ HV.out.lt (rown_ne OW.out HV.out (by decide))))
          refine hK.out _ _ (hHeld.trans hb0) (fun hHeld2 => ?_)
          clear hK hHeld hb0 hown hgrow hls hgl OW
          have hHeld := hHeld2
          clear hHeld2
          simp only [Act.put, List.setIfInBounds_toArray, List.set_cons_zero, List.set_cons_succ]
          refine take_do (i := 7) (v := (.agg #[.slice (some ⟨gl, 0, none⟩) n cA, .slice (some ⟨gf, 0, none⟩) n n, .slice (some ⟨gt, 0, none⟩) n n, .int .i64 0, .int .i64 0])) rfl (by kernel_rfl) (by kernel_rfl) (by kernel_rfl) (fun _ _ _ h => h) (by rfl) ?_ (by assumption) ?_
          · intro w hSw
            skip
            go_simp
          simp only [Act.put, List.setIfInBounds_toArray, List.set_cons_zero, List.set_cons_succ]
          obtain ⟨WF, HWF, HRM, HBF, ⟨o0, o1, o2, o3, o4⟩, ⟨z0, z1, z2, z3, z4⟩, hol⟩ := rr_leaf (gl := gl) (cA := cA) HSL.out hHeld HV.out HLS.out HFL.out HTK.out HPO.out HGF.out HGT.out HGL.out HNE.out
          refine take_call (i := 9) rfl (by kernel_rfl) (fun K2 hK => ?_)
          go_simp
          rw [← HWF.out]
          refine hK.out _ _ HBF.out (fun _ => ?_)
          clear hK HWF
          refine wpAnyH_done (by kernel_rfl) ?_ _
          go_wp2_with fail
          go_meet
          case rel => exact ⟨po, gl, cA, gf, gt, rfl, HRM⟩
  case rest =>
    clear hmk
    obtain ⟨po, gl0, c0, gf, gt, rfl, hRM⟩ := hcut
    obtain ⟨wS, hwS⟩ : ∃ w', w' = wc := ⟨_, rfl⟩
    rw [← hwS] at hRM ⊢
    clear hwS H HSL HLB
    go_wp2_with fail
    go_loopw [7, 8, 9] (fun kv _ _ wx => ∃ (k gl c : Nat) (t : Sw.RSt), k ≤ M ∧ kv = .int .i64 k ∧ Hid (Sw.runs n rs q k = some t) ∧ Hid (RR w n gl gf gt c po t wx)) (fun kv _ _ _ => M - (intOf kv).toNat)
    case atStart => exact ⟨0, gl0, c0, ⟨rs, fun _ => 0, fun _ => 0, 0⟩, Nat.zero_le _, rfl, rfl, hRM⟩
    case round =>
      obtain ⟨k, gl, c, t, hk, rfl, hT, hS⟩ := hrel
      clear hRM
      obtain ⟨V, hV⟩ : ∃ V, V = wr := ⟨_, rfl⟩
      rw [← hV] at hS ⊢
      clear hV
      by_cases hlt : k < M
      · have hltz : (k : Int) < (M : Int) := by omega
        have hk0 : (0 : Int) ≤ (k : Int) := by omega
        have HBK := Lib.hid (Sw.runs_book HR.out hT.out)
        obtain ⟨rb, ai, rc', rfl, hrc, hia⟩ := (H2.out.below hS.out.slot.old).at_ hlt
        have HIA := Lib.hid hia
        have HRC := Lib.hid hrc
        clear hia hrc
        go_upto_region 10 with fail
        go_cut [8] from 39 to 45 (fun p W => ∃ ps, p = .pointer (some ⟨ps, 0, none⟩) ∧ Hid (StS w n po gl c gf gt t (q k).len (q k).at_ ps W))
        case first =>
          refine wp_region_held_drew (S := fun W => Below V.heap.size V W) (by kernel_rfl) (Below.refl _ _).drew (fun hHeld => ?_)
          obtain ⟨Z, hZ⟩ : ∃ Z, Z = V.drew := ⟨_, rfl⟩
          rw [← hZ] at hHeld ⊢
          clear hZ
          refine take_do (i := 0) (v := (.pointer (some ⟨po, 0, none⟩))) rfl (by kernel_rfl) (by kernel_rfl) (by kernel_rfl) (fun _ _ _ h => h) (by rfl) ?_ (by assumption) ?_
          · intro w hSw
            skip
            go_simp
          simp only [Act.put, List.setIfInBounds_toArray, List.set_cons_zero, List.set_cons_succ]
          refine take_do (i := 1) (v := (.slice (some ⟨gl, 0, none⟩) n c)) rfl (by kernel_rfl) (by kernel_rfl) (by kernel_rfl) (fun _ _ _ h => h) (by rfl) ?_ (by assumption) ?_
          · intro w hSw
            have a0 := (rrow_below hS.out.out hSw).cell (i := 0) (by omega)
            have a1 : World.cell? _ ⟨po, 0, none⟩ = some (.slice (some ⟨gl, 0, none⟩) n c) := a0
            clear a0
            go_simp
          simp only [Act.put, List.setIfInBounds_toArray, List.set_cons_zero, List.set_cons_succ]
          refine take_do (i := 2) (v := (.slice (some ⟨rb, 0, none⟩) M cr)) rfl (by kernel_rfl) (by kernel_rfl) (by kernel_rfl) (fun _ _ _ h => h) (by rfl) ?_ (by assumption) ?_
          · intro w hSw
            skip
            go_simp
          simp only [Act.put, List.setIfInBounds_toArray, List.set_cons_zero, List.set_cons_succ]
          refine take_do (i := 3) (v := (.int .i64 (k : Int))) rfl (by kernel_rfl) (by kernel_rfl) (by kernel_rfl) (fun _ _ _ h => h) (by rfl) ?_ (by assumption) ?_
          · intro w hSw
            skip
            go_simp
          simp only [Act.put, List.setIfInBounds_toArray, List.set_cons_zero, List.set_cons_succ]
          refine take_do (i := 4) (v := (.pointer (some ⟨rb, k, none⟩))) rfl (by kernel_rfl) (by kernel_rfl) (by kernel_rfl) (fun _ _ _ h => h) (by rfl) ?_ (by assumption) ?_
          · intro w hSw
            skip
            go_simp
          simp only [Act.put, List.setIfInBounds_toArray, List.set_cons_zero, List.set_cons_succ]
          refine take_do (i := 5) (v := (.slice ai (q k).len rc')) rfl (by kernel_rfl) (by kernel_rfl) (by kernel_rfl) (fun _ _ _ h => h) (by rfl) ?_ (by assumption) ?_
          · intro w hSw
            have a0 := (hSw.cell (p := ⟨rb, k, none⟩) (World.block_lt_of_cell? _ _ HRC.out)).trans HRC.out
            go_simp
          simp only [Act.put, List.setIfInBounds_toArray, List.set_cons_zero, List.set_cons_succ]
          refine wpAnyH_ready (rs := [6, 7]) (by kernel_rfl) (by simp) (AllReadyH.cons (at_drop (i := 6) rfl) (fun K2 hK => ?_) (AllReadyH.cons (at_drop (i := 7) rfl) (fun K2 hK => ?_) (AllReadyH.nil)))
          · go_simp
            refine (specStep_any _ _ n c (q k).len rc' t.rs (q k).at_ _ (hS.out.ls.at_.below hHeld) (HIA.out.below hHeld)).mono ?_
            rintro e Y1 ⟨hE, hb⟩
            rcases hE with ⟨code, hst, hco, rfl⟩ | ⟨st, xl, xf, xt, xc, cf, ct, hst, rfl, hx⟩
            · have HCO := Lib.hid hco
              have HNS : Hid (∀ s, Sw.stepF n (q k).len t.rs (q k).at_ ≠ .ok s) := fun s hs => by rw [hs] at hst; cases hst
              clear hst hco
              go_wp2_with fail
              refine hK.out _ _ (hHeld.trans (hb.mono hHeld.size)) (fun hHeld2 => ?_)
              clear hK hHeld hb
              have hHeld := hHeld2
              clear hHeld2
              refine take_call (i := 7) rfl (by kernel_rfl) (fun K2 hK => ?_)
              obtain ⟨Y2, hY2⟩ : ∃ Z', Z' = Y1.alloc (.cells #[.slice none 0 0, .slice none 0 0, .slice none 0 0, .int .i64 0, .int .i64 0] 27) := ⟨_, rfl⟩
              have hb : Below Y1.heap.size Y1 Y2 := by rw [hY2]; exact rbel _ _
              have HV : Hid (Y2.rowIs Y1.heap.size 27 5 (ro5 (.slice none 0 0) (.slice none 0 0) (.slice none 0 0) 0 0)) := by show World.rowIs _ _ _ _ _; rw [hY2]; exact World.rowIs_alloc Y1 #[.slice none 0 0, .slice none 0 0, .slice none 0 0, .int .i64 0, .int .i64 0] 27 _ (ro5_row (.slice none 0 0) (.slice none 0 0) (.slice none 0 0) 0 0)
              obtain ⟨ps, hg0⟩ : ∃ g, g = Y1.heap.size := ⟨_, rfl⟩
              rw [← hg0] at HV
              have HPS : Hid (V.heap.size ≤ ps) := by show _ ≤ _; rw [hg0]; exact hHeld.size
              go_simp
              rw [← hY2, ← hg0]
              clear hg0 hY2
              refine hK.out _ _ (hHeld.trans (hb.mono hHeld.size)) (fun hHeld2 => ?_)
              clear hK hHeld hb
              have hHeld := hHeld2
              clear hHeld2
              obtain ⟨WF, hWF⟩ : ∃ WF, WF = (((((Y2.setCell ⟨ps, 0, none⟩ (.slice none 0 0)).setCell ⟨ps, 1, none⟩ (.slice none 0 0)).setCell ⟨ps, 2, none⟩ (.slice none 0 0)).setCell ⟨ps, 3, none⟩ (.int .i64 0)).setCell ⟨ps, 4, none⟩ (.int .i64 code)) := ⟨_, rfl⟩
              have hblk : ∀ k, k ≠ ps → WF.heap[k]? = Y2.heap[k]? := fun k hk => by rw [hWF]; exact putRo_block ps Y2 (.slice none 0 0) (.slice none 0 0) (.slice none 0 0) (.int .i64 0) (.int .i64 code) k hk
              have hbF : Below V.heap.size V WF := by rw [hWF]; exact ((((hHeld.setCell (p := ⟨ps, 0, none⟩) HPS.out _).setCell (p := ⟨ps, 1, none⟩) HPS.out _).setCell (p := ⟨ps, 2, none⟩) HPS.out _).setCell (p := ⟨ps, 3, none⟩) HPS.out _).setCell (p := ⟨ps, 4, none⟩) HPS.out _
              have l1 := hS.out.out.lt
              have l2 := hS.out.ls.lt
              have l3 := hS.out.fl.lt
              have l4 := hS.out.tk.lt
              have l5 := hS.out.slot.lt
              have l6 := HPS.out
              have hrow := ro_put (a' := (.slice none 0 0)) (b' := (.slice none 0 0)) (c' := (.slice none 0 0)) (d' := 0) (e' := code) HV.out
              rw [← hWF] at hrow
              have hrm2 : RR w n gl gf gt c po t WF := (hS.out.below hHeld).same (hS.out.slot.next hbF) (by omega) hblk
              have HF : Hid (StS w n po gl c gf gt t (q k).len (q k).at_ ps WF) := Or.inl ⟨code, HCO.out, HNS.out, hS.out.slot.next hbF, hrow⟩
              have HWF := Lib.hid hWF
              have HBF := Lib.hid hbF
              have o0 := HV.out.cell (i := 0) (by omega)
              have o1 := HV.out.cell (i := 1) (by omega)
              have o2 := HV.out.cell (i := 2) (by omega)
              have o3 := HV.out.cell (i := 3) (by omega)
              have o4 := HV.out.cell (i := 4) (by omega)
              have z0 := HV.out.frozen 0
              have z1 := HV.out.frozen 1
              have z2 := HV.out.frozen 2
              have z3 := HV.out.frozen 3
              have z4 := HV.out.frozen 4
              have hol := HV.out.lt
              clear hWF hbF hblk hrow hrm2 l1 l2 l3 l4 l5 l6
              refine take_call (i := 8) rfl (by kernel_rfl) (fun K2 hK => ?_)
              go_simp
              rw [← HWF.out]
              refine hK.out _ _ HBF.out (fun _ => ?_)
              clear hK HWF o0 o1 o2 o3 o4 z0 z1 z2 z3 z4 hol
              refine wpAnyH_done (by kernel_rfl) ?_ _
              go_wp2_with fail
              go_meet
              case rel => exact ⟨ps, rfl, HF⟩
            · have HST := Lib.hid hst
              have HX : Hid (OutL V.heap.size n xl xf xt (Sw.after t.rs st) st.fl st.tk Y1) := hx.lower hHeld.size
              clear hst hx
              go_wp2_with fail
              refine hK.out _ _ (hHeld.trans (hb.mono hHeld.size)) (fun hHeld2 => ?_)
              clear hK hHeld hb
              have hHeld := hHeld2
              clear hHeld2
              refine take_call (i := 7) rfl (by kernel_rfl) (fun K2 hK => ?_)
              obtain ⟨Y2, hY2⟩ : ∃ Z', Z' = Y1.alloc (.cells #[.slice none 0 0, .slice none 0 0, .slice none 0 0, .int .i64 0, .int .i64 0] 27) := ⟨_, rfl⟩
              have hb : Below Y1.heap.size Y1 Y2 := by rw [hY2]; exact rbel _ _
              replace HX := Lib.hid (HX.out.below hb)
              have HV : Hid (Y2.rowIs Y1.heap.size 27 5 (ro5 (.slice none 0 0) (.slice none 0 0) (.slice none 0 0) 0 0)) := by show World.rowIs _ _ _ _ _; rw [hY2]; exact World.rowIs_alloc Y1 #[.slice none 0 0, .slice none 0 0, .slice none 0 0, .int .i64 0, .int .i64 0] 27 _ (ro5_row (.slice none 0 0) (.slice none 0 0) (.slice none 0 0) 0 0)
              obtain ⟨ps, hg0⟩ : ∃ g, g = Y1.heap.size := ⟨_, rfl⟩
              rw [← hg0] at HV
              have HPS : Hid (V.heap.size ≤ ps) := by show _ ≤ _; rw [hg0]; exact hHeld.size
              go_simp
              rw [← hY2, ← hg0]
              clear hg0 hY2
              refine hK.out _ _ (hHeld.trans (hb.mono hHeld.size)) (fun hHeld2 => ?_)
              clear hK hHeld hb
              have hHeld := hHeld2
              clear hHeld2
              obtain ⟨WF, hWF⟩ : ∃ WF, WF = (((((Y2.setCell ⟨ps, 0, none⟩ (.slice (some ⟨xl, 0, none⟩) n xc)).setCell ⟨ps, 1, none⟩ (.slice (some ⟨xf, 0, none⟩) n cf)).setCell ⟨ps, 2, none⟩ (.slice (some ⟨xt, 0, none⟩) n ct)).setCell ⟨ps, 3, none⟩ (.int .i64 st.sea)).setCell ⟨ps, 4, none⟩ (.int .i64 0)) := ⟨_, rfl⟩
              have hblk : ∀ k, k ≠ ps → WF.heap[k]? = Y2.heap[k]? := fun k hk => by rw [hWF]; exact putRo_block ps Y2 (.slice (some ⟨xl, 0, none⟩) n xc) (.slice (some ⟨xf, 0, none⟩) n cf) (.slice (some ⟨xt, 0, none⟩) n ct) (.int .i64 st.sea) (.int .i64 0) k hk
              have hbF : Below V.heap.size V WF := by rw [hWF]; exact ((((hHeld.setCell (p := ⟨ps, 0, none⟩) HPS.out _).setCell (p := ⟨ps, 1, none⟩) HPS.out _).setCell (p := ⟨ps, 2, none⟩) HPS.out _).setCell (p := ⟨ps, 3, none⟩) HPS.out _).setCell (p := ⟨ps, 4, none⟩) HPS.out _
              have l1 := hS.out.out.lt
              have l2 := hS.out.ls.lt
              have l3 := hS.out.fl.lt
              have l4 := hS.out.tk.lt
              have l5 := hS.out.slot.lt
              have l6 := HPS.out
              have hrow := ro_put (a' := (.slice (some ⟨xl, 0, none⟩) n xc)) (b' := (.slice (some ⟨xf, 0, none⟩) n cf)) (c' := (.slice (some ⟨xt, 0, none⟩) n ct)) (d' := st.sea) (e' := 0) HV.out
              rw [← hWF] at hrow
              have hrm2 : RR w n gl gf gt c po t WF := (hS.out.below hHeld).same (hS.out.slot.next hbF) (by omega) hblk
              have HF : Hid (StS w n po gl c gf gt t (q k).len (q k).at_ ps WF) := by
                obtain ⟨hB, ⟨n1, n2, n3⟩, x1, x2, x3⟩ := HX.out
                have m1 : xl ≠ ps := isblk_ne x1 HV.out (by decide)
                have m2 : xf ≠ ps := isblk_ne x2 HV.out (by decide)
                have m3 : xt ≠ ps := isblk_ne x3 HV.out (by decide)
                exact Or.inr ⟨st, xl, xc, xf, cf, xt, ct, HST.out, hrm2, hrow, x1.block (hblk _ m1), x2.block (hblk _ m2), x3.block (hblk _ m3), V.heap.size, by omega, by omega⟩
              have HWF := Lib.hid hWF
              have HBF := Lib.hid hbF
              have o0 := HV.out.cell (i := 0) (by omega)
              have o1 := HV.out.cell (i := 1) (by omega)
              have o2 := HV.out.cell (i := 2) (by omega)
              have o3 := HV.out.cell (i := 3) (by omega)
              have o4 := HV.out.cell (i := 4) (by omega)
              have z0 := HV.out.frozen 0
              have z1 := HV.out.frozen 1
              have z2 := HV.out.frozen 2
              have z3 := HV.out.frozen 3
              have z4 := HV.out.frozen 4
              have hol := HV.out.lt
              clear hWF hbF hblk hrow hrm2 l1 l2 l3 l4 l5 l6
              refine take_call (i := 8) rfl (by kernel_rfl) (fun K2 hK => ?_)
              go_simp
              rw [← HWF.out]
              refine hK.out _ _ HBF.out (fun _ => ?_)
              clear hK HWF o0 o1 o2 o3 o4 z0 z1 z2 z3 z4 hol
              refine wpAnyH_done (by kernel_rfl) ?_ _
              go_wp2_with fail
              go_meet
              case rel => exact ⟨ps, rfl, HF⟩
          · obtain ⟨Y1, hY1⟩ : ∃ Z', Z' = Z.alloc (.cells #[.slice none 0 0, .slice none 0 0, .slice none 0 0, .int .i64 0, .int .i64 0] 27) := ⟨_, rfl⟩
            have hb : Below Z.heap.size Z Y1 := by rw [hY1]; exact rbel _ _
            have HV : Hid (Y1.rowIs Z.heap.size 27 5 (ro5 (.slice none 0 0) (.slice none 0 0) (.slice none 0 0) 0 0)) := by show World.rowIs _ _ _ _ _; rw [hY1]; exact World.rowIs_alloc Z #[.slice none 0 0, .slice none 0 0, .slice none 0 0, .int .i64 0, .int .i64 0] 27 _ (ro5_row (.slice none 0 0) (.slice none 0 0) (.slice none 0 0) 0 0)
            obtain ⟨ps, hg0⟩ : ∃ g, g = Z.heap.size := ⟨_, rfl⟩
            rw [← hg0] at HV
            have HPS : Hid (V.heap.size ≤ ps) := by show _ ≤ _; rw [hg0]; exact hHeld.size
            go_simp
            rw [← hY1, ← hg0]
            clear hg0 hY1
            refine hK.out _ _ (hHeld.trans (hb.mono hHeld.size)) (fun hHeld2 => ?_)
            clear hK hHeld hb
            have hHeld := hHeld2
            clear hHeld2
            refine take_call (i := 6) rfl (by kernel_rfl) (fun K2 hK => ?_)
            go_simp
            refine (specStep_any _ _ n c (q k).len rc' t.rs (q k).at_ _ (hS.out.ls.at_.below hHeld) (HIA.out.below hHeld)).mono ?_
            rintro e Y2 ⟨hE, hb⟩
            replace HV := Lib.hid (rrow_below HV.out hb)
            rcases hE with ⟨code, hst, hco, rfl⟩ | ⟨st, xl, xf, xt, xc, cf, ct, hst, rfl, hx⟩
            · have HCO := Lib.hid hco
              have HNS : Hid (∀ s, Sw.stepF n (q k).len t.rs (q k).at_ ≠ .ok s) := fun s hs => by rw [hs] at hst; cases hst
              clear hst hco
              go_wp2_with fail
              refine hK.out _ _ (hHeld.trans (hb.mono hHeld.size)) (fun hHeld2 => ?_)
              clear hK hHeld hb
              have hHeld := hHeld2
              clear hHeld2
              obtain ⟨WF, hWF⟩ : ∃ WF, WF = (((((Y2.setCell ⟨ps, 0, none⟩ (.slice none 0 0)).setCell ⟨ps, 1, none⟩ (.slice none 0 0)).setCell ⟨ps, 2, none⟩ (.slice none 0 0)).setCell ⟨ps, 3, none⟩ (.int .i64 0)).setCell ⟨ps, 4, none⟩ (.int .i64 code)) := ⟨_, rfl⟩
              have hblk : ∀ k, k ≠ ps → WF.heap[k]? = Y2.heap[k]? := fun k hk => by rw [hWF]; exact putRo_block ps Y2 (.slice none 0 0) (.slice none 0 0) (.slice none 0 0) (.int .i64 0) (.int .i64 code) k hk
              have hbF : Below V.heap.size V WF := by rw [hWF]; exact ((((hHeld.setCell (p := ⟨ps, 0, none⟩) HPS.out _).setCell (p := ⟨ps, 1, none⟩) HPS.out _).setCell (p := ⟨ps, 2, none⟩) HPS.out _).setCell (p := ⟨ps, 3, none⟩) HPS.out _).setCell (p := ⟨ps, 4, none⟩) HPS.out _
              have l1 := hS.out.out.lt
              have l2 := hS.out.ls.lt
              have l3 := hS.out.fl.lt
              have l4 := hS.out.tk.lt
              have l5 := hS.out.slot.lt
              have l6 := HPS.out
              have hrow := ro_put (a' := (.slice none 0 0)) (b' := (.slice none 0 0)) (c' := (.slice none 0 0)) (d' := 0) (e' := code) HV.out
              rw [← hWF] at hrow
              have hrm2 : RR w n gl gf gt c po t WF := (hS.out.below hHeld).same (hS.out.slot.next hbF) (by omega) hblk
              have HF : Hid (StS w n po gl c gf gt t (q k).len (q k).at_ ps WF) := Or.inl ⟨code, HCO.out, HNS.out, hS.out.slot.next hbF, hrow⟩
              have HWF := Lib.hid hWF
              have HBF := Lib.hid hbF
              have o0 := HV.out.cell (i := 0) (by omega)
              have o1 := HV.out.cell (i := 1) (by omega)
              have o2 := HV.out.cell (i := 2) (by omega)
              have o3 := HV.out.cell (i := 3) (by omega)
              have o4 := HV.out.cell (i := 4) (by omega)
              have z0 := HV.out.frozen 0
              have z1 := HV.out.frozen 1
              have z2 := HV.out.frozen 2
              have z3 := HV.out.frozen 3
              have z4 := HV.out.frozen 4
              have hol := HV.out.lt
              clear hWF hbF hblk hrow hrm2 l1 l2 l3 l4 l5 l6
              refine take_call (i := 8) rfl (by kernel_rfl) (fun K2 hK => ?_)
              go_simp
              rw [← HWF.out]
              refine hK.out _ _ HBF.out (fun _ => ?_)
              clear hK HWF o0 o1 o2 o3 o4 z0 z1 z2 z3 z4 hol
              refine wpAnyH_done (by kernel_rfl) ?_ _
              go_wp2_with fail
              go_meet
              case rel => exact ⟨ps, rfl, HF⟩
            · have HST := Lib.hid hst
              have HX : Hid (OutL V.heap.size n xl xf xt (Sw.after t.rs st) st.fl st.tk Y2) := hx.lower hHeld.size
              clear hst hx
              go_wp2_with fail
              refine hK.out _ _ (hHeld.trans (hb.mono hHeld.size)) (fun hHeld2 => ?_)
              clear hK hHeld hb
              have hHeld := hHeld2
              clear hHeld2
              obtain ⟨WF, hWF⟩ : ∃ WF, WF = (((((Y2.setCell ⟨ps, 0, none⟩ (.slice (some ⟨xl, 0, none⟩) n xc)).setCell ⟨ps, 1, none⟩ (.slice (some ⟨xf, 0, none⟩) n cf)).setCell ⟨ps, 2, none⟩ (.slice (some ⟨xt, 0, none⟩) n ct)).setCell ⟨ps, 3, none⟩ (.int .i64 st.sea)).setCell ⟨ps, 4, none⟩ (.int .i64 0)) := ⟨_, rfl⟩
              have hblk : ∀ k, k ≠ ps → WF.heap[k]? = Y2.heap[k]? := fun k hk => by rw [hWF]; exact putRo_block ps Y2 (.slice (some ⟨xl, 0, none⟩) n xc) (.slice (some ⟨xf, 0, none⟩) n cf) (.slice (some ⟨xt, 0, none⟩) n ct) (.int .i64 st.sea) (.int .i64 0) k hk
              have hbF : Below V.heap.size V WF := by rw [hWF]; exact ((((hHeld.setCell (p := ⟨ps, 0, none⟩) HPS.out _).setCell (p := ⟨ps, 1, none⟩) HPS.out _).setCell (p := ⟨ps, 2, none⟩) HPS.out _).setCell (p := ⟨ps, 3, none⟩) HPS.out _).setCell (p := ⟨ps, 4, none⟩) HPS.out _
              have l1 := hS.out.out.lt
              have l2 := hS.out.ls.lt
              have l3 := hS.out.fl.lt
              have l4 := hS.out.tk.lt
              have l5 := hS.out.slot.lt
              have l6 := HPS.out
              have hrow := ro_put (a' := (.slice (some ⟨xl, 0, none⟩) n xc)) (b' := (.slice (some ⟨xf, 0, none⟩) n cf)) (c' := (.slice (some ⟨xt, 0, none⟩) n ct)) (d' := st.sea) (e' := 0) HV.out
              rw [← hWF] at hrow
              have hrm2 : RR w n gl gf gt c po t WF := (hS.out.below hHeld).same (hS.out.slot.next hbF) (by omega) hblk
              have HF : Hid (StS w n po gl c gf gt t (q k).len (q k).at_ ps WF) := by
                obtain ⟨hB, ⟨n1, n2, n3⟩, x1, x2, x3⟩ := HX.out
                have m1 : xl ≠ ps := isblk_ne x1 HV.out (by decide)
                have m2 : xf ≠ ps := isblk_ne x2 HV.out (by decide)
                have m3 : xt ≠ ps := isblk_ne x3 HV.out (by decide)
                exact Or.inr ⟨st, xl, xc, xf, cf, xt, ct, HST.out, hrm2, hrow, x1.block (hblk _ m1), x2.block (hblk _ m2), x3.block (hblk _ m3), V.heap.size, by omega, by omega⟩
              have HWF := Lib.hid hWF
              have HBF := Lib.hid hbF
              have o0 := HV.out.cell (i := 0) (by omega)
              have o1 := HV.out.cell (i := 1) (by omega)
              have o2 := HV.out.cell (i := 2) (by omega)
              have o3 := HV.out.cell (i := 3) (by omega)
              have o4 := HV.out.cell (i := 4) (by omega)
              have z0 := HV.out.frozen 0
              have z1 := HV.out.frozen 1
              have z2 := HV.out.frozen 2
              have z3 := HV.out.frozen 3
              have z4 := HV.out.frozen 4
              have hol := HV.out.lt
              clear hWF hbF hblk hrow hrm2 l1 l2 l3 l4 l5 l6
              refine take_call (i := 8) rfl (by kernel_rfl) (fun K2 hK => ?_)
              go_simp
              rw [← HWF.out]
              refine hK.out _ _ HBF.out (fun _ => ?_)
              clear hK HWF o0 o1 o2 o3 o4 z0 z1 z2 z3 z4 hol
              refine wpAnyH_done (by kernel_rfl) ?_ _
              go_wp2_with fail
              go_meet
              case rel => exact ⟨ps, rfl, HF⟩
        case rest =>
          obtain ⟨ps, rfl, hSS⟩ := hcut
          obtain ⟨V2, hV2⟩ : ∃ V, V = wc := ⟨_, rfl⟩
          rw [← hV2] at hSS ⊢
          clear hV2 hS HIA HRC
          rcases hSS.out with ⟨code, hco, hns, hslot, hbox⟩ | ⟨st, xl, xc, xf, cf, xt, ct, hst, hrr, hbox, x1, x2, x3, hB⟩
          · have b4 : V2.cell? ⟨ps, 4, none⟩ = some (.int .i64 code) := hbox.cell (i := 4) (by omega)
            have hcz : (code != 0) = true := by simpa using hco
            obtain ⟨⟨q0, q1, q2, q3, q4⟩, ⟨f0, f1, f2, f3, f4⟩⟩ := hslot.kept
            have hzs := hslot.lt
            have hF := Lib.hid (hslot.fin (.slice none 0 0) (.slice none 0 0) (.slice none 0 0) (.int .i64 0) (.int .i64 code))
            have HCO := Lib.hid hco
            have HNO : Hid (Sw.runs n rs q M = none) := runs_nostep HBK.out.1 hT.out hns hlt
            clear hSS hslot hbox hco hns
            go_wp2_with fail
            exact bodyPost_ret (v := .agg #[.slice none 0 0, .slice none 0 0, .slice none 0 0, .int .i64 0, .int .i64 code]) (by
              obtain ⟨⟨x0, x1, x2, x3, x4⟩, _⟩ := hF.out
              simp only [results, Tryd.results26]
              simp [go_sem, x0, x1, x2, x3, x4]) rfl ⟨Or.inl ⟨code, HNO.out, HCO.out, rfl⟩, hF.out.2⟩
          · have HRN := Lib.hid (runs_stepF hT.out hst)
            have HX := Lib.hid (rl_take hrr hbox x1 x2 x3 hB)
            have hI9 := Sw.runs_book HR.out HRN.out
            have hk60 : ((k + 1 : Nat) : Int) ≤ 60 := by omega
            have hsea : (0 ≤ t.sea + st.sea ∧ t.sea + st.sea ≤ ((k + 1 : Nat) : Int) * 80000000) := hI9.2.2.1
            have hse0 : 0 ≤ t.sea := HBK.out.2.2.1.1
            have hsum : ∀ j, j < n → (0 ≤ t.tk j + st.tk j ∧ t.tk j + st.tk j ≤ ((k + 1 : Nat) : Int) * 80000000) ∧ (0 ≤ t.fl j + st.fl j ∧ t.fl j + st.fl j ≤ ((k + 1 : Nat) : Int) * 80000000) := hI9.2.2.2
            have hsea1 : t.sea + st.sea ≤ 4800000000 := by omega
            have hsea0 : 0 ≤ t.sea + st.sea := hsea.1
            have HSUM : Hid (∀ j, j < n → (0 ≤ t.tk j + st.tk j ∧ t.tk j + st.tk j ≤ 4800000000) ∧ (0 ≤ t.fl j + st.fl j ∧ t.fl j + st.fl j ≤ 4800000000)) := fun j hj => by have := hsum j hj; omega
            have b0 : V2.cell? ⟨ps, 0, none⟩ = some (.slice (some ⟨xl, 0, none⟩) n xc) := hbox.cell (i := 0) (by omega)
            have b3 : V2.cell? ⟨ps, 3, none⟩ = some (.int .i64 st.sea) := hbox.cell (i := 3) (by omega)
            have b4 : V2.cell? ⟨ps, 4, none⟩ = some (.int .i64 0) := hbox.cell (i := 4) (by omega)
            have d0 : V2.cell? ⟨po, 0, none⟩ = some (.slice (some ⟨gl, 0, none⟩) n c) := hrr.out.cell (i := 0) (by omega)
            have d3 : V2.cell? ⟨po, 3, none⟩ = some (.int .i64 t.sea) := hrr.out.cell (i := 3) (by omega)
            have e0 := hrr.out.frozen 0
            have e3 := hrr.out.frozen 3
            have l1 := hrr.out.lt
            have l2 := hbox.lt
            have hne : po ≠ ps := by obtain ⟨B, h1, h2⟩ := hB; omega
            have hne2 : ps ≠ po := hne.symm
            clear hSS hst hrr hbox x1 x2 x3 hB hI9 hsea hsum hse0 HBK
            go_wp2_with fail
            clear b0 b3 b4 d0 d3 e0 e3 l1 l2 hne hne2
            go_loopw [9] (fun iv wx => ∃ (i : Nat), i ≤ n ∧ iv = .int .i64 i ∧ Hid (RL w n xl xc gf gt po (midR t st i i) st ps xf cf xt ct (.slice (some ⟨xl, 0, none⟩) n xc) (.int .i64 st.sea) (.int .i64 0) wx)) (fun iv _ => n - (intOf iv).toNat)
            case atStart => exact ⟨0, Nat.zero_le _, rfl, HX⟩
            case round =>
              obtain ⟨i, hin, rfl, hI⟩ := hrel
              clear HX
              obtain ⟨V3, hV3⟩ : ∃ V, V = wr := ⟨_, rfl⟩
              rw [← hV3] at hI ⊢
              clear hV3
              by_cases hi2 : i < n
              · have hiz : (i : Int) < (n : Int) := by omega
                have hi00 : (0 : Int) ≤ (i : Int) := by omega
                obtain ⟨⟨tb0, tb1⟩, ⟨fb0, fb1⟩⟩ := HSUM.out i hi2
                have r1 : V3.cell? ⟨po, 1, none⟩ = some (.slice (some ⟨gf, 0, none⟩) n n) := hI.out.rr.out.cell (i := 1) (by omega)
                have s1 : V3.cell? ⟨ps, 1, none⟩ = some (.slice (some ⟨xf, 0, none⟩) n cf) := hI.out.box.cell (i := 1) (by omega)
                have c1 : V3.cell? ⟨gf, i, none⟩ = some (.int .i64 (t.fl i)) := (hI.out.rr.fl.cell hi2).trans (by show some (Value.int .i64 (addTo t.fl st.fl i i)) = _; rw [addTo_at])
                have fz1 := hI.out.rr.fl.frozen i
                have lt1 := hI.out.rr.fl.lt
                have c2 : V3.cell? ⟨xf, i, none⟩ = some (.int .i64 (st.fl i)) := hI.out.fl.cell hi2
                have HI2 : Hid (RL w n xl xc gf gt po (midR t st (i + 1) i) st ps xf cf xt ct (.slice (some ⟨xl, 0, none⟩) n xc) (.int .i64 st.sea) (.int .i64 0) (V3.setCell ⟨gf, i, none⟩ (.int .i64 (t.fl i + st.fl i))).drew) := by
                  have := (hI.out.putF i (t.fl i + st.fl i)).drew
                  unfold midR at this ⊢
                  rw [addTo_succ]
                  exact this
                go_wp2_with fail
                go_region
                obtain ⟨V4, hV4⟩ : ∃ V, V = (V3.setCell ⟨gf, i, none⟩ (.int .i64 (t.fl i + st.fl i))).drew := ⟨_, rfl⟩
                rw [← hV4] at HI2 ⊢
                clear hV4 hI r1 s1 c1 fz1 lt1 c2
                have r2 : V4.cell? ⟨po, 2, none⟩ = some (.slice (some ⟨gt, 0, none⟩) n n) := HI2.out.rr.out.cell (i := 2) (by omega)
                have s2 : V4.cell? ⟨ps, 2, none⟩ = some (.slice (some ⟨xt, 0, none⟩) n ct) := HI2.out.box.cell (i := 2) (by omega)
                have c3 : V4.cell? ⟨gt, i, none⟩ = some (.int .i64 (t.tk i)) := (HI2.out.rr.tk.cell hi2).trans (by show some (Value.int .i64 (addTo t.tk st.tk i i)) = _; rw [addTo_at])
                have fz3 := HI2.out.rr.tk.frozen i
                have lt3 := HI2.out.rr.tk.lt
                have c4 : V4.cell? ⟨xt, i, none⟩ = some (.int .i64 (st.tk i)) := HI2.out.tk.cell hi2
                have HI3 : Hid (RL w n xl xc gf gt po (midR t st (i + 1) (i + 1)) st ps xf cf xt ct (.slice (some ⟨xl, 0, none⟩) n xc) (.int .i64 st.sea) (.int .i64 0) (V4.setCell ⟨gt, i, none⟩ (.int .i64 (t.tk i + st.tk i))).drew) := by
                  have := (HI2.out.putT i (t.tk i + st.tk i)).drew
                  unfold midR at this ⊢
                  rw [addTo_succ t.tk st.tk]
                  exact this
                go_wp2_with fail
                go_region
                go_wp2_with fail
                go_roundw
                case rel => exact ⟨i + 1, by omega, by go_num, HI3⟩
                case measure => simp [intOf]; omega
              · obtain rfl : i = n := by omega
                have HN := Lib.hid (midR_full hI.out.rr)
                clear hI hT
                go_wp2_with fail
                go_roundw
                case rel => exact ⟨k + 1, xl, xc, _, by omega, by go_num, HRN, HN⟩
                case measure => simp [intOf]; omega
      · obtain rfl : k = M := by omega
        have p0 : V.cell? ⟨po, 0, none⟩ = some (.slice (some ⟨gl, 0, none⟩) n c) := hS.out.out.cell (i := 0) (by omega)
        have p1 : V.cell? ⟨po, 1, none⟩ = some (.slice (some ⟨gf, 0, none⟩) n n) := hS.out.out.cell (i := 1) (by omega)
        have p2 : V.cell? ⟨po, 2, none⟩ = some (.slice (some ⟨gt, 0, none⟩) n n) := hS.out.out.cell (i := 2) (by omega)
        have p3 : V.cell? ⟨po, 3, none⟩ = some (.int .i64 t.sea) := hS.out.out.cell (i := 3) (by omega)
        have p4 : V.cell? ⟨po, 4, none⟩ = some (.int .i64 0) := hS.out.out.cell (i := 4) (by omega)
        obtain ⟨⟨q0, q1, q2, q3, q4⟩, ⟨f0, f1, f2, f3, f4⟩⟩ := hS.out.slot.kept
        have hzs := hS.out.slot.lt
        have hzp := hS.out.out.lt
        have hF := Lib.hid (hS.out.slot.fin (.slice (some ⟨gl, 0, none⟩) n c) (.slice (some ⟨gf, 0, none⟩) n n) (.slice (some ⟨gt, 0, none⟩) n n) (.int .i64 t.sea) (.int .i64 0))
        have HO := Lib.hid ((OutL.of_rr hS.out).put (.slice (some ⟨gl, 0, none⟩) n c) (.slice (some ⟨gf, 0, none⟩) n n) (.slice (some ⟨gt, 0, none⟩) n n) (.int .i64 t.sea) (.int .i64 0))
        go_wp2_with fail
        exact bodyPost_ret (v := vRo n gl gf gt c n n t.sea 0) (by
          obtain ⟨⟨x0, x1, x2, x3, x4⟩, _⟩ := hF.out
          simp only [results, Tryd.results26]
          simp [go_sem, x0, x1, x2, x3, x4]) rfl ⟨Or.inr ⟨t, gl, gf, gt, c, hT.out, rfl, HO.out.lower (by omega)⟩, hF.out.2⟩
/-- The model's SewerRun, whatever is handed in. -/
theorem specRun_any (a ra : Option Addr) (n cn M cr : Nat) (rs : Nat → Sw.Rc) (q : Nat → Sw.Rain) (w : World) (h : RcsAt a n rs w) (h2 : RainsAt ra M q w) :
    Calls Tryd.prog 26 #[.slice a n cn, .slice ra M cr] w fun e w' => RunOut w n (Sw.runF n M rs q) e w' ∧ Below w.heap.size w w' := by
  by_cases ho : 400 < n ∨ 60 < M
  · refine (specRun_over a ra n cn M cr w ho).mono ?_
    rintro e w' ⟨rfl, hb⟩
    exact ⟨Or.inl ⟨2, Sw.runF_bad (by rcases ho with k | k; exact Or.inl k; exact Or.inr (Or.inl k)), by decide, rfl⟩, hb⟩
  · by_cases hr : Sw.Right n rs
    · obtain ⟨lb, rfl, hl⟩ := h.all (by have := hr.1.1; omega)
      rw [Sw.runF_in (by rintro (k | k | k); exact ho (Or.inl k); exact ho (Or.inr k); exact k hr)]
      exact specRun_go lb n cn ra M cr rs q w hl h2 (by omega) hr
    · refine (specRun_no a ra n cn M cr rs w h ho hr).mono ?_
      rintro e w' ⟨rfl, hb⟩
      exact ⟨Or.inl ⟨1, Sw.runF_bad (Or.inr (Or.inr hr)), by decide, rfl⟩, hb⟩
end Go.Proofs.YtokbhkcpkilcmaaDoor
