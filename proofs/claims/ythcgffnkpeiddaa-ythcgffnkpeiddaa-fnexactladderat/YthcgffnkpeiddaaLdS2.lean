/-
  The model's LadderAt.
-/
import Derived.Test.YthcgffnkpeiddaaLdI4
import Derived.Test.YthcgffnkpeiddaaLdS1
namespace Go.Proofs.Ythcgffnkpeiddaa
open Go.RowKit Go.Deep

attribute [local go_sem] lrun_store_float lrun_store_complex
/-- What stands in the model's walk: the answer's place, 1, and z. -/
structure LdV (w : World) (p q : Nat) (V : World) : Prop where
  rr : V.rowIs w.heap.size 33 2 (rowL (cnL 0 0))
  ro : V.rowIs (w.heap.size + 1) 33 2 (rowL (cnL 4607182418800017408 0))
  rz : V.rowIs (w.heap.size + 2) 33 2 (rowL (cnL p q))
  old : Below w.heap.size w V
theorem LdV.below {w V V' : World} {p q : Nat} (h : LdV w p q V) (hb : Below V.heap.size V V') : LdV w p q V' := ⟨wrow_below h.rr hb, wrow_below h.ro hb, wrow_below h.rz hb, h.old.trans (hb.mono h.old.size)⟩
theorem row_far {V : World} {g b : Nat} {t : TypeId} {m : Nat} {F : Nat → Value} (h : V.rowIs g t m F) (hne : g ≠ b) (x y : Value) : ((V.setCell ⟨b, 0, none⟩ x).setCell ⟨b, 1, none⟩ y).rowIs g t m F := h.of_block ((Below.heap_setCell _ _ _ g hne).trans (Below.heap_setCell _ _ _ g hne))
theorem LdV.far {w V : World} {p q b : Nat} (h : LdV w p q V) (hb : w.heap.size + 2 < b) (x y : Value) : LdV w p q ((V.setCell ⟨b, 0, none⟩ x).setCell ⟨b, 1, none⟩ y) := ⟨row_far h.rr (by omega) _ _, row_far h.ro (by omega) _ _, row_far h.rz (by omega) _ _, lbelow_set2 h.old (by omega) _ _⟩
theorem LdV.put {w V : World} {p q : Nat} (h : LdV w p q V) (x y : Nat) : LdV w x y ((V.drew.setCell ⟨w.heap.size + 2, 0, none⟩ (.float .f64 x)).setCell ⟨w.heap.size + 2, 1, none⟩ (.float .f64 y)) := by
  have h' : LdV w p q V.drew := h.below (Below.refl _ _).drew
  refine ⟨row_far h'.rr (by omega) _ _, row_far h'.ro (by omega) _ _, ?_, lbelow_set2 h'.old (by omega) _ _⟩
  exact rowL_set (l := [.float .f64 x, .float .f64 q]) (rowL_set (l := [.float .f64 p, .float .f64 q]) h'.rz 0 (.float .f64 x) (by simp)) 1 (.float .f64 y) (by simp)
set_option maxRecDepth 100000 in
set_option maxHeartbeats 4000000 in
theorem sLadderOk (g n cap : Nat) (f : (Nat → Nat) × (Nat → Nat) × (Nat → Nat)) (t : Nat) (w : World) (h : RgBlk g n f w) (hn : n ≤ 30) (hf : ∀ i, rgB f i = true) (ht : Fl.measB t = true) :
    Calls Try.prog 13 #[.slice (some ⟨g, 0, none⟩) n cap, .float .f64 t] w fun e w' => e = .returned (cnV (ladL f t (dn n n)).1 (ladL f t (dn n n)).2) ∧ Below w.heap.size w w' := by
  have H := Lib.hid h
  have HG : Hid (g < w.heap.size) := h.lt
  have HF := Lib.hid hf
  have HT : Hid (Fl.Bd 29 t) := Fl.meas_bd ht
  have hnz : ¬ (30 : Int) < (n : Int) := by omega
  have HL0 : Hid (LdV w 0 0 (((w.alloc (.cells #[.float .f64 0, .float .f64 0] 33)).alloc (.cells #[.float .f64 4607182418800017408, .float .f64 0] 33)).alloc (.cells #[.float .f64 0, .float .f64 0] 33))) :=
    ⟨wrow_below (wrow_below (rowL_alloc w (cnL 0 0) _) (bel_alloc _ _)) (bel_alloc _ _), wrow_below (rowL_alloc' (by simp) (cnL 4607182418800017408 0) _) (bel_alloc _ _), rowL_alloc' (by simp) (cnL 0 0) _, (((bel_alloc _ _).alloc (by simp) _).alloc (by simp; omega) _)⟩
  have HC1 : Hid (RgBlk g n f (w.alloc (.cells #[.float .f64 0, .float .f64 0] 33))) := h.below (bel_alloc _ _)
  clear h hf
  go_enter Try.func13, Try.ntmps13
  go_wp2_with (go_at_call 26; refine (specMeas_any _ _).mono ?_; rintro e w' ⟨rfl, rfl⟩)
  go_loopw [5] (fun i wx => ∃ k : Nat, k ≤ n ∧ i = .int .i64 k ∧ wx = w.alloc (.cells #[.float .f64 0, .float .f64 0] 33)) (fun i _ => n - (intOf i).toNat)
  case atStart => exact ⟨0, Nat.zero_le _, rfl, rfl⟩
  case round =>
    obtain ⟨k, hk, rfl, rfl⟩ := hrel
    by_cases hlt : k < n
    · have hltz : (k : Int) < (n : Int) := by omega
      have hk0 : (0 : Int) ≤ (k : Int) := by omega
      obtain ⟨c0, c1, c2⟩ := HC1.out.cell hlt
      have hm := HF.out k
      obtain ⟨hm1, m2⟩ := Bool.and_eq_true_iff.1 hm
      obtain ⟨m0, m1⟩ := Bool.and_eq_true_iff.1 hm1
      clear hm hm1
      go_wp2_with (go_at_call 26; refine (specMeas_any _ _).mono ?_; rintro e w' ⟨rfl, hw⟩; subst w')
      go_roundw
      case rel => exact ⟨k + 1, by omega, by go_num, by simp⟩
      case measure => simp [intOf]; omega
    · obtain rfl : n = k := by omega
      go_wp2_with fail
      go_loopw [8] (fun i wx => ∃ j : Nat, j ≤ n ∧ i = .int .i64 ((n : Int) - 1 - j) ∧ Hid (LdV w (ladL f t (dn n j)).1 (ladL f t (dn n j)).2 wx)) (fun i _ => (intOf i + 1).toNat)
      case atStart => exact ⟨0, Nat.zero_le _, by go_num, HL0.out⟩
      case round =>
        obtain ⟨j, hj, rfl, LW⟩ := hrel
        by_cases hlt2 : j < n
        case neg =>
          obtain rfl : n = j := by omega
          have e1 : (n : Int) - 1 - n = -1 := by omega
          rw [e1]
          have HB : Hid (Below w.heap.size w wr) := LW.out.old
          obtain ⟨d0, d1, f0, f1, l0⟩ := told2 LW.out.rr
          obtain ⟨z0, z1, _, _, _⟩ := told2 LW.out.rz
          clear LW
          go_wp2_with fail
          exact bodyPost_ret (v := cnV (ladL f t (dn n n)).1 (ladL f t (dn n n)).2) (by simp [results, Try.results13, go_sem, d0, d1]) rfl ⟨rfl, lbelow_set2 HB.out (by omega) _ _⟩
        case pos =>
        have e1 : (n : Int) - 1 - j = ((n - 1 - j : Nat) : Int) := by omega
        rw [e1]
        have HE : Hid (dn n (j + 1) = dn n j ++ [n - 1 - j]) := dn_succ n j
        have HI : Hid (n - 1 - j < n ∧ (n - 1 - j) + j + 1 = n) := by show _ ∧ _; omega
        have HQ0 : Hid (j = 0 → (ladL f t (dn n j)).1 = 0 ∧ (ladL f t (dn n j)).2 = 0) := by rintro rfl; exact ⟨rfl, rfl⟩
        have HP := Lib.hid (ladL_bd HF.out HT.out (dn n j))
        have HSN : Hid (ladL f t (dn n (j + 1)) = (Fl.zRe (f.1 (n - 1 - j)) (Fl.mulW (f.2.2 (n - 1 - j)) t) (ladL f t (dn n j)).1 (ladL f t (dn n j)).2, Fl.zIm (Fl.mulW (f.2.1 (n - 1 - j)) t) (Fl.mulW (f.2.2 (n - 1 - j)) t) (ladL f t (dn n j)).1 (ladL f t (dn n j)).2)) := by show _ = _; rw [HE.out, ladL_snoc]
        have HCL : Hid (∀ V, Below w.heap.size w V → V.cell? ⟨g, (n - 1 - j) * 3, none⟩ = some (.float .f64 (f.1 (n - 1 - j))) ∧ V.cell? ⟨g, (n - 1 - j) * 3 + 1, none⟩ = some (.float .f64 (f.2.1 (n - 1 - j))) ∧ V.cell? ⟨g, (n - 1 - j) * 3 + 2, none⟩ = some (.float .f64 (f.2.2 (n - 1 - j)))) := fun V hV => (H.out.below hV).cell (i := n - 1 - j) (by omega)
        clear HE
        have hj0 : j = 0 ∧ ¬ ((n - 1 - j : Nat) : Int) < (n : Int) - 1 ∨ ((n - 1 - j : Nat) : Int) < (n : Int) - 1 := by omega
        have hb3 := rgB_bd (HF.out (n - 1 - j))
        generalize n - 1 - j = i at *
        generalize f.1 i = a at *
        generalize f.2.1 i = b at *
        generalize f.2.2 i = c at *
        generalize (ladL f t (dn n j)).1 = p at *
        generalize (ladL f t (dn n j)).2 = q at *
        have pc := Fl.prod_bd hb3.2.2 HT.out
        have pb := Fl.prod_bd hb3.2.1 HT.out
        have hy := Fl.y_bd HP.out.1 HP.out.2 pc.2
        have hz := Fl.z_bd HP.out.1 HP.out.2 pc.2 hb3.1 pb.2
        have HY := Lib.hid hy.1
        have q1 := fun (wx : World) => run_float_arith (P := Try.prog) (w := wx) .mul 22 .f64 c t _ pc.1
        have q2 := fun (wx : World) => run_float_arith (P := Try.prog) (w := wx) .mul 22 .f64 b t _ pb.1
        have s1 := fun (wx : World) => run_float_arith (P := Try.prog) (w := wx) .add 22 .f64 0 (Fl.qRe p q) _ hy.2.1
        have s2 := fun (wx : World) => run_float_arith (P := Try.prog) (w := wx) .add 22 .f64 (Fl.mulW c t) (Fl.qIm p q) _ hy.2.2
        have s3 := fun (wx : World) => run_float_arith (P := Try.prog) (w := wx) .add 22 .f64 a (Fl.qRe (Fl.yRe p q) (Fl.yIm (Fl.mulW c t) p q)) _ hz.2.1
        have s4 := fun (wx : World) => run_float_arith (P := Try.prog) (w := wx) .add 22 .f64 (Fl.mulW b t) (Fl.qIm (Fl.yRe p q) (Fl.yIm (Fl.mulW c t) p q)) _ hz.2.2
        have zz := Fl.zz_order
        have hi0 : (0 : Int) ≤ (i : Int) := by omega
        have hiz : (i : Int) < (n : Int) := by have := HI.out; omega
        obtain ⟨c0, c1, c2⟩ := HCL.out wr LW.out.old
        clear hy hz pc pb hb3
        have ZC := Fl.zero_cases HP.out.1.nm HP.out.2.nm
        rcases hj0 with ⟨rfl, hnl⟩ | hl
        · obtain ⟨hp0, hq0⟩ := HQ0.out rfl
          subst hp0 hq0
          have e1 : Fl.yRe 0 0 = 0 := by unfold Fl.yRe Fl.zeroB; rw [zz]; rfl
          have e2 : ∀ g, Fl.yIm g 0 0 = g := by intro g; unfold Fl.yIm Fl.zeroB; rw [zz]; rfl
          clear ZC
          rw [e1, e2 (Fl.mulW c t)] at s3 s4 HY
          clear e1 e2
          obtain ⟨W2, hW2⟩ : ∃ W2, W2 = wr.alloc (.cells #[.float .f64 0, .float .f64 (Fl.mulW c t)] 33) := ⟨_, rfl⟩
          have L2 : Hid (LdV w 0 0 W2) := by show LdV _ _ _ _; rw [hW2]; exact LW.out.below (bel_alloc _ _)
          have R2 : Hid (W2.rowIs wr.heap.size 33 2 (rowL (cnL 0 (Fl.mulW c t)))) := by show World.rowIs _ _ _ _ _; rw [hW2]; exact rowL_alloc wr _ _
          have HW2 := Lib.hid hW2
          obtain ⟨o0, o1', _, _, _⟩ := told2 LW.out.ro
          obtain ⟨p0, p1, _, _, _⟩ := told2 LW.out.rz
          clear hW2
          go_wp2_with fail
          rw [← HW2.out]
          clear o0 o1' p0 p1 zz c0 c1 c2
          refine (sDivOne_any _ _ _ HY.out.1 HY.out.2).mono ?_
          rintro e w5 ⟨rfl, hb⟩
          have L5 := Lib.hid (L2.out.below hb)
          obtain ⟨W6, hW6⟩ : ∃ W6, W6 = w5.alloc (.cells #[.float .f64 (Fl.qRe 0 (Fl.mulW c t)), .float .f64 (Fl.qIm 0 (Fl.mulW c t))] 33) := ⟨_, rfl⟩
          have L6 : Hid (LdV w 0 0 W6) := by show LdV _ _ _ _; rw [hW6]; exact L5.out.below (bel_alloc _ _)
          have R6 : Hid (W6.rowIs w5.heap.size 33 2 (rowL (cnL (Fl.qRe 0 (Fl.mulW c t)) (Fl.qIm 0 (Fl.mulW c t))))) := by show World.rowIs _ _ _ _ _; rw [hW6]; exact rowL_alloc w5 _ _
          have NE : Hid (w.heap.size + 2 ≠ g ∧ w.heap.size + 2 ≠ w5.heap.size) := by
            have h1 := L5.out.rz.lt
            have h2 := HG.out
            exact ⟨by omega, by omega⟩
          obtain ⟨c0, c1, c2⟩ := HCL.out _ L5.out.old
          have lg : g < w5.heap.size := by have := L5.out.rz.lt; have := HG.out; omega
          have HW6 := Lib.hid hW6
          clear hb hW6
          go_wp2_with fail
          rw [← HW6.out]
          clear c0 c1 c2
          obtain ⟨c0, c1, c2⟩ := HCL.out _ L6.out.old
          obtain ⟨⟨d0, d1⟩, _⟩ := row2_cells R6.out
          obtain ⟨z0, z1, fz0, fz1, lz⟩ := told2 L6.out.rz
          clear HW6 c1 c2 lg
          generalize w5.heap.size = Qb at *
          refine wp_region_held_drew (S := fun V => V.cell? ⟨g, i * 3, none⟩ = some (.float .f64 a) ∧ V.cell? ⟨Qb, 0, none⟩ = some (.float .f64 (Fl.qRe 0 (Fl.mulW c t))) ∧ V.cell? ⟨Qb, 1, none⟩ = some (.float .f64 (Fl.qIm 0 (Fl.mulW c t)))) (by kernel_rfl) ⟨c0, d0, d1⟩ (fun hHeld => ?_)
          refine take_do (i := 0) (v := (.slice (some ⟨g, 0, none⟩) n cap)) rfl (by kernel_rfl) (by kernel_rfl) (by kernel_rfl) (fun _ _ _ h => h) (by rfl) ?_ (by assumption) ?_
          · intro w' hSw
            obtain ⟨r0, r1, r2⟩ := hSw
            go_simp
          simp only [Act.put, List.setIfInBounds_toArray, List.set_cons_zero, List.set_cons_succ]
          refine take_do (i := 1) (v := (.int .i64 (i : Int))) rfl (by kernel_rfl) (by kernel_rfl) (by kernel_rfl) (fun _ _ _ h => h) (by rfl) ?_ (by assumption) ?_
          · intro w' hSw
            obtain ⟨r0, r1, r2⟩ := hSw
            go_simp
          simp only [Act.put, List.setIfInBounds_toArray, List.set_cons_zero, List.set_cons_succ]
          refine take_do (i := 2) (v := (.pointer (some ⟨g, i * 3, none⟩))) rfl (by kernel_rfl) (by kernel_rfl) (by kernel_rfl) (fun _ _ _ h => h) (by rfl) ?_ (by assumption) ?_
          · intro w' hSw
            obtain ⟨r0, r1, r2⟩ := hSw
            go_simp
          simp only [Act.put, List.setIfInBounds_toArray, List.set_cons_zero, List.set_cons_succ]
          refine take_do (i := 3) (v := (.pointer (some ⟨g, i * 3, none⟩))) rfl (by kernel_rfl) (by kernel_rfl) (by kernel_rfl) (fun _ _ _ h => h) (by rfl) ?_ (by assumption) ?_
          · intro w' hSw
            obtain ⟨r0, r1, r2⟩ := hSw
            go_simp
          simp only [Act.put, List.setIfInBounds_toArray, List.set_cons_zero, List.set_cons_succ]
          refine take_do (i := 4) (v := (.float .f64 a)) rfl (by kernel_rfl) (by kernel_rfl) (by kernel_rfl) (fun _ _ _ h => h) (by rfl) ?_ (by assumption) ?_
          · intro w' hSw
            obtain ⟨r0, r1, r2⟩ := hSw
            go_simp
          simp only [Act.put, List.setIfInBounds_toArray, List.set_cons_zero, List.set_cons_succ]
          refine take_do (i := 5) (v := (.pointer (some ⟨Qb, 0, none⟩))) rfl (by kernel_rfl) (by kernel_rfl) (by kernel_rfl) (fun _ _ _ h => h) (by rfl) ?_ (by assumption) ?_
          · intro w' hSw
            obtain ⟨r0, r1, r2⟩ := hSw
            go_simp
          simp only [Act.put, List.setIfInBounds_toArray, List.set_cons_zero, List.set_cons_succ]
          refine take_do (i := 6) (v := (.float .f64 (Fl.qRe 0 (Fl.mulW c t)))) rfl (by kernel_rfl) (by kernel_rfl) (by kernel_rfl) (fun _ _ _ h => h) (by rfl) ?_ (by assumption) ?_
          · intro w' hSw
            obtain ⟨r0, r1, r2⟩ := hSw
            go_simp
          simp only [Act.put, List.setIfInBounds_toArray, List.set_cons_zero, List.set_cons_succ]
          refine take_do (i := 7) (v := (.float .f64 (Fl.zRe a (Fl.mulW c t) 0 0))) rfl (by kernel_rfl) (by kernel_rfl) (by kernel_rfl) (fun _ _ _ h => h) (by rfl) ?_ (by assumption) ?_
          · intro w' hSw
            obtain ⟨r0, r1, r2⟩ := hSw
            go_simp
          simp only [Act.put, List.setIfInBounds_toArray, List.set_cons_zero, List.set_cons_succ]
          refine take_do (i := 8) (v := (.float .f64 (Fl.mulW b t))) rfl (by kernel_rfl) (by kernel_rfl) (by kernel_rfl) (fun _ _ _ h => h) (by rfl) ?_ (by assumption) ?_
          · intro w' hSw
            obtain ⟨r0, r1, r2⟩ := hSw
            go_simp
          simp only [Act.put, List.setIfInBounds_toArray, List.set_cons_zero, List.set_cons_succ]
          refine take_do (i := 9) (v := (.pointer (some ⟨Qb, 1, none⟩))) rfl (by kernel_rfl) (by kernel_rfl) (by kernel_rfl) (fun _ _ _ h => h) (by rfl) ?_ (by assumption) ?_
          · intro w' hSw
            obtain ⟨r0, r1, r2⟩ := hSw
            go_simp
          simp only [Act.put, List.setIfInBounds_toArray, List.set_cons_zero, List.set_cons_succ]
          refine take_do (i := 10) (v := (.float .f64 (Fl.qIm 0 (Fl.mulW c t)))) rfl (by kernel_rfl) (by kernel_rfl) (by kernel_rfl) (fun _ _ _ h => h) (by rfl) ?_ (by assumption) ?_
          · intro w' hSw
            obtain ⟨r0, r1, r2⟩ := hSw
            go_simp
          simp only [Act.put, List.setIfInBounds_toArray, List.set_cons_zero, List.set_cons_succ]
          refine take_do (i := 11) (v := (.float .f64 (Fl.zIm (Fl.mulW b t) (Fl.mulW c t) 0 0))) rfl (by kernel_rfl) (by kernel_rfl) (by kernel_rfl) (fun _ _ _ h => h) (by rfl) ?_ (by assumption) ?_
          · intro w' hSw
            obtain ⟨r0, r1, r2⟩ := hSw
            go_simp
          simp only [Act.put, List.setIfInBounds_toArray, List.set_cons_zero, List.set_cons_succ]
          refine take_do (i := 12) (v := (cnV (Fl.zRe a (Fl.mulW c t) 0 0) (Fl.zIm (Fl.mulW b t) (Fl.mulW c t) 0 0))) rfl (by kernel_rfl) (by kernel_rfl) (by kernel_rfl) (fun _ _ _ h => h) (by rfl) ?_ (by assumption) ?_
          · intro w' hSw
            obtain ⟨r0, r1, r2⟩ := hSw
            go_simp
          simp only [Act.put, List.setIfInBounds_toArray, List.set_cons_zero, List.set_cons_succ]
          refine take_call (i := 13) rfl (by kernel_rfl) (fun K2 hK => ?_)
          go_simp
          refine hK.out _ _ ⟨(World.cell?_setCell_far _ _ _ _ NE.out.1).trans ((World.cell?_setCell_far _ _ _ _ NE.out.1).trans c0), (World.cell?_setCell_far _ _ _ _ NE.out.2).trans ((World.cell?_setCell_far _ _ _ _ NE.out.2).trans d0), (World.cell?_setCell_far _ _ _ _ NE.out.2).trans ((World.cell?_setCell_far _ _ _ _ NE.out.2).trans d1)⟩ (fun _ => wpAnyH_done (by kernel_rfl) ?_ _)
          have L7 := Lib.hid (L6.out.put (Fl.zRe a (Fl.mulW c t) 0 0) (Fl.zIm (Fl.mulW b t) (Fl.mulW c t) 0 0))
          clear hK hHeld c0 d0 d1 z0 z1 fz0 fz1 lz s1 s2 s3 s4 q1 q2
          go_wp2_with fail
          go_roundw
          case rel => exact ⟨0 + 1, by have := HI.out; omega, by have := HI.out; go_num, by rw [HSN.out]; exact L7.out⟩
          case measure => simp [intOf]
        · rcases ZC with ⟨o1, o2, e1, e2⟩ | ⟨o1 | o1, e1, e2⟩ | ⟨o1, o2 | o2, e1, e2⟩
          · rw [e1, e2 (Fl.mulW c t)] at s3 s4 HY
            clear e1 e2
            obtain ⟨W2, hW2⟩ : ∃ W2, W2 = wr.alloc (.cells #[.float .f64 0, .float .f64 (Fl.mulW c t)] 33) := ⟨_, rfl⟩
            have L2 : Hid (LdV w p q W2) := by show LdV _ _ _ _; rw [hW2]; exact LW.out.below (bel_alloc _ _)
            have R2 : Hid (W2.rowIs wr.heap.size 33 2 (rowL (cnL 0 (Fl.mulW c t)))) := by show World.rowIs _ _ _ _ _; rw [hW2]; exact rowL_alloc wr _ _
            have HW2 := Lib.hid hW2
            obtain ⟨o0, o1', _, _, _⟩ := told2 LW.out.ro
            obtain ⟨p0, p1, _, _, _⟩ := told2 LW.out.rz
            clear hW2
            go_wp2_with fail
            rw [← HW2.out]
            clear o0 o1' p0 p1 zz o1 o2 c0 c1 c2
            refine (sDivOne_any _ _ _ HY.out.1 HY.out.2).mono ?_
            rintro e w5 ⟨rfl, hb⟩
            have L5 := Lib.hid (L2.out.below hb)
            obtain ⟨W6, hW6⟩ : ∃ W6, W6 = w5.alloc (.cells #[.float .f64 (Fl.qRe 0 (Fl.mulW c t)), .float .f64 (Fl.qIm 0 (Fl.mulW c t))] 33) := ⟨_, rfl⟩
            have L6 : Hid (LdV w p q W6) := by show LdV _ _ _ _; rw [hW6]; exact L5.out.below (bel_alloc _ _)
            have R6 : Hid (W6.rowIs w5.heap.size 33 2 (rowL (cnL (Fl.qRe 0 (Fl.mulW c t)) (Fl.qIm 0 (Fl.mulW c t))))) := by show World.rowIs _ _ _ _ _; rw [hW6]; exact rowL_alloc w5 _ _
            have NE : Hid (w.heap.size + 2 ≠ g ∧ w.heap.size + 2 ≠ w5.heap.size) := by
              have h1 := L5.out.rz.lt
              have h2 := HG.out
              exact ⟨by omega, by omega⟩
            obtain ⟨c0, c1, c2⟩ := HCL.out _ L5.out.old
            have lg : g < w5.heap.size := by have := L5.out.rz.lt; have := HG.out; omega
            have HW6 := Lib.hid hW6
            clear hb hW6
            go_wp2_with fail
            rw [← HW6.out]
            clear c0 c1 c2
            obtain ⟨c0, c1, c2⟩ := HCL.out _ L6.out.old
            obtain ⟨⟨d0, d1⟩, _⟩ := row2_cells R6.out
            obtain ⟨z0, z1, fz0, fz1, lz⟩ := told2 L6.out.rz
            clear HW6 c1 c2 lg
            generalize w5.heap.size = Qb at *
            refine wp_region_held_drew (S := fun V => V.cell? ⟨g, i * 3, none⟩ = some (.float .f64 a) ∧ V.cell? ⟨Qb, 0, none⟩ = some (.float .f64 (Fl.qRe 0 (Fl.mulW c t))) ∧ V.cell? ⟨Qb, 1, none⟩ = some (.float .f64 (Fl.qIm 0 (Fl.mulW c t)))) (by kernel_rfl) ⟨c0, d0, d1⟩ (fun hHeld => ?_)
            refine take_do (i := 0) (v := (.slice (some ⟨g, 0, none⟩) n cap)) rfl (by kernel_rfl) (by kernel_rfl) (by kernel_rfl) (fun _ _ _ h => h) (by rfl) ?_ (by assumption) ?_
            · intro w' hSw
              obtain ⟨r0, r1, r2⟩ := hSw
              go_simp
            simp only [Act.put, List.setIfInBounds_toArray, List.set_cons_zero, List.set_cons_succ]
            refine take_do (i := 1) (v := (.int .i64 (i : Int))) rfl (by kernel_rfl) (by kernel_rfl) (by kernel_rfl) (fun _ _ _ h => h) (by rfl) ?_ (by assumption) ?_
            · intro w' hSw
              obtain ⟨r0, r1, r2⟩ := hSw
              go_simp
            simp only [Act.put, List.setIfInBounds_toArray, List.set_cons_zero, List.set_cons_succ]
            refine take_do (i := 2) (v := (.pointer (some ⟨g, i * 3, none⟩))) rfl (by kernel_rfl) (by kernel_rfl) (by kernel_rfl) (fun _ _ _ h => h) (by rfl) ?_ (by assumption) ?_
            · intro w' hSw
              obtain ⟨r0, r1, r2⟩ := hSw
              go_simp
            simp only [Act.put, List.setIfInBounds_toArray, List.set_cons_zero, List.set_cons_succ]
            refine take_do (i := 3) (v := (.pointer (some ⟨g, i * 3, none⟩))) rfl (by kernel_rfl) (by kernel_rfl) (by kernel_rfl) (fun _ _ _ h => h) (by rfl) ?_ (by assumption) ?_
            · intro w' hSw
              obtain ⟨r0, r1, r2⟩ := hSw
              go_simp
            simp only [Act.put, List.setIfInBounds_toArray, List.set_cons_zero, List.set_cons_succ]
            refine take_do (i := 4) (v := (.float .f64 a)) rfl (by kernel_rfl) (by kernel_rfl) (by kernel_rfl) (fun _ _ _ h => h) (by rfl) ?_ (by assumption) ?_
            · intro w' hSw
              obtain ⟨r0, r1, r2⟩ := hSw
              go_simp
            simp only [Act.put, List.setIfInBounds_toArray, List.set_cons_zero, List.set_cons_succ]
            refine take_do (i := 5) (v := (.pointer (some ⟨Qb, 0, none⟩))) rfl (by kernel_rfl) (by kernel_rfl) (by kernel_rfl) (fun _ _ _ h => h) (by rfl) ?_ (by assumption) ?_
            · intro w' hSw
              obtain ⟨r0, r1, r2⟩ := hSw
              go_simp
            simp only [Act.put, List.setIfInBounds_toArray, List.set_cons_zero, List.set_cons_succ]
            refine take_do (i := 6) (v := (.float .f64 (Fl.qRe 0 (Fl.mulW c t)))) rfl (by kernel_rfl) (by kernel_rfl) (by kernel_rfl) (fun _ _ _ h => h) (by rfl) ?_ (by assumption) ?_
            · intro w' hSw
              obtain ⟨r0, r1, r2⟩ := hSw
              go_simp
            simp only [Act.put, List.setIfInBounds_toArray, List.set_cons_zero, List.set_cons_succ]
            refine take_do (i := 7) (v := (.float .f64 (Fl.zRe a (Fl.mulW c t) p q))) rfl (by kernel_rfl) (by kernel_rfl) (by kernel_rfl) (fun _ _ _ h => h) (by rfl) ?_ (by assumption) ?_
            · intro w' hSw
              obtain ⟨r0, r1, r2⟩ := hSw
              go_simp
            simp only [Act.put, List.setIfInBounds_toArray, List.set_cons_zero, List.set_cons_succ]
            refine take_do (i := 8) (v := (.float .f64 (Fl.mulW b t))) rfl (by kernel_rfl) (by kernel_rfl) (by kernel_rfl) (fun _ _ _ h => h) (by rfl) ?_ (by assumption) ?_
            · intro w' hSw
              obtain ⟨r0, r1, r2⟩ := hSw
              go_simp
            simp only [Act.put, List.setIfInBounds_toArray, List.set_cons_zero, List.set_cons_succ]
            refine take_do (i := 9) (v := (.pointer (some ⟨Qb, 1, none⟩))) rfl (by kernel_rfl) (by kernel_rfl) (by kernel_rfl) (fun _ _ _ h => h) (by rfl) ?_ (by assumption) ?_
            · intro w' hSw
              obtain ⟨r0, r1, r2⟩ := hSw
              go_simp
            simp only [Act.put, List.setIfInBounds_toArray, List.set_cons_zero, List.set_cons_succ]
            refine take_do (i := 10) (v := (.float .f64 (Fl.qIm 0 (Fl.mulW c t)))) rfl (by kernel_rfl) (by kernel_rfl) (by kernel_rfl) (fun _ _ _ h => h) (by rfl) ?_ (by assumption) ?_
            · intro w' hSw
              obtain ⟨r0, r1, r2⟩ := hSw
              go_simp
            simp only [Act.put, List.setIfInBounds_toArray, List.set_cons_zero, List.set_cons_succ]
            refine take_do (i := 11) (v := (.float .f64 (Fl.zIm (Fl.mulW b t) (Fl.mulW c t) p q))) rfl (by kernel_rfl) (by kernel_rfl) (by kernel_rfl) (fun _ _ _ h => h) (by rfl) ?_ (by assumption) ?_
            · intro w' hSw
              obtain ⟨r0, r1, r2⟩ := hSw
              go_simp
            simp only [Act.put, List.setIfInBounds_toArray, List.set_cons_zero, List.set_cons_succ]
            refine take_do (i := 12) (v := (cnV (Fl.zRe a (Fl.mulW c t) p q) (Fl.zIm (Fl.mulW b t) (Fl.mulW c t) p q))) rfl (by kernel_rfl) (by kernel_rfl) (by kernel_rfl) (fun _ _ _ h => h) (by rfl) ?_ (by assumption) ?_
            · intro w' hSw
              obtain ⟨r0, r1, r2⟩ := hSw
              go_simp
            simp only [Act.put, List.setIfInBounds_toArray, List.set_cons_zero, List.set_cons_succ]
            refine take_call (i := 13) rfl (by kernel_rfl) (fun K2 hK => ?_)
            go_simp
            refine hK.out _ _ ⟨(World.cell?_setCell_far _ _ _ _ NE.out.1).trans ((World.cell?_setCell_far _ _ _ _ NE.out.1).trans c0), (World.cell?_setCell_far _ _ _ _ NE.out.2).trans ((World.cell?_setCell_far _ _ _ _ NE.out.2).trans d0), (World.cell?_setCell_far _ _ _ _ NE.out.2).trans ((World.cell?_setCell_far _ _ _ _ NE.out.2).trans d1)⟩ (fun _ => wpAnyH_done (by kernel_rfl) ?_ _)
            have L7 := Lib.hid (L6.out.put (Fl.zRe a (Fl.mulW c t) p q) (Fl.zIm (Fl.mulW b t) (Fl.mulW c t) p q))
            clear hK hHeld c0 d0 d1 z0 z1 fz0 fz1 lz s1 s2 s3 s4 q1 q2
            go_wp2_with fail
            go_roundw
            case rel => exact ⟨j + 1, by have := HI.out; omega, by have := HI.out; go_num, by rw [HSN.out]; exact L7.out⟩
            case measure => simp [intOf]
          · rw [e1, e2 (Fl.mulW c t)] at s3 s4 HY
            clear e1 e2
            obtain ⟨W2, hW2⟩ : ∃ W2, W2 = wr.alloc (.cells #[.float .f64 0, .float .f64 (Fl.mulW c t)] 33) := ⟨_, rfl⟩
            have L2 : Hid (LdV w p q W2) := by show LdV _ _ _ _; rw [hW2]; exact LW.out.below (bel_alloc _ _)
            have R2 : Hid (W2.rowIs wr.heap.size 33 2 (rowL (cnL 0 (Fl.mulW c t)))) := by show World.rowIs _ _ _ _ _; rw [hW2]; exact rowL_alloc wr _ _
            have HW2 := Lib.hid hW2
            obtain ⟨o0, o1', _, _, _⟩ := told2 LW.out.ro
            obtain ⟨p0, p1, _, _, _⟩ := told2 LW.out.rz
            clear hW2
            go_wp2_with fail
            rw [← HW2.out]
            clear o0 o1' p0 p1 zz o1 c0 c1 c2
            refine (sDivOne_any _ _ _ HP.out.1 HP.out.2).mono ?_
            rintro e w3 ⟨rfl, hb⟩
            have L3 := Lib.hid (L2.out.below hb)
            have R3 := Lib.hid (wrow_below R2.out hb)
            obtain ⟨W4, hW4⟩ : ∃ W4, W4 = ((w3.setCell ⟨wr.heap.size, 0, none⟩ (.float .f64 (Fl.addW 0 (Fl.qRe p q)))).setCell ⟨wr.heap.size, 1, none⟩ (.float .f64 (Fl.addW (Fl.mulW c t) (Fl.qIm p q)))).alloc (.cells #[.float .f64 (Fl.qRe p q), .float .f64 (Fl.qIm p q)] 33) := ⟨_, rfl⟩
            have L4 : Hid (LdV w p q W4) := by
              show LdV _ _ _ _
              rw [hW4]
              exact (L3.out.far (b := wr.heap.size) (by have := LW.out.rz.lt; omega) _ _).below (bel_alloc _ _)
            have HW4 := Lib.hid hW4
            obtain ⟨o0, o1', _, _, _⟩ := told2 L3.out.ro
            obtain ⟨y0, y1, fy0, fy1, ly⟩ := told2 R3.out
            have no1 : w.heap.size + 1 ≠ wr.heap.size := by have := LW.out.rz.lt; omega
            clear hb hW4
            go_wp2_with fail
            rw [← HW4.out]
            clear o0 o1' y0 y1 fy0 fy1 ly HW2 HW4 R2 L2 no1
            refine (sDivOne_any _ _ _ HY.out.1 HY.out.2).mono ?_
            rintro e w5 ⟨rfl, hb⟩
            have L5 := Lib.hid (L4.out.below hb)
            obtain ⟨W6, hW6⟩ : ∃ W6, W6 = w5.alloc (.cells #[.float .f64 (Fl.qRe (Fl.addW 0 (Fl.qRe p q)) (Fl.addW (Fl.mulW c t) (Fl.qIm p q))), .float .f64 (Fl.qIm (Fl.addW 0 (Fl.qRe p q)) (Fl.addW (Fl.mulW c t) (Fl.qIm p q)))] 33) := ⟨_, rfl⟩
            have L6 : Hid (LdV w p q W6) := by show LdV _ _ _ _; rw [hW6]; exact L5.out.below (bel_alloc _ _)
            have R6 : Hid (W6.rowIs w5.heap.size 33 2 (rowL (cnL (Fl.qRe (Fl.addW 0 (Fl.qRe p q)) (Fl.addW (Fl.mulW c t) (Fl.qIm p q))) (Fl.qIm (Fl.addW 0 (Fl.qRe p q)) (Fl.addW (Fl.mulW c t) (Fl.qIm p q)))))) := by show World.rowIs _ _ _ _ _; rw [hW6]; exact rowL_alloc w5 _ _
            have NE : Hid (w.heap.size + 2 ≠ g ∧ w.heap.size + 2 ≠ w5.heap.size) := by
              have h1 := L5.out.rz.lt
              have h2 := HG.out
              exact ⟨by omega, by omega⟩
            obtain ⟨c0, c1, c2⟩ := HCL.out _ L5.out.old
            have lg : g < w5.heap.size := by have := L5.out.rz.lt; have := HG.out; omega
            have HW6 := Lib.hid hW6
            clear hb hW6
            go_wp2_with fail
            rw [← HW6.out]
            clear c0 c1 c2
            obtain ⟨c0, c1, c2⟩ := HCL.out _ L6.out.old
            obtain ⟨⟨d0, d1⟩, _⟩ := row2_cells R6.out
            obtain ⟨z0, z1, fz0, fz1, lz⟩ := told2 L6.out.rz
            clear HW6 c1 c2 lg
            generalize w5.heap.size = Qb at *
            refine wp_region_held_drew (S := fun V => V.cell? ⟨g, i * 3, none⟩ = some (.float .f64 a) ∧ V.cell? ⟨Qb, 0, none⟩ = some (.float .f64 (Fl.qRe (Fl.addW 0 (Fl.qRe p q)) (Fl.addW (Fl.mulW c t) (Fl.qIm p q)))) ∧ V.cell? ⟨Qb, 1, none⟩ = some (.float .f64 (Fl.qIm (Fl.addW 0 (Fl.qRe p q)) (Fl.addW (Fl.mulW c t) (Fl.qIm p q))))) (by kernel_rfl) ⟨c0, d0, d1⟩ (fun hHeld => ?_)
            refine take_do (i := 0) (v := (.slice (some ⟨g, 0, none⟩) n cap)) rfl (by kernel_rfl) (by kernel_rfl) (by kernel_rfl) (fun _ _ _ h => h) (by rfl) ?_ (by assumption) ?_
            · intro w' hSw
              obtain ⟨r0, r1, r2⟩ := hSw
              go_simp
            simp only [Act.put, List.setIfInBounds_toArray, List.set_cons_zero, List.set_cons_succ]
            refine take_do (i := 1) (v := (.int .i64 (i : Int))) rfl (by kernel_rfl) (by kernel_rfl) (by kernel_rfl) (fun _ _ _ h => h) (by rfl) ?_ (by assumption) ?_
            · intro w' hSw
              obtain ⟨r0, r1, r2⟩ := hSw
              go_simp
            simp only [Act.put, List.setIfInBounds_toArray, List.set_cons_zero, List.set_cons_succ]
            refine take_do (i := 2) (v := (.pointer (some ⟨g, i * 3, none⟩))) rfl (by kernel_rfl) (by kernel_rfl) (by kernel_rfl) (fun _ _ _ h => h) (by rfl) ?_ (by assumption) ?_
            · intro w' hSw
              obtain ⟨r0, r1, r2⟩ := hSw
              go_simp
            simp only [Act.put, List.setIfInBounds_toArray, List.set_cons_zero, List.set_cons_succ]
            refine take_do (i := 3) (v := (.pointer (some ⟨g, i * 3, none⟩))) rfl (by kernel_rfl) (by kernel_rfl) (by kernel_rfl) (fun _ _ _ h => h) (by rfl) ?_ (by assumption) ?_
            · intro w' hSw
              obtain ⟨r0, r1, r2⟩ := hSw
              go_simp
            simp only [Act.put, List.setIfInBounds_toArray, List.set_cons_zero, List.set_cons_succ]
            refine take_do (i := 4) (v := (.float .f64 a)) rfl (by kernel_rfl) (by kernel_rfl) (by kernel_rfl) (fun _ _ _ h => h) (by rfl) ?_ (by assumption) ?_
            · intro w' hSw
              obtain ⟨r0, r1, r2⟩ := hSw
              go_simp
            simp only [Act.put, List.setIfInBounds_toArray, List.set_cons_zero, List.set_cons_succ]
            refine take_do (i := 5) (v := (.pointer (some ⟨Qb, 0, none⟩))) rfl (by kernel_rfl) (by kernel_rfl) (by kernel_rfl) (fun _ _ _ h => h) (by rfl) ?_ (by assumption) ?_
            · intro w' hSw
              obtain ⟨r0, r1, r2⟩ := hSw
              go_simp
            simp only [Act.put, List.setIfInBounds_toArray, List.set_cons_zero, List.set_cons_succ]
            refine take_do (i := 6) (v := (.float .f64 (Fl.qRe (Fl.addW 0 (Fl.qRe p q)) (Fl.addW (Fl.mulW c t) (Fl.qIm p q))))) rfl (by kernel_rfl) (by kernel_rfl) (by kernel_rfl) (fun _ _ _ h => h) (by rfl) ?_ (by assumption) ?_
            · intro w' hSw
              obtain ⟨r0, r1, r2⟩ := hSw
              go_simp
            simp only [Act.put, List.setIfInBounds_toArray, List.set_cons_zero, List.set_cons_succ]
            refine take_do (i := 7) (v := (.float .f64 (Fl.zRe a (Fl.mulW c t) p q))) rfl (by kernel_rfl) (by kernel_rfl) (by kernel_rfl) (fun _ _ _ h => h) (by rfl) ?_ (by assumption) ?_
            · intro w' hSw
              obtain ⟨r0, r1, r2⟩ := hSw
              go_simp
            simp only [Act.put, List.setIfInBounds_toArray, List.set_cons_zero, List.set_cons_succ]
            refine take_do (i := 8) (v := (.float .f64 (Fl.mulW b t))) rfl (by kernel_rfl) (by kernel_rfl) (by kernel_rfl) (fun _ _ _ h => h) (by rfl) ?_ (by assumption) ?_
            · intro w' hSw
              obtain ⟨r0, r1, r2⟩ := hSw
              go_simp
            simp only [Act.put, List.setIfInBounds_toArray, List.set_cons_zero, List.set_cons_succ]
            refine take_do (i := 9) (v := (.pointer (some ⟨Qb, 1, none⟩))) rfl (by kernel_rfl) (by kernel_rfl) (by kernel_rfl) (fun _ _ _ h => h) (by rfl) ?_ (by assumption) ?_
            · intro w' hSw
              obtain ⟨r0, r1, r2⟩ := hSw
              go_simp
            simp only [Act.put, List.setIfInBounds_toArray, List.set_cons_zero, List.set_cons_succ]
            refine take_do (i := 10) (v := (.float .f64 (Fl.qIm (Fl.addW 0 (Fl.qRe p q)) (Fl.addW (Fl.mulW c t) (Fl.qIm p q))))) rfl (by kernel_rfl) (by kernel_rfl) (by kernel_rfl) (fun _ _ _ h => h) (by rfl) ?_ (by assumption) ?_
            · intro w' hSw
              obtain ⟨r0, r1, r2⟩ := hSw
              go_simp
            simp only [Act.put, List.setIfInBounds_toArray, List.set_cons_zero, List.set_cons_succ]
            refine take_do (i := 11) (v := (.float .f64 (Fl.zIm (Fl.mulW b t) (Fl.mulW c t) p q))) rfl (by kernel_rfl) (by kernel_rfl) (by kernel_rfl) (fun _ _ _ h => h) (by rfl) ?_ (by assumption) ?_
            · intro w' hSw
              obtain ⟨r0, r1, r2⟩ := hSw
              go_simp
            simp only [Act.put, List.setIfInBounds_toArray, List.set_cons_zero, List.set_cons_succ]
            refine take_do (i := 12) (v := (cnV (Fl.zRe a (Fl.mulW c t) p q) (Fl.zIm (Fl.mulW b t) (Fl.mulW c t) p q))) rfl (by kernel_rfl) (by kernel_rfl) (by kernel_rfl) (fun _ _ _ h => h) (by rfl) ?_ (by assumption) ?_
            · intro w' hSw
              obtain ⟨r0, r1, r2⟩ := hSw
              go_simp
            simp only [Act.put, List.setIfInBounds_toArray, List.set_cons_zero, List.set_cons_succ]
            refine take_call (i := 13) rfl (by kernel_rfl) (fun K2 hK => ?_)
            go_simp
            refine hK.out _ _ ⟨(World.cell?_setCell_far _ _ _ _ NE.out.1).trans ((World.cell?_setCell_far _ _ _ _ NE.out.1).trans c0), (World.cell?_setCell_far _ _ _ _ NE.out.2).trans ((World.cell?_setCell_far _ _ _ _ NE.out.2).trans d0), (World.cell?_setCell_far _ _ _ _ NE.out.2).trans ((World.cell?_setCell_far _ _ _ _ NE.out.2).trans d1)⟩ (fun _ => wpAnyH_done (by kernel_rfl) ?_ _)
            have L7 := Lib.hid (L6.out.put (Fl.zRe a (Fl.mulW c t) p q) (Fl.zIm (Fl.mulW b t) (Fl.mulW c t) p q))
            clear hK hHeld c0 d0 d1 z0 z1 fz0 fz1 lz s1 s2 s3 s4 q1 q2
            go_wp2_with fail
            go_roundw
            case rel => exact ⟨j + 1, by have := HI.out; omega, by have := HI.out; go_num, by rw [HSN.out]; exact L7.out⟩
            case measure => simp [intOf]
          · rw [e1, e2 (Fl.mulW c t)] at s3 s4 HY
            clear e1 e2
            obtain ⟨W2, hW2⟩ : ∃ W2, W2 = wr.alloc (.cells #[.float .f64 0, .float .f64 (Fl.mulW c t)] 33) := ⟨_, rfl⟩
            have L2 : Hid (LdV w p q W2) := by show LdV _ _ _ _; rw [hW2]; exact LW.out.below (bel_alloc _ _)
            have R2 : Hid (W2.rowIs wr.heap.size 33 2 (rowL (cnL 0 (Fl.mulW c t)))) := by show World.rowIs _ _ _ _ _; rw [hW2]; exact rowL_alloc wr _ _
            have HW2 := Lib.hid hW2
            obtain ⟨o0, o1', _, _, _⟩ := told2 LW.out.ro
            obtain ⟨p0, p1, _, _, _⟩ := told2 LW.out.rz
            clear hW2
            go_wp2_with fail
            rw [← HW2.out]
            clear o0 o1' p0 p1 zz o1 c0 c1 c2
            refine (sDivOne_any _ _ _ HP.out.1 HP.out.2).mono ?_
            rintro e w3 ⟨rfl, hb⟩
            have L3 := Lib.hid (L2.out.below hb)
            have R3 := Lib.hid (wrow_below R2.out hb)
            obtain ⟨W4, hW4⟩ : ∃ W4, W4 = ((w3.setCell ⟨wr.heap.size, 0, none⟩ (.float .f64 (Fl.addW 0 (Fl.qRe p q)))).setCell ⟨wr.heap.size, 1, none⟩ (.float .f64 (Fl.addW (Fl.mulW c t) (Fl.qIm p q)))).alloc (.cells #[.float .f64 (Fl.qRe p q), .float .f64 (Fl.qIm p q)] 33) := ⟨_, rfl⟩
            have L4 : Hid (LdV w p q W4) := by
              show LdV _ _ _ _
              rw [hW4]
              exact (L3.out.far (b := wr.heap.size) (by have := LW.out.rz.lt; omega) _ _).below (bel_alloc _ _)
            have HW4 := Lib.hid hW4
            obtain ⟨o0, o1', _, _, _⟩ := told2 L3.out.ro
            obtain ⟨y0, y1, fy0, fy1, ly⟩ := told2 R3.out
            have no1 : w.heap.size + 1 ≠ wr.heap.size := by have := LW.out.rz.lt; omega
            clear hb hW4
            go_wp2_with fail
            rw [← HW4.out]
            clear o0 o1' y0 y1 fy0 fy1 ly HW2 HW4 R2 L2 no1
            refine (sDivOne_any _ _ _ HY.out.1 HY.out.2).mono ?_
            rintro e w5 ⟨rfl, hb⟩
            have L5 := Lib.hid (L4.out.below hb)
            obtain ⟨W6, hW6⟩ : ∃ W6, W6 = w5.alloc (.cells #[.float .f64 (Fl.qRe (Fl.addW 0 (Fl.qRe p q)) (Fl.addW (Fl.mulW c t) (Fl.qIm p q))), .float .f64 (Fl.qIm (Fl.addW 0 (Fl.qRe p q)) (Fl.addW (Fl.mulW c t) (Fl.qIm p q)))] 33) := ⟨_, rfl⟩
            have L6 : Hid (LdV w p q W6) := by show LdV _ _ _ _; rw [hW6]; exact L5.out.below (bel_alloc _ _)
            have R6 : Hid (W6.rowIs w5.heap.size 33 2 (rowL (cnL (Fl.qRe (Fl.addW 0 (Fl.qRe p q)) (Fl.addW (Fl.mulW c t) (Fl.qIm p q))) (Fl.qIm (Fl.addW 0 (Fl.qRe p q)) (Fl.addW (Fl.mulW c t) (Fl.qIm p q)))))) := by show World.rowIs _ _ _ _ _; rw [hW6]; exact rowL_alloc w5 _ _
            have NE : Hid (w.heap.size + 2 ≠ g ∧ w.heap.size + 2 ≠ w5.heap.size) := by
              have h1 := L5.out.rz.lt
              have h2 := HG.out
              exact ⟨by omega, by omega⟩
            obtain ⟨c0, c1, c2⟩ := HCL.out _ L5.out.old
            have lg : g < w5.heap.size := by have := L5.out.rz.lt; have := HG.out; omega
            have HW6 := Lib.hid hW6
            clear hb hW6
            go_wp2_with fail
            rw [← HW6.out]
            clear c0 c1 c2
            obtain ⟨c0, c1, c2⟩ := HCL.out _ L6.out.old
            obtain ⟨⟨d0, d1⟩, _⟩ := row2_cells R6.out
            obtain ⟨z0, z1, fz0, fz1, lz⟩ := told2 L6.out.rz
            clear HW6 c1 c2 lg
            generalize w5.heap.size = Qb at *
            refine wp_region_held_drew (S := fun V => V.cell? ⟨g, i * 3, none⟩ = some (.float .f64 a) ∧ V.cell? ⟨Qb, 0, none⟩ = some (.float .f64 (Fl.qRe (Fl.addW 0 (Fl.qRe p q)) (Fl.addW (Fl.mulW c t) (Fl.qIm p q)))) ∧ V.cell? ⟨Qb, 1, none⟩ = some (.float .f64 (Fl.qIm (Fl.addW 0 (Fl.qRe p q)) (Fl.addW (Fl.mulW c t) (Fl.qIm p q))))) (by kernel_rfl) ⟨c0, d0, d1⟩ (fun hHeld => ?_)
            refine take_do (i := 0) (v := (.slice (some ⟨g, 0, none⟩) n cap)) rfl (by kernel_rfl) (by kernel_rfl) (by kernel_rfl) (fun _ _ _ h => h) (by rfl) ?_ (by assumption) ?_
            · intro w' hSw
              obtain ⟨r0, r1, r2⟩ := hSw
              go_simp
            simp only [Act.put, List.setIfInBounds_toArray, List.set_cons_zero, List.set_cons_succ]
            refine take_do (i := 1) (v := (.int .i64 (i : Int))) rfl (by kernel_rfl) (by kernel_rfl) (by kernel_rfl) (fun _ _ _ h => h) (by rfl) ?_ (by assumption) ?_
            · intro w' hSw
              obtain ⟨r0, r1, r2⟩ := hSw
              go_simp
            simp only [Act.put, List.setIfInBounds_toArray, List.set_cons_zero, List.set_cons_succ]
            refine take_do (i := 2) (v := (.pointer (some ⟨g, i * 3, none⟩))) rfl (by kernel_rfl) (by kernel_rfl) (by kernel_rfl) (fun _ _ _ h => h) (by rfl) ?_ (by assumption) ?_
            · intro w' hSw
              obtain ⟨r0, r1, r2⟩ := hSw
              go_simp
            simp only [Act.put, List.setIfInBounds_toArray, List.set_cons_zero, List.set_cons_succ]
            refine take_do (i := 3) (v := (.pointer (some ⟨g, i * 3, none⟩))) rfl (by kernel_rfl) (by kernel_rfl) (by kernel_rfl) (fun _ _ _ h => h) (by rfl) ?_ (by assumption) ?_
            · intro w' hSw
              obtain ⟨r0, r1, r2⟩ := hSw
              go_simp
            simp only [Act.put, List.setIfInBounds_toArray, List.set_cons_zero, List.set_cons_succ]
            refine take_do (i := 4) (v := (.float .f64 a)) rfl (by kernel_rfl) (by kernel_rfl) (by kernel_rfl) (fun _ _ _ h => h) (by rfl) ?_ (by assumption) ?_
            · intro w' hSw
              obtain ⟨r0, r1, r2⟩ := hSw
              go_simp
            simp only [Act.put, List.setIfInBounds_toArray, List.set_cons_zero, List.set_cons_succ]
            refine take_do (i := 5) (v := (.pointer (some ⟨Qb, 0, none⟩))) rfl (by kernel_rfl) (by kernel_rfl) (by kernel_rfl) (fun _ _ _ h => h) (by rfl) ?_ (by assumption) ?_
            · intro w' hSw
              obtain ⟨r0, r1, r2⟩ := hSw
              go_simp
            simp only [Act.put, List.setIfInBounds_toArray, List.set_cons_zero, List.set_cons_succ]
            refine take_do (i := 6) (v := (.float .f64 (Fl.qRe (Fl.addW 0 (Fl.qRe p q)) (Fl.addW (Fl.mulW c t) (Fl.qIm p q))))) rfl (by kernel_rfl) (by kernel_rfl) (by kernel_rfl) (fun _ _ _ h => h) (by rfl) ?_ (by assumption) ?_
            · intro w' hSw
              obtain ⟨r0, r1, r2⟩ := hSw
              go_simp
            simp only [Act.put, List.setIfInBounds_toArray, List.set_cons_zero, List.set_cons_succ]
            refine take_do (i := 7) (v := (.float .f64 (Fl.zRe a (Fl.mulW c t) p q))) rfl (by kernel_rfl) (by kernel_rfl) (by kernel_rfl) (fun _ _ _ h => h) (by rfl) ?_ (by assumption) ?_
            · intro w' hSw
              obtain ⟨r0, r1, r2⟩ := hSw
              go_simp
            simp only [Act.put, List.setIfInBounds_toArray, List.set_cons_zero, List.set_cons_succ]
            refine take_do (i := 8) (v := (.float .f64 (Fl.mulW b t))) rfl (by kernel_rfl) (by kernel_rfl) (by kernel_rfl) (fun _ _ _ h => h) (by rfl) ?_ (by assumption) ?_
            · intro w' hSw
              obtain ⟨r0, r1, r2⟩ := hSw
              go_simp
            simp only [Act.put, List.setIfInBounds_toArray, List.set_cons_zero, List.set_cons_succ]
            refine take_do (i := 9) (v := (.pointer (some ⟨Qb, 1, none⟩))) rfl (by kernel_rfl) (by kernel_rfl) (by kernel_rfl) (fun _ _ _ h => h) (by rfl) ?_ (by assumption) ?_
            · intro w' hSw
              obtain ⟨r0, r1, r2⟩ := hSw
              go_simp
            simp only [Act.put, List.setIfInBounds_toArray, List.set_cons_zero, List.set_cons_succ]
            refine take_do (i := 10) (v := (.float .f64 (Fl.qIm (Fl.addW 0 (Fl.qRe p q)) (Fl.addW (Fl.mulW c t) (Fl.qIm p q))))) rfl (by kernel_rfl) (by kernel_rfl) (by kernel_rfl) (fun _ _ _ h => h) (by rfl) ?_ (by assumption) ?_
            · intro w' hSw
              obtain ⟨r0, r1, r2⟩ := hSw
              go_simp
            simp only [Act.put, List.setIfInBounds_toArray, List.set_cons_zero, List.set_cons_succ]
            refine take_do (i := 11) (v := (.float .f64 (Fl.zIm (Fl.mulW b t) (Fl.mulW c t) p q))) rfl (by kernel_rfl) (by kernel_rfl) (by kernel_rfl) (fun _ _ _ h => h) (by rfl) ?_ (by assumption) ?_
            · intro w' hSw
              obtain ⟨r0, r1, r2⟩ := hSw
              go_simp
            simp only [Act.put, List.setIfInBounds_toArray, List.set_cons_zero, List.set_cons_succ]
            refine take_do (i := 12) (v := (cnV (Fl.zRe a (Fl.mulW c t) p q) (Fl.zIm (Fl.mulW b t) (Fl.mulW c t) p q))) rfl (by kernel_rfl) (by kernel_rfl) (by kernel_rfl) (fun _ _ _ h => h) (by rfl) ?_ (by assumption) ?_
            · intro w' hSw
              obtain ⟨r0, r1, r2⟩ := hSw
              go_simp
            simp only [Act.put, List.setIfInBounds_toArray, List.set_cons_zero, List.set_cons_succ]
            refine take_call (i := 13) rfl (by kernel_rfl) (fun K2 hK => ?_)
            go_simp
            refine hK.out _ _ ⟨(World.cell?_setCell_far _ _ _ _ NE.out.1).trans ((World.cell?_setCell_far _ _ _ _ NE.out.1).trans c0), (World.cell?_setCell_far _ _ _ _ NE.out.2).trans ((World.cell?_setCell_far _ _ _ _ NE.out.2).trans d0), (World.cell?_setCell_far _ _ _ _ NE.out.2).trans ((World.cell?_setCell_far _ _ _ _ NE.out.2).trans d1)⟩ (fun _ => wpAnyH_done (by kernel_rfl) ?_ _)
            have L7 := Lib.hid (L6.out.put (Fl.zRe a (Fl.mulW c t) p q) (Fl.zIm (Fl.mulW b t) (Fl.mulW c t) p q))
            clear hK hHeld c0 d0 d1 z0 z1 fz0 fz1 lz s1 s2 s3 s4 q1 q2
            go_wp2_with fail
            go_roundw
            case rel => exact ⟨j + 1, by have := HI.out; omega, by have := HI.out; go_num, by rw [HSN.out]; exact L7.out⟩
            case measure => simp [intOf]
          · rw [e1, e2 (Fl.mulW c t)] at s3 s4 HY
            clear e1 e2
            obtain ⟨W2, hW2⟩ : ∃ W2, W2 = wr.alloc (.cells #[.float .f64 0, .float .f64 (Fl.mulW c t)] 33) := ⟨_, rfl⟩
            have L2 : Hid (LdV w p q W2) := by show LdV _ _ _ _; rw [hW2]; exact LW.out.below (bel_alloc _ _)
            have R2 : Hid (W2.rowIs wr.heap.size 33 2 (rowL (cnL 0 (Fl.mulW c t)))) := by show World.rowIs _ _ _ _ _; rw [hW2]; exact rowL_alloc wr _ _
            have HW2 := Lib.hid hW2
            obtain ⟨o0, o1', _, _, _⟩ := told2 LW.out.ro
            obtain ⟨p0, p1, _, _, _⟩ := told2 LW.out.rz
            clear hW2
            go_wp2_with fail
            rw [← HW2.out]
            clear o0 o1' p0 p1 zz o1 o2 c0 c1 c2
            refine (sDivOne_any _ _ _ HP.out.1 HP.out.2).mono ?_
            rintro e w3 ⟨rfl, hb⟩
            have L3 := Lib.hid (L2.out.below hb)
            have R3 := Lib.hid (wrow_below R2.out hb)
            obtain ⟨W4, hW4⟩ : ∃ W4, W4 = ((w3.setCell ⟨wr.heap.size, 0, none⟩ (.float .f64 (Fl.addW 0 (Fl.qRe p q)))).setCell ⟨wr.heap.size, 1, none⟩ (.float .f64 (Fl.addW (Fl.mulW c t) (Fl.qIm p q)))).alloc (.cells #[.float .f64 (Fl.qRe p q), .float .f64 (Fl.qIm p q)] 33) := ⟨_, rfl⟩
            have L4 : Hid (LdV w p q W4) := by
              show LdV _ _ _ _
              rw [hW4]
              exact (L3.out.far (b := wr.heap.size) (by have := LW.out.rz.lt; omega) _ _).below (bel_alloc _ _)
            have HW4 := Lib.hid hW4
            obtain ⟨o0, o1', _, _, _⟩ := told2 L3.out.ro
            obtain ⟨y0, y1, fy0, fy1, ly⟩ := told2 R3.out
            have no1 : w.heap.size + 1 ≠ wr.heap.size := by have := LW.out.rz.lt; omega
            clear hb hW4
            go_wp2_with fail
            rw [← HW4.out]
            clear o0 o1' y0 y1 fy0 fy1 ly HW2 HW4 R2 L2 no1
            refine (sDivOne_any _ _ _ HY.out.1 HY.out.2).mono ?_
            rintro e w5 ⟨rfl, hb⟩
            have L5 := Lib.hid (L4.out.below hb)
            obtain ⟨W6, hW6⟩ : ∃ W6, W6 = w5.alloc (.cells #[.float .f64 (Fl.qRe (Fl.addW 0 (Fl.qRe p q)) (Fl.addW (Fl.mulW c t) (Fl.qIm p q))), .float .f64 (Fl.qIm (Fl.addW 0 (Fl.qRe p q)) (Fl.addW (Fl.mulW c t) (Fl.qIm p q)))] 33) := ⟨_, rfl⟩
            have L6 : Hid (LdV w p q W6) := by show LdV _ _ _ _; rw [hW6]; exact L5.out.below (bel_alloc _ _)
            have R6 : Hid (W6.rowIs w5.heap.size 33 2 (rowL (cnL (Fl.qRe (Fl.addW 0 (Fl.qRe p q)) (Fl.addW (Fl.mulW c t) (Fl.qIm p q))) (Fl.qIm (Fl.addW 0 (Fl.qRe p q)) (Fl.addW (Fl.mulW c t) (Fl.qIm p q)))))) := by show World.rowIs _ _ _ _ _; rw [hW6]; exact rowL_alloc w5 _ _
            have NE : Hid (w.heap.size + 2 ≠ g ∧ w.heap.size + 2 ≠ w5.heap.size) := by
              have h1 := L5.out.rz.lt
              have h2 := HG.out
              exact ⟨by omega, by omega⟩
            obtain ⟨c0, c1, c2⟩ := HCL.out _ L5.out.old
            have lg : g < w5.heap.size := by have := L5.out.rz.lt; have := HG.out; omega
            have HW6 := Lib.hid hW6
            clear hb hW6
            go_wp2_with fail
            rw [← HW6.out]
            clear c0 c1 c2
            obtain ⟨c0, c1, c2⟩ := HCL.out _ L6.out.old
            obtain ⟨⟨d0, d1⟩, _⟩ := row2_cells R6.out
            obtain ⟨z0, z1, fz0, fz1, lz⟩ := told2 L6.out.rz
            clear HW6 c1 c2 lg
            generalize w5.heap.size = Qb at *
            refine wp_region_held_drew (S := fun V => V.cell? ⟨g, i * 3, none⟩ = some (.float .f64 a) ∧ V.cell? ⟨Qb, 0, none⟩ = some (.float .f64 (Fl.qRe (Fl.addW 0 (Fl.qRe p q)) (Fl.addW (Fl.mulW c t) (Fl.qIm p q)))) ∧ V.cell? ⟨Qb, 1, none⟩ = some (.float .f64 (Fl.qIm (Fl.addW 0 (Fl.qRe p q)) (Fl.addW (Fl.mulW c t) (Fl.qIm p q))))) (by kernel_rfl) ⟨c0, d0, d1⟩ (fun hHeld => ?_)
            refine take_do (i := 0) (v := (.slice (some ⟨g, 0, none⟩) n cap)) rfl (by kernel_rfl) (by kernel_rfl) (by kernel_rfl) (fun _ _ _ h => h) (by rfl) ?_ (by assumption) ?_
            · intro w' hSw
              obtain ⟨r0, r1, r2⟩ := hSw
              go_simp
            simp only [Act.put, List.setIfInBounds_toArray, List.set_cons_zero, List.set_cons_succ]
            refine take_do (i := 1) (v := (.int .i64 (i : Int))) rfl (by kernel_rfl) (by kernel_rfl) (by kernel_rfl) (fun _ _ _ h => h) (by rfl) ?_ (by assumption) ?_
            · intro w' hSw
              obtain ⟨r0, r1, r2⟩ := hSw
              go_simp
            simp only [Act.put, List.setIfInBounds_toArray, List.set_cons_zero, List.set_cons_succ]
            refine take_do (i := 2) (v := (.pointer (some ⟨g, i * 3, none⟩))) rfl (by kernel_rfl) (by kernel_rfl) (by kernel_rfl) (fun _ _ _ h => h) (by rfl) ?_ (by assumption) ?_
            · intro w' hSw
              obtain ⟨r0, r1, r2⟩ := hSw
              go_simp
            simp only [Act.put, List.setIfInBounds_toArray, List.set_cons_zero, List.set_cons_succ]
            refine take_do (i := 3) (v := (.pointer (some ⟨g, i * 3, none⟩))) rfl (by kernel_rfl) (by kernel_rfl) (by kernel_rfl) (fun _ _ _ h => h) (by rfl) ?_ (by assumption) ?_
            · intro w' hSw
              obtain ⟨r0, r1, r2⟩ := hSw
              go_simp
            simp only [Act.put, List.setIfInBounds_toArray, List.set_cons_zero, List.set_cons_succ]
            refine take_do (i := 4) (v := (.float .f64 a)) rfl (by kernel_rfl) (by kernel_rfl) (by kernel_rfl) (fun _ _ _ h => h) (by rfl) ?_ (by assumption) ?_
            · intro w' hSw
              obtain ⟨r0, r1, r2⟩ := hSw
              go_simp
            simp only [Act.put, List.setIfInBounds_toArray, List.set_cons_zero, List.set_cons_succ]
            refine take_do (i := 5) (v := (.pointer (some ⟨Qb, 0, none⟩))) rfl (by kernel_rfl) (by kernel_rfl) (by kernel_rfl) (fun _ _ _ h => h) (by rfl) ?_ (by assumption) ?_
            · intro w' hSw
              obtain ⟨r0, r1, r2⟩ := hSw
              go_simp
            simp only [Act.put, List.setIfInBounds_toArray, List.set_cons_zero, List.set_cons_succ]
            refine take_do (i := 6) (v := (.float .f64 (Fl.qRe (Fl.addW 0 (Fl.qRe p q)) (Fl.addW (Fl.mulW c t) (Fl.qIm p q))))) rfl (by kernel_rfl) (by kernel_rfl) (by kernel_rfl) (fun _ _ _ h => h) (by rfl) ?_ (by assumption) ?_
            · intro w' hSw
              obtain ⟨r0, r1, r2⟩ := hSw
              go_simp
            simp only [Act.put, List.setIfInBounds_toArray, List.set_cons_zero, List.set_cons_succ]
            refine take_do (i := 7) (v := (.float .f64 (Fl.zRe a (Fl.mulW c t) p q))) rfl (by kernel_rfl) (by kernel_rfl) (by kernel_rfl) (fun _ _ _ h => h) (by rfl) ?_ (by assumption) ?_
            · intro w' hSw
              obtain ⟨r0, r1, r2⟩ := hSw
              go_simp
            simp only [Act.put, List.setIfInBounds_toArray, List.set_cons_zero, List.set_cons_succ]
            refine take_do (i := 8) (v := (.float .f64 (Fl.mulW b t))) rfl (by kernel_rfl) (by kernel_rfl) (by kernel_rfl) (fun _ _ _ h => h) (by rfl) ?_ (by assumption) ?_
            · intro w' hSw
              obtain ⟨r0, r1, r2⟩ := hSw
              go_simp
            simp only [Act.put, List.setIfInBounds_toArray, List.set_cons_zero, List.set_cons_succ]
            refine take_do (i := 9) (v := (.pointer (some ⟨Qb, 1, none⟩))) rfl (by kernel_rfl) (by kernel_rfl) (by kernel_rfl) (fun _ _ _ h => h) (by rfl) ?_ (by assumption) ?_
            · intro w' hSw
              obtain ⟨r0, r1, r2⟩ := hSw
              go_simp
            simp only [Act.put, List.setIfInBounds_toArray, List.set_cons_zero, List.set_cons_succ]
            refine take_do (i := 10) (v := (.float .f64 (Fl.qIm (Fl.addW 0 (Fl.qRe p q)) (Fl.addW (Fl.mulW c t) (Fl.qIm p q))))) rfl (by kernel_rfl) (by kernel_rfl) (by kernel_rfl) (fun _ _ _ h => h) (by rfl) ?_ (by assumption) ?_
            · intro w' hSw
              obtain ⟨r0, r1, r2⟩ := hSw
              go_simp
            simp only [Act.put, List.setIfInBounds_toArray, List.set_cons_zero, List.set_cons_succ]
            refine take_do (i := 11) (v := (.float .f64 (Fl.zIm (Fl.mulW b t) (Fl.mulW c t) p q))) rfl (by kernel_rfl) (by kernel_rfl) (by kernel_rfl) (fun _ _ _ h => h) (by rfl) ?_ (by assumption) ?_
            · intro w' hSw
              obtain ⟨r0, r1, r2⟩ := hSw
              go_simp
            simp only [Act.put, List.setIfInBounds_toArray, List.set_cons_zero, List.set_cons_succ]
            refine take_do (i := 12) (v := (cnV (Fl.zRe a (Fl.mulW c t) p q) (Fl.zIm (Fl.mulW b t) (Fl.mulW c t) p q))) rfl (by kernel_rfl) (by kernel_rfl) (by kernel_rfl) (fun _ _ _ h => h) (by rfl) ?_ (by assumption) ?_
            · intro w' hSw
              obtain ⟨r0, r1, r2⟩ := hSw
              go_simp
            simp only [Act.put, List.setIfInBounds_toArray, List.set_cons_zero, List.set_cons_succ]
            refine take_call (i := 13) rfl (by kernel_rfl) (fun K2 hK => ?_)
            go_simp
            refine hK.out _ _ ⟨(World.cell?_setCell_far _ _ _ _ NE.out.1).trans ((World.cell?_setCell_far _ _ _ _ NE.out.1).trans c0), (World.cell?_setCell_far _ _ _ _ NE.out.2).trans ((World.cell?_setCell_far _ _ _ _ NE.out.2).trans d0), (World.cell?_setCell_far _ _ _ _ NE.out.2).trans ((World.cell?_setCell_far _ _ _ _ NE.out.2).trans d1)⟩ (fun _ => wpAnyH_done (by kernel_rfl) ?_ _)
            have L7 := Lib.hid (L6.out.put (Fl.zRe a (Fl.mulW c t) p q) (Fl.zIm (Fl.mulW b t) (Fl.mulW c t) p q))
            clear hK hHeld c0 d0 d1 z0 z1 fz0 fz1 lz s1 s2 s3 s4 q1 q2
            go_wp2_with fail
            go_roundw
            case rel => exact ⟨j + 1, by have := HI.out; omega, by have := HI.out; go_num, by rw [HSN.out]; exact L7.out⟩
            case measure => simp [intOf]
          · rw [e1, e2 (Fl.mulW c t)] at s3 s4 HY
            clear e1 e2
            obtain ⟨W2, hW2⟩ : ∃ W2, W2 = wr.alloc (.cells #[.float .f64 0, .float .f64 (Fl.mulW c t)] 33) := ⟨_, rfl⟩
            have L2 : Hid (LdV w p q W2) := by show LdV _ _ _ _; rw [hW2]; exact LW.out.below (bel_alloc _ _)
            have R2 : Hid (W2.rowIs wr.heap.size 33 2 (rowL (cnL 0 (Fl.mulW c t)))) := by show World.rowIs _ _ _ _ _; rw [hW2]; exact rowL_alloc wr _ _
            have HW2 := Lib.hid hW2
            obtain ⟨o0, o1', _, _, _⟩ := told2 LW.out.ro
            obtain ⟨p0, p1, _, _, _⟩ := told2 LW.out.rz
            clear hW2
            go_wp2_with fail
            rw [← HW2.out]
            clear o0 o1' p0 p1 zz o1 o2 c0 c1 c2
            refine (sDivOne_any _ _ _ HP.out.1 HP.out.2).mono ?_
            rintro e w3 ⟨rfl, hb⟩
            have L3 := Lib.hid (L2.out.below hb)
            have R3 := Lib.hid (wrow_below R2.out hb)
            obtain ⟨W4, hW4⟩ : ∃ W4, W4 = ((w3.setCell ⟨wr.heap.size, 0, none⟩ (.float .f64 (Fl.addW 0 (Fl.qRe p q)))).setCell ⟨wr.heap.size, 1, none⟩ (.float .f64 (Fl.addW (Fl.mulW c t) (Fl.qIm p q)))).alloc (.cells #[.float .f64 (Fl.qRe p q), .float .f64 (Fl.qIm p q)] 33) := ⟨_, rfl⟩
            have L4 : Hid (LdV w p q W4) := by
              show LdV _ _ _ _
              rw [hW4]
              exact (L3.out.far (b := wr.heap.size) (by have := LW.out.rz.lt; omega) _ _).below (bel_alloc _ _)
            have HW4 := Lib.hid hW4
            obtain ⟨o0, o1', _, _, _⟩ := told2 L3.out.ro
            obtain ⟨y0, y1, fy0, fy1, ly⟩ := told2 R3.out
            have no1 : w.heap.size + 1 ≠ wr.heap.size := by have := LW.out.rz.lt; omega
            clear hb hW4
            go_wp2_with fail
            rw [← HW4.out]
            clear o0 o1' y0 y1 fy0 fy1 ly HW2 HW4 R2 L2 no1
            refine (sDivOne_any _ _ _ HY.out.1 HY.out.2).mono ?_
            rintro e w5 ⟨rfl, hb⟩
            have L5 := Lib.hid (L4.out.below hb)
            obtain ⟨W6, hW6⟩ : ∃ W6, W6 = w5.alloc (.cells #[.float .f64 (Fl.qRe (Fl.addW 0 (Fl.qRe p q)) (Fl.addW (Fl.mulW c t) (Fl.qIm p q))), .float .f64 (Fl.qIm (Fl.addW 0 (Fl.qRe p q)) (Fl.addW (Fl.mulW c t) (Fl.qIm p q)))] 33) := ⟨_, rfl⟩
            have L6 : Hid (LdV w p q W6) := by show LdV _ _ _ _; rw [hW6]; exact L5.out.below (bel_alloc _ _)
            have R6 : Hid (W6.rowIs w5.heap.size 33 2 (rowL (cnL (Fl.qRe (Fl.addW 0 (Fl.qRe p q)) (Fl.addW (Fl.mulW c t) (Fl.qIm p q))) (Fl.qIm (Fl.addW 0 (Fl.qRe p q)) (Fl.addW (Fl.mulW c t) (Fl.qIm p q)))))) := by show World.rowIs _ _ _ _ _; rw [hW6]; exact rowL_alloc w5 _ _
            have NE : Hid (w.heap.size + 2 ≠ g ∧ w.heap.size + 2 ≠ w5.heap.size) := by
              have h1 := L5.out.rz.lt
              have h2 := HG.out
              exact ⟨by omega, by omega⟩
            obtain ⟨c0, c1, c2⟩ := HCL.out _ L5.out.old
            have lg : g < w5.heap.size := by have := L5.out.rz.lt; have := HG.out; omega
            have HW6 := Lib.hid hW6
            clear hb hW6
            go_wp2_with fail
            rw [← HW6.out]
            clear c0 c1 c2
            obtain ⟨c0, c1, c2⟩ := HCL.out _ L6.out.old
            obtain ⟨⟨d0, d1⟩, _⟩ := row2_cells R6.out
            obtain ⟨z0, z1, fz0, fz1, lz⟩ := told2 L6.out.rz
            clear HW6 c1 c2 lg
            generalize w5.heap.size = Qb at *
            refine wp_region_held_drew (S := fun V => V.cell? ⟨g, i * 3, none⟩ = some (.float .f64 a) ∧ V.cell? ⟨Qb, 0, none⟩ = some (.float .f64 (Fl.qRe (Fl.addW 0 (Fl.qRe p q)) (Fl.addW (Fl.mulW c t) (Fl.qIm p q)))) ∧ V.cell? ⟨Qb, 1, none⟩ = some (.float .f64 (Fl.qIm (Fl.addW 0 (Fl.qRe p q)) (Fl.addW (Fl.mulW c t) (Fl.qIm p q))))) (by kernel_rfl) ⟨c0, d0, d1⟩ (fun hHeld => ?_)
            refine take_do (i := 0) (v := (.slice (some ⟨g, 0, none⟩) n cap)) rfl (by kernel_rfl) (by kernel_rfl) (by kernel_rfl) (fun _ _ _ h => h) (by rfl) ?_ (by assumption) ?_
            · intro w' hSw
              obtain ⟨r0, r1, r2⟩ := hSw
              go_simp
            simp only [Act.put, List.setIfInBounds_toArray, List.set_cons_zero, List.set_cons_succ]
            refine take_do (i := 1) (v := (.int .i64 (i : Int))) rfl (by kernel_rfl) (by kernel_rfl) (by kernel_rfl) (fun _ _ _ h => h) (by rfl) ?_ (by assumption) ?_
            · intro w' hSw
              obtain ⟨r0, r1, r2⟩ := hSw
              go_simp
            simp only [Act.put, List.setIfInBounds_toArray, List.set_cons_zero, List.set_cons_succ]
            refine take_do (i := 2) (v := (.pointer (some ⟨g, i * 3, none⟩))) rfl (by kernel_rfl) (by kernel_rfl) (by kernel_rfl) (fun _ _ _ h => h) (by rfl) ?_ (by assumption) ?_
            · intro w' hSw
              obtain ⟨r0, r1, r2⟩ := hSw
              go_simp
            simp only [Act.put, List.setIfInBounds_toArray, List.set_cons_zero, List.set_cons_succ]
            refine take_do (i := 3) (v := (.pointer (some ⟨g, i * 3, none⟩))) rfl (by kernel_rfl) (by kernel_rfl) (by kernel_rfl) (fun _ _ _ h => h) (by rfl) ?_ (by assumption) ?_
            · intro w' hSw
              obtain ⟨r0, r1, r2⟩ := hSw
              go_simp
            simp only [Act.put, List.setIfInBounds_toArray, List.set_cons_zero, List.set_cons_succ]
            refine take_do (i := 4) (v := (.float .f64 a)) rfl (by kernel_rfl) (by kernel_rfl) (by kernel_rfl) (fun _ _ _ h => h) (by rfl) ?_ (by assumption) ?_
            · intro w' hSw
              obtain ⟨r0, r1, r2⟩ := hSw
              go_simp
            simp only [Act.put, List.setIfInBounds_toArray, List.set_cons_zero, List.set_cons_succ]
            refine take_do (i := 5) (v := (.pointer (some ⟨Qb, 0, none⟩))) rfl (by kernel_rfl) (by kernel_rfl) (by kernel_rfl) (fun _ _ _ h => h) (by rfl) ?_ (by assumption) ?_
            · intro w' hSw
              obtain ⟨r0, r1, r2⟩ := hSw
              go_simp
            simp only [Act.put, List.setIfInBounds_toArray, List.set_cons_zero, List.set_cons_succ]
            refine take_do (i := 6) (v := (.float .f64 (Fl.qRe (Fl.addW 0 (Fl.qRe p q)) (Fl.addW (Fl.mulW c t) (Fl.qIm p q))))) rfl (by kernel_rfl) (by kernel_rfl) (by kernel_rfl) (fun _ _ _ h => h) (by rfl) ?_ (by assumption) ?_
            · intro w' hSw
              obtain ⟨r0, r1, r2⟩ := hSw
              go_simp
            simp only [Act.put, List.setIfInBounds_toArray, List.set_cons_zero, List.set_cons_succ]
            refine take_do (i := 7) (v := (.float .f64 (Fl.zRe a (Fl.mulW c t) p q))) rfl (by kernel_rfl) (by kernel_rfl) (by kernel_rfl) (fun _ _ _ h => h) (by rfl) ?_ (by assumption) ?_
            · intro w' hSw
              obtain ⟨r0, r1, r2⟩ := hSw
              go_simp
            simp only [Act.put, List.setIfInBounds_toArray, List.set_cons_zero, List.set_cons_succ]
            refine take_do (i := 8) (v := (.float .f64 (Fl.mulW b t))) rfl (by kernel_rfl) (by kernel_rfl) (by kernel_rfl) (fun _ _ _ h => h) (by rfl) ?_ (by assumption) ?_
            · intro w' hSw
              obtain ⟨r0, r1, r2⟩ := hSw
              go_simp
            simp only [Act.put, List.setIfInBounds_toArray, List.set_cons_zero, List.set_cons_succ]
            refine take_do (i := 9) (v := (.pointer (some ⟨Qb, 1, none⟩))) rfl (by kernel_rfl) (by kernel_rfl) (by kernel_rfl) (fun _ _ _ h => h) (by rfl) ?_ (by assumption) ?_
            · intro w' hSw
              obtain ⟨r0, r1, r2⟩ := hSw
              go_simp
            simp only [Act.put, List.setIfInBounds_toArray, List.set_cons_zero, List.set_cons_succ]
            refine take_do (i := 10) (v := (.float .f64 (Fl.qIm (Fl.addW 0 (Fl.qRe p q)) (Fl.addW (Fl.mulW c t) (Fl.qIm p q))))) rfl (by kernel_rfl) (by kernel_rfl) (by kernel_rfl) (fun _ _ _ h => h) (by rfl) ?_ (by assumption) ?_
            · intro w' hSw
              obtain ⟨r0, r1, r2⟩ := hSw
              go_simp
            simp only [Act.put, List.setIfInBounds_toArray, List.set_cons_zero, List.set_cons_succ]
            refine take_do (i := 11) (v := (.float .f64 (Fl.zIm (Fl.mulW b t) (Fl.mulW c t) p q))) rfl (by kernel_rfl) (by kernel_rfl) (by kernel_rfl) (fun _ _ _ h => h) (by rfl) ?_ (by assumption) ?_
            · intro w' hSw
              obtain ⟨r0, r1, r2⟩ := hSw
              go_simp
            simp only [Act.put, List.setIfInBounds_toArray, List.set_cons_zero, List.set_cons_succ]
            refine take_do (i := 12) (v := (cnV (Fl.zRe a (Fl.mulW c t) p q) (Fl.zIm (Fl.mulW b t) (Fl.mulW c t) p q))) rfl (by kernel_rfl) (by kernel_rfl) (by kernel_rfl) (fun _ _ _ h => h) (by rfl) ?_ (by assumption) ?_
            · intro w' hSw
              obtain ⟨r0, r1, r2⟩ := hSw
              go_simp
            simp only [Act.put, List.setIfInBounds_toArray, List.set_cons_zero, List.set_cons_succ]
            refine take_call (i := 13) rfl (by kernel_rfl) (fun K2 hK => ?_)
            go_simp
            refine hK.out _ _ ⟨(World.cell?_setCell_far _ _ _ _ NE.out.1).trans ((World.cell?_setCell_far _ _ _ _ NE.out.1).trans c0), (World.cell?_setCell_far _ _ _ _ NE.out.2).trans ((World.cell?_setCell_far _ _ _ _ NE.out.2).trans d0), (World.cell?_setCell_far _ _ _ _ NE.out.2).trans ((World.cell?_setCell_far _ _ _ _ NE.out.2).trans d1)⟩ (fun _ => wpAnyH_done (by kernel_rfl) ?_ _)
            have L7 := Lib.hid (L6.out.put (Fl.zRe a (Fl.mulW c t) p q) (Fl.zIm (Fl.mulW b t) (Fl.mulW c t) p q))
            clear hK hHeld c0 d0 d1 z0 z1 fz0 fz1 lz s1 s2 s3 s4 q1 q2
            go_wp2_with fail
            go_roundw
            case rel => exact ⟨j + 1, by have := HI.out; omega, by have := HI.out; go_num, by rw [HSN.out]; exact L7.out⟩
            case measure => simp [intOf]
end Go.Proofs.Ythcgffnkpeiddaa
