/-
  The model's MeterRun.
-/
import Derived.Test.YtmejmpdljckfgaaDoorMtV2
import Derived.Test.YtmejmpdljckfgaaDoorMtS2
import Derived.Deep.DeepCutAuto
namespace Go.Proofs.YtmejmpdljckfgaaDoor
open Go.RowKit Go.Deep

theorem Mt.ans_yes {ok : Prop} (h : ok) (X : Mt.M) (n : Nat) (x : Int) : Mt.ansM ok X = X ∧ Mt.ansN ok n = n ∧ Mt.ansC ok x = 0 := by unfold Mt.ansM Mt.ansN Mt.ansC; rw [Mt.dB_tt h]; exact ⟨rfl, rfl, rfl⟩
theorem Mt.ans_no {ok : Prop} (h : ¬ ok) (x : Int) : Mt.ansC ok x = x := by unfold Mt.ansC; rw [Mt.dB_ff h]; rfl
set_option maxRecDepth 100000 in
set_option maxHeartbeats 16000000 in
theorem specMRun_any (m : Mt.M) (la : Option Addr) (n cap : Nat) (R : Nat → Int) (w : World) (h : IsAt la (n * 2) R w) (hn : n ≤ 1048576) :
    Calls Tryd.prog 7 #[mtV m, .slice la n cap] w fun e w' => MuEnd w.heap.size (n ≤ 60 ∧ Mt.RunOk m R n) (Mt.runC n) (Mt.mAt m R n) n (Mt.use m R) e w' ∧ Below w.heap.size w w' := by
  obtain ⟨i0, hi0, hz0, hz1, hz2⟩ := info_parts uinfo
  obtain ⟨W, hW⟩ : ∃ W, W = (w.alloc (.cells #[.int .i64 m.d, .int .i64 m.u, .int .i64 m.day, .int .i64 m.s] 24)).alloc (.cells #[.int .i64 0, .int .i64 0, .int .i64 0, .int .i64 0, .slice none 0 0, .int .i64 0] 30) := ⟨_, rfl⟩
  have HM : Hid (W.rowIs w.heap.size 24 4 (rowN (mtL m))) := by show World.rowIs _ _ _ _ _; rw [hW]; exact nrow_below (rowN_alloc w _ _) (nbel_alloc _ _)
  have HO : Hid (W.rowIs (w.heap.size + 1) 30 6 (rowN (muL Mt.none none 0 0 0))) := by show World.rowIs _ _ _ _ _; rw [hW]; exact rowN_alloc' (by simp) _ _
  have HB : Hid (Below w.heap.size w W) := by show Below _ _ _; rw [hW]; exact (nbel_alloc _ _).alloc (by simp) _
  have HW := Lib.hid hW
  have H := Lib.hid h
  clear hW h
  by_cases hbig : (60 : Int) < (n : Int)
  · have HNO : Hid (¬ (n ≤ 60 ∧ Mt.RunOk m R n)) := fun h => by have := h.1; omega
    have HC : Hid (Mt.runC n = 2) := Mt.runC_big (by omega)
    obtain ⟨⟨o0, o1, o2, o3, o4, o5⟩, z0, z1, z2, z3, z4, z5⟩ := rowN6 HO.out
    have hol := HO.out.lt
    rw [HW.out] at o0 o1 o2 o3 o4 o5 z0 z1 z2 z3 z4 z5 hol
    go_enter Tryd.func7, Tryd.ntmps7
    go_wp2_with fail
    exact bodyPost_ret (v := muV Mt.none none 0 0 2) (by simp only [results, Tryd.results7]; simp [go_sem, Mt.none]) rfl ⟨Or.inl ⟨HNO.out, by rw [HC.out]⟩, (nbel_alloc _ _).alloc (by simp) _⟩
  have HN6 : Hid (n ≤ 60) := by show n ≤ 60; omega
  have HC : Hid (Mt.runC n = 1) := Mt.runC_no (by omega)
  go_enter Tryd.func7, Tryd.ntmps7
  go_wp2_with fail
  rw [← HW.out]
  clear HW
  refine (specRight_any m _).mono ?_
  rintro e w1 ⟨rfl, hb⟩
  have HM1 := Lib.hid (nrow_below HM.out hb)
  have HO1 := Lib.hid (nrow_below HO.out hb)
  have HB1 : Hid (Below w.heap.size w w1) := HB.out.trans (hb.mono HB.out.size)
  clear hb HM HO HB
  obtain ⟨⟨m0, m1, m2, m3⟩, _⟩ := rowN4 HM1.out
  obtain ⟨⟨o0, o1, o2, o3, o4, o5⟩, z0, z1, z2, z3, z4, z5⟩ := rowN6 HO1.out
  have hol := HO1.out.lt
  by_cases c : Mt.Right m
  case neg =>
    rw [Mt.dB_ff c]
    have HNO : Hid (¬ (n ≤ 60 ∧ Mt.RunOk m R n)) := fun h => c h.2.1
    clear c
    obtain ⟨Z, hZ⟩ : ∃ Z, Z = ((((((w1).setCell ⟨w.heap.size + 1, 0, none⟩ (.int .i64 0)).setCell ⟨w.heap.size + 1, 1, none⟩ (.int .i64 0)).setCell ⟨w.heap.size + 1, 2, none⟩ (.int .i64 0)).setCell ⟨w.heap.size + 1, 3, none⟩ (.int .i64 0)).setCell ⟨w.heap.size + 1, 4, none⟩ (.slice none 0 0)).setCell ⟨w.heap.size + 1, 5, none⟩ (.int .i64 1) := ⟨_, rfl⟩
    have HZR : Hid (Z.rowIs (w.heap.size + 1) 30 6 (rowN (muL Mt.none none 0 0 1))) := by show Z.rowIs _ _ _ _; rw [hZ]; exact mput6 HO1.out rfl (.int .i64 0) (.int .i64 0) (.int .i64 0) (.int .i64 0) (.slice none 0 0) (.int .i64 1)
    have HZB : Hid (Below w.heap.size w Z) := by show Below _ _ _; rw [hZ]; exact mbel6 (g := w.heap.size + 1) HB1.out (by omega) (.int .i64 0) (.int .i64 0) (.int .i64 0) (.int .i64 0) (.slice none 0 0) (.int .i64 1)
    have HZ := Lib.hid hZ
    clear hZ
    go_wp2_with fail
    rw [← HZ.out]
    obtain ⟨⟨p0, p1, p2, p3, p4, p5⟩, _⟩ := rowN6 HZR.out
    exact bodyPost_ret (v := muV Mt.none none 0 0 1) (by simp only [results, Tryd.results7]; simp [go_sem, p0, p1, p2, p3, p4, p5, Mt.none]) rfl ⟨Or.inl ⟨HNO.out, by rw [HC.out]⟩, HZB.out⟩
  rw [Mt.dB_tt c]
  have HRT := Lib.hid c
  clear c
  obtain ⟨b6, hb6⟩ : ∃ b, b = w1.heap.size := ⟨_, rfl⟩
  obtain ⟨W1, hW1⟩ : ∃ W1, W1 = w1.alloc (.cells #[.int .i64 m.d, .int .i64 m.u, .int .i64 m.day, .int .i64 m.s, .slice none 0 0, .int .i64 0] 30) := ⟨_, rfl⟩
  have HS0 : Hid (RnS w (Mt.mAt m R 0) (.slice none 0 0) 0 (w.heap.size + 1) b6 (Mt.use m R) W1) := by
    show RnS _ _ _ _ _ _ _ _
    rw [hW1, hb6]
    exact ⟨nrow_below HO1.out (nbel_alloc _ _), rowN_alloc w1 [.int .i64 m.d, .int .i64 m.u, .int .i64 m.day, .int .i64 m.s, .slice none 0 0, .int .i64 0] _, UsR.nil _ _ _, ⟨by omega, hol⟩, HB1.out.alloc HB1.out.size _⟩
  have HWE := Lib.hid hW1
  have HBE := Lib.hid hb6
  clear hW1 hb6
  go_wp2_with fail
  rw [← HWE.out, ← HBE.out]
  clear HWE HBE HM1 HO1 HB1 m0 m1 m2 m3 o0 o1 o2 o3 o4 o5 z0 z1 z2 z3 z4 z5 hol
  go_loopw [6, 7] (fun iv _ wr => ∃ (i : Nat) (v : Value), i ≤ n ∧ iv = .int .i64 i ∧ Hid (RnS w (Mt.mAt m R i) v i (w.heap.size + 1) b6 (Mt.use m R) wr) ∧ Hid (∀ j, j < i → Mt.OkAt m R j)) (fun iv _ _ => n - (intOf iv).toNat)
  case atStart => exact ⟨0, _, Nat.zero_le _, rfl, HS0, fun j hj => absurd hj (Nat.not_lt_zero _)⟩
  case round =>
    obtain ⟨i, v, hi, rfl, hS, hP⟩ := hrel
    clear HS0
    obtain ⟨a, c, rfl⟩ := hS.out.l.shape
    obtain ⟨X, hX⟩ : ∃ X, X = Mt.mAt m R i := ⟨_, rfl⟩
    rw [← hX] at hS
    have HX := Lib.hid hX
    clear hX
    by_cases hlt : i < n
    · have hltz : (i : Int) < (n : Int) := by omega
      obtain ⟨b, e, c0, c1⟩ := (H.out.below hS.out.old).at2 hlt
      subst e
      obtain ⟨rd, hrd⟩ : ∃ x, x = R (i * 2) := ⟨_, rfl⟩
      obtain ⟨rs, hrs⟩ : ∃ x, x = R (i * 2 + 1) := ⟨_, rfl⟩
      rw [← hrd] at c0
      rw [← hrs] at c1
      have HRD := Lib.hid hrd
      have HRS := Lib.hid hrs
      have C0 := Lib.hid c0
      have C1 := Lib.hid c1
      have HZB0 : Hid (b < wr.heap.size) := World.block_lt_of_cell? _ _ c0
      have HB6 : Hid (b6 < wr.heap.size) := hS.out.r.lt
      obtain ⟨Y, hY⟩ : ∃ Y, Y = Mt.ansM (Mt.ReadOk X rd rs) (Mt.next X rd rs) := ⟨_, rfl⟩
      obtain ⟨N, hN⟩ : ∃ N, N = Mt.ansN (Mt.ReadOk X rd rs) 1 := ⟨_, rfl⟩
      obtain ⟨x, hx⟩ : ∃ x, x = Mt.ansC (Mt.ReadOk X rd rs) 1 := ⟨_, rfl⟩
      have HYY := Lib.hid hY
      have HNN := Lib.hid hN
      have Hxx := Lib.hid hx
      clear hrd hrs c0 c1 hY hN hx
      go_wp2_with fail
      go_cut [7] (fun q Wq => ∃ xb aN cN, q = .pointer (some ⟨xb, 0, none⟩) ∧ Hid (PrM wr Y N x (Mt.use X (Mt.rd1 rd rs)) xb aN cN Wq))
      case first =>
        refine wp_region_held_drew (S := fun V => Below wr.heap.size wr V) (by kernel_rfl) (Below.refl _ _).drew (fun hHeld => ?_)
        obtain ⟨Z, hZ⟩ : ∃ Z, Z = wr.drew := ⟨_, rfl⟩
        rw [← hZ] at hHeld ⊢
        clear hZ
        refine take_do (i := 0) (v := (.pointer (some ⟨b6, 0, none⟩))) rfl (by kernel_rfl) (by kernel_rfl) (by kernel_rfl) (fun _ _ _ h => h) (by rfl) ?_ (by assumption) ?_
        · intro w hSw
          go_simp
        simp only [Act.put, List.setIfInBounds_toArray, List.set_cons_zero, List.set_cons_succ]
        refine take_do (i := 1) (v := (mtV X)) rfl (by kernel_rfl) (by kernel_rfl) (by kernel_rfl) (fun _ _ _ h => h) (by rfl) ?_ (by assumption) ?_
        · intro w hSw
          obtain ⟨⟨r0, r1, r2, r3, r4, r5⟩, _⟩ := rowN6 (nrow_below hS.out.r hSw)
          have d0 := (hSw.cell (p := ⟨b, i * 2, none⟩) HZB0.out).trans C0.out
          have d1 := (hSw.cell (p := ⟨b, i * 2 + 1, none⟩) HZB0.out).trans C1.out
          go_simp
        simp only [Act.put, List.setIfInBounds_toArray, List.set_cons_zero, List.set_cons_succ]
        refine take_do (i := 2) (v := (.slice (some ⟨b, 0, none⟩) n cap)) rfl (by kernel_rfl) (by kernel_rfl) (by kernel_rfl) (fun _ _ _ h => h) (by rfl) ?_ (by assumption) ?_
        · intro w hSw
          go_simp
        simp only [Act.put, List.setIfInBounds_toArray, List.set_cons_zero, List.set_cons_succ]
        refine take_do (i := 3) (v := (.int .i64 i)) rfl (by kernel_rfl) (by kernel_rfl) (by kernel_rfl) (fun _ _ _ h => h) (by rfl) ?_ (by assumption) ?_
        · intro w hSw
          go_simp
        simp only [Act.put, List.setIfInBounds_toArray, List.set_cons_zero, List.set_cons_succ]
        refine take_do (i := 4) (v := (.pointer (some ⟨b, i * 2, none⟩))) rfl (by kernel_rfl) (by kernel_rfl) (by kernel_rfl) (fun _ _ _ h => h) (by rfl) ?_ (by assumption) ?_
        · intro w hSw
          go_simp
        simp only [Act.put, List.setIfInBounds_toArray, List.set_cons_zero, List.set_cons_succ]
        refine take_do (i := 5) (v := (.agg #[.int .i64 rd, .int .i64 rs])) rfl (by kernel_rfl) (by kernel_rfl) (by kernel_rfl) (fun _ _ _ h => h) (by rfl) ?_ (by assumption) ?_
        · intro w hSw
          obtain ⟨⟨r0, r1, r2, r3, r4, r5⟩, _⟩ := rowN6 (nrow_below hS.out.r hSw)
          have d0 := (hSw.cell (p := ⟨b, i * 2, none⟩) HZB0.out).trans C0.out
          have d1 := (hSw.cell (p := ⟨b, i * 2 + 1, none⟩) HZB0.out).trans C1.out
          go_simp
        simp only [Act.put, List.setIfInBounds_toArray, List.set_cons_zero, List.set_cons_succ]
        refine wpAnyH_ready (rs := [6, 7]) (by kernel_rfl) (by simp) (AllReadyH.cons (at_drop (i := 6) rfl) (fun K2 hK => ?_) (AllReadyH.cons (at_drop (i := 7) rfl) (fun K2 hK => ?_) (AllReadyH.nil)))
        · go_simp
          refine (specRead_any X rd rs _).mono ?_
          rintro e Z1 ⟨hE, hb⟩
          obtain ⟨aN, cN, rfl, hown⟩ := hE.tell
          rw [← HYY.out, ← HNN.out, ← Hxx.out]
          rw [← HNN.out] at hown
          have HOW := Lib.hid (hown.low hHeld.size)
          clear hE hown
          go_wp2_with fail
          refine hK.out _ _ (hHeld.trans (hb.mono hHeld.size)) (fun hHeld2 => ?_)
          clear hK hHeld hb
          have hHeld := hHeld2
          clear hHeld2
          refine wpAnyH_ready (rs := [7]) (by kernel_rfl) (by simp) (AllReadyH.cons (at_drop (i := 7) rfl) (fun K2 hK => ?_) (AllReadyH.nil))
          obtain ⟨Z2, hZ2⟩ : ∃ Z2, Z2 = Z1.alloc (.cells #[.int .i64 0, .int .i64 0, .int .i64 0, .int .i64 0, .slice none 0 0, .int .i64 0] 30) := ⟨_, rfl⟩
          have hb : Below Z1.heap.size Z1 Z2 := by rw [hZ2]; exact nbel_alloc _ _
          have HV : Hid (Z2.rowIs Z1.heap.size 30 6 (rowN [.int .i64 0, .int .i64 0, .int .i64 0, .int .i64 0, .slice none 0 0, .int .i64 0])) := by show World.rowIs _ _ _ _ _; rw [hZ2]; exact rowN_alloc _ _ _
          obtain ⟨xb, hxb⟩ : ∃ xb, xb = Z1.heap.size := ⟨_, rfl⟩
          rw [← hxb] at HV
          have HXL : Hid (wr.heap.size ≤ xb) := by show _ ≤ _; rw [hxb]; exact hHeld.size
          have HOW2 := Lib.hid (HOW.out.below hb)
          clear HOW
          have HOW := HOW2
          clear HOW2
          go_simp
          rw [← hZ2, ← hxb]
          clear hZ2
          refine hK.out _ _ (hHeld.trans (hb.mono hHeld.size)) (fun hHeld2 => ?_)
          clear hK hHeld hxb hb
          have hHeld := hHeld2
          clear hHeld2
          have zr := mput6 HV.out rfl (.int .i64 Y.d) (.int .i64 Y.u) (.int .i64 Y.day) (.int .i64 Y.s) (.slice aN N cN) (.int .i64 x)
          have zk := fun (k : Nat) (hk : k ≠ xb) => mblk6 (W := Z2) hk (.int .i64 Y.d) (.int .i64 Y.u) (.int .i64 Y.day) (.int .i64 Y.s) (.slice aN N cN) (.int .i64 x)
          have zb := mbel6 (g := xb) hHeld HXL.out (.int .i64 Y.d) (.int .i64 Y.u) (.int .i64 Y.day) (.int .i64 Y.s) (.slice aN N cN) (.int .i64 x)
          obtain ⟨⟨o0, o1, o2, o3, o4, o5⟩, z0, z1, z2, z3, z4, z5⟩ := rowN6 HV.out
          have hol := HV.out.lt
          refine take_call (i := 8) rfl (by kernel_rfl) (fun K2 hK => ?_)
          go_simp
          clear o0 o1 o2 o3 o4 o5 z0 z1 z2 z3 z4 z5
          have zo : UsOwn wr.heap.size N aN cN (Mt.use X (Mt.rd1 rd rs)) _ := HOW.out.same (fun k e _ => zk k (HOW.out.ne HV.out e))
          generalize ((((((Z2).setCell ⟨xb, 0, none⟩ (.int .i64 Y.d)).setCell ⟨xb, 1, none⟩ (.int .i64 Y.u)).setCell ⟨xb, 2, none⟩ (.int .i64 Y.day)).setCell ⟨xb, 3, none⟩ (.int .i64 Y.s)).setCell ⟨xb, 4, none⟩ (.slice aN N cN)).setCell ⟨xb, 5, none⟩ (.int .i64 x) = Y1 at zr zk zb zo ⊢
          refine hK.out _ _ zb (fun hHeld2 => ?_)
          clear hK hHeld hHeld2
          refine wpAnyH_done (by kernel_rfl) ?_ _
          have HPR : Hid (PrM wr Y N x (Mt.use X (Mt.rd1 rd rs)) xb aN cN Y1) := ⟨zb, zr, zo, HXL.out⟩
          clear zo
          clear zr zk zb
          go_wp2_with fail
          go_meet
          case rel => exact ⟨xb, aN, cN, rfl, HPR⟩
        · obtain ⟨Z1, hZ1⟩ : ∃ Z1, Z1 = Z.alloc (.cells #[.int .i64 0, .int .i64 0, .int .i64 0, .int .i64 0, .slice none 0 0, .int .i64 0] 30) := ⟨_, rfl⟩
          have hb : Below Z.heap.size Z Z1 := by rw [hZ1]; exact nbel_alloc _ _
          have HV : Hid (Z1.rowIs Z.heap.size 30 6 (rowN [.int .i64 0, .int .i64 0, .int .i64 0, .int .i64 0, .slice none 0 0, .int .i64 0])) := by show World.rowIs _ _ _ _ _; rw [hZ1]; exact rowN_alloc _ _ _
          obtain ⟨xb, hxb⟩ : ∃ xb, xb = Z.heap.size := ⟨_, rfl⟩
          rw [← hxb] at HV
          have HXL : Hid (wr.heap.size ≤ xb) := by show _ ≤ _; rw [hxb]; exact hHeld.size
          go_simp
          rw [← hZ1, ← hxb]
          clear hZ1
          refine hK.out _ _ (hHeld.trans (hb.mono hHeld.size)) (fun hHeld2 => ?_)
          clear hK hHeld hxb hb
          have hHeld := hHeld2
          clear hHeld2
          refine wpAnyH_ready (rs := [6]) (by kernel_rfl) (by simp) (AllReadyH.cons (at_drop (i := 6) rfl) (fun K2 hK => ?_) (AllReadyH.nil))
          go_simp
          refine (specRead_any X rd rs _).mono ?_
          rintro e Z2 ⟨hE, hb⟩
          obtain ⟨aN, cN, rfl, hown⟩ := hE.tell
          rw [← HYY.out, ← HNN.out, ← Hxx.out]
          rw [← HNN.out] at hown
          have HOW := Lib.hid (hown.low hHeld.size)
          clear hE hown
          have HV2 := Lib.hid (nrow_below HV.out hb)
          clear HV
          have HV := HV2
          clear HV2
          go_wp2_with fail
          refine hK.out _ _ (hHeld.trans (hb.mono hHeld.size)) (fun hHeld2 => ?_)
          clear hK hHeld hb
          have hHeld := hHeld2
          clear hHeld2
          have zr := mput6 HV.out rfl (.int .i64 Y.d) (.int .i64 Y.u) (.int .i64 Y.day) (.int .i64 Y.s) (.slice aN N cN) (.int .i64 x)
          have zk := fun (k : Nat) (hk : k ≠ xb) => mblk6 (W := Z2) hk (.int .i64 Y.d) (.int .i64 Y.u) (.int .i64 Y.day) (.int .i64 Y.s) (.slice aN N cN) (.int .i64 x)
          have zb := mbel6 (g := xb) hHeld HXL.out (.int .i64 Y.d) (.int .i64 Y.u) (.int .i64 Y.day) (.int .i64 Y.s) (.slice aN N cN) (.int .i64 x)
          obtain ⟨⟨o0, o1, o2, o3, o4, o5⟩, z0, z1, z2, z3, z4, z5⟩ := rowN6 HV.out
          have hol := HV.out.lt
          refine take_call (i := 8) rfl (by kernel_rfl) (fun K2 hK => ?_)
          go_simp
          clear o0 o1 o2 o3 o4 o5 z0 z1 z2 z3 z4 z5
          have zo : UsOwn wr.heap.size N aN cN (Mt.use X (Mt.rd1 rd rs)) _ := HOW.out.same (fun k e _ => zk k (HOW.out.ne HV.out e))
          generalize ((((((Z2).setCell ⟨xb, 0, none⟩ (.int .i64 Y.d)).setCell ⟨xb, 1, none⟩ (.int .i64 Y.u)).setCell ⟨xb, 2, none⟩ (.int .i64 Y.day)).setCell ⟨xb, 3, none⟩ (.int .i64 Y.s)).setCell ⟨xb, 4, none⟩ (.slice aN N cN)).setCell ⟨xb, 5, none⟩ (.int .i64 x) = Y1 at zr zk zb zo ⊢
          refine hK.out _ _ zb (fun hHeld2 => ?_)
          clear hK hHeld hHeld2
          refine wpAnyH_done (by kernel_rfl) ?_ _
          have HPR : Hid (PrM wr Y N x (Mt.use X (Mt.rd1 rd rs)) xb aN cN Y1) := ⟨zb, zr, zo, HXL.out⟩
          clear zo
          clear zr zk zb
          go_wp2_with fail
          go_meet
          case rel => exact ⟨xb, aN, cN, rfl, HPR⟩
      case rest =>
        obtain ⟨xb, aN, cN, rfl, hPR⟩ := hcut
        obtain ⟨w3, hw3⟩ : ∃ W3, W3 = wc := ⟨_, rfl⟩
        rw [← hw3] at hPR ⊢
        clear hw3
        have HS3 := Lib.hid (hS.out.below hPR.out.bel)
        have HPX := Lib.hid hPR.out
        clear hPR hS C0 C1 HZB0
        obtain ⟨⟨q0, q1, q2, q3, q4, q5⟩, _⟩ := rowN6 HPX.out.row
        by_cases hk : Mt.ReadOk X rd rs
        case neg =>
          have HNO : Hid (¬ (n ≤ 60 ∧ Mt.RunOk m R n)) := fun h => hk (by have := h.2.2 i hlt; unfold Mt.OkAt at this; rw [← HX.out, ← HRD.out, ← HRS.out] at this; exact this)
          obtain rfl : x = 1 := by rw [Hxx.out, Mt.ans_no hk]
          clear hk
          obtain ⟨⟨o0, o1, o2, o3, o4, o5⟩, z0, z1, z2, z3, z4, z5⟩ := rowN6 HS3.out.o
          obtain ⟨Z, hZ⟩ : ∃ Z, Z = ((((((w3).setCell ⟨w.heap.size + 1, 0, none⟩ (.int .i64 0)).setCell ⟨w.heap.size + 1, 1, none⟩ (.int .i64 0)).setCell ⟨w.heap.size + 1, 2, none⟩ (.int .i64 0)).setCell ⟨w.heap.size + 1, 3, none⟩ (.int .i64 0)).setCell ⟨w.heap.size + 1, 4, none⟩ (.slice none 0 0)).setCell ⟨w.heap.size + 1, 5, none⟩ (.int .i64 1) := ⟨_, rfl⟩
          have HZR : Hid (Z.rowIs (w.heap.size + 1) 30 6 (rowN (muL Mt.none none 0 0 1))) := by show Z.rowIs _ _ _ _; rw [hZ]; exact mput6 HS3.out.o rfl (.int .i64 0) (.int .i64 0) (.int .i64 0) (.int .i64 0) (.slice none 0 0) (.int .i64 1)
          have HZB : Hid (Below w.heap.size w Z) := by show Below _ _ _; rw [hZ]; exact mbel6 (g := w.heap.size + 1) HS3.out.old (by omega) (.int .i64 0) (.int .i64 0) (.int .i64 0) (.int .i64 0) (.slice none 0 0) (.int .i64 1)
          have HZ := Lib.hid hZ
          clear hZ
          go_wp2_with fail
          rw [← HZ.out]
          obtain ⟨⟨p0, p1, p2, p3, p4, p5⟩, _⟩ := rowN6 HZR.out
          exact bodyPost_ret (v := muV Mt.none none 0 0 1) (by simp only [results, Tryd.results7]; simp [go_sem, p0, p1, p2, p3, p4, p5, Mt.none]) rfl ⟨Or.inl ⟨HNO.out, by rw [HC.out]⟩, HZB.out⟩
        have HK : Hid (Mt.OkAt m R i) := by show Mt.OkAt m R i; unfold Mt.OkAt; rw [← HX.out, ← HRD.out, ← HRS.out]; exact hk
        have HNX : Hid (Mt.mAt m R (i + 1) = Mt.next X rd rs) := by show Mt.next _ _ _ = _; rw [← HX.out, ← HRD.out, ← HRS.out]
        have HY : Hid (Y = Mt.next X rd rs) := by show _ = _; rw [HYY.out]; exact (Mt.ans_yes hk _ 1 1).1
        obtain rfl : N = 1 := by rw [HNN.out]; exact (Mt.ans_yes hk (Mt.next X rd rs) 1 1).2.1
        obtain rfl : x = 0 := by rw [Hxx.out]; exact (Mt.ans_yes hk (Mt.next X rd rs) 1 1).2.2
        clear hk HYY HNN Hxx
        obtain ⟨g, hge, hgl, hgb⟩ : ∃ g, aN = some ⟨g, 0, none⟩ ∧ wr.heap.size ≤ g ∧ IsBlk 33 g (1 * 4) (Mt.use X (Mt.rd1 rd rs)) w3 := by
          rcases HPX.out.own with h | h
          · exact absurd h.2.1 (by omega)
          · exact h
        subst hge
        have hgx : g ≠ xb := HPX.out.own.ne HPX.out.row rfl
        have hxne : xb ≠ b6 := by
          have h1 := HPX.out.lo
          have h2 : b6 < wr.heap.size := HB6.out
          omega
        have hxne2 : b6 ≠ xb := Ne.symm hxne
        have hxl := HPX.out.row.lt
        have hu : ∀ j, j < 4 → w3.cell? ⟨g, j, none⟩ = some (.int .i64 (Mt.use m R (i * 4 + j))) := fun j hj => by
          rw [hgb.cell (i := j) (by omega), HX.out, HRD.out, HRS.out, Mt.use_at m R i j hj]
        obtain ⟨x0, x1, x2, x3⟩ : w3.cell? ⟨g, 0, none⟩ = some (.int .i64 (Mt.use m R (i * 4))) ∧ w3.cell? ⟨g, 1, none⟩ = some (.int .i64 (Mt.use m R (i * 4 + 1))) ∧ w3.cell? ⟨g, 2, none⟩ = some (.int .i64 (Mt.use m R (i * 4 + 2))) ∧ w3.cell? ⟨g, 3, none⟩ = some (.int .i64 (Mt.use m R (i * 4 + 3))) := ⟨hu 0 (by omega), hu 1 (by omega), hu 2 (by omega), hu 3 (by omega)⟩
        have hg3 : g < w3.heap.size := hgb.lt
        have hgne : g ≠ b6 := by
          rintro rfl
          obtain ⟨_, _, _, h3, _⟩ := hgb
          obtain ⟨_, q1, _⟩ := h3
          obtain ⟨_, q2, _⟩ := HS3.out.r
          rw [q1] at q2
          simp at q2
        obtain ⟨⟨r0, r1, r2, r3, r4, r5⟩, f0, f1, f2, f3, f4, f5⟩ := rowN6 HS3.out.r
        have hrl := HS3.out.r.lt
        have HGN := Lib.hid hgne
        have HNEW : Hid (∀ j u, [Value.int .i64 (Mt.use m R (i * 4)), .int .i64 (Mt.use m R (i * 4 + 1)), .int .i64 (Mt.use m R (i * 4 + 2)), .int .i64 (Mt.use m R (i * 4 + 3))][j]? = some u → ((((w3.setCell ⟨b6, 0, none⟩ (.int .i64 Y.d)).setCell ⟨b6, 1, none⟩ (.int .i64 Y.u)).setCell ⟨b6, 2, none⟩ (.int .i64 Y.day)).setCell ⟨b6, 3, none⟩ (.int .i64 Y.s)).cell? ((⟨g, 0, none⟩ : Addr).add j) = some u) := by
          intro j u hj
          have hjl : j < 4 := by have := (List.getElem?_eq_some_iff.1 hj).1; simpa using this
          have hcell : ((((w3.setCell ⟨b6, 0, none⟩ (.int .i64 Y.d)).setCell ⟨b6, 1, none⟩ (.int .i64 Y.u)).setCell ⟨b6, 2, none⟩ (.int .i64 Y.day)).setCell ⟨b6, 3, none⟩ (.int .i64 Y.s)).cell? ⟨g, j, none⟩ = w3.cell? ⟨g, j, none⟩ := by
            exact World.cell?_of_block (w := w3) (by
              show _[g]? = _
              rw [Below.heap_setCell _ _ _ _ hgne, Below.heap_setCell _ _ _ _ hgne, Below.heap_setCell _ _ _ _ hgne, Below.heap_setCell _ _ _ _ hgne])
          rw [Addr.add_lit, Nat.zero_add, hcell]
          have hc : j = 0 ∨ j = 1 ∨ j = 2 ∨ j = 3 := by omega
          rcases hc with rfl | rfl | rfl | rfl
          · simp at hj; rw [x0, hj]
          · simp at hj; rw [x1, hj]
          · simp at hj; rw [x2, hj]
          · simp at hj; rw [x3, hj]
        clear hu hgb hgl
        go_wp2_with (at_builtin; refine wpList_append_own _ rfl _ _ 28 rfl w.heap.size 33 i0 (.agg #[.int .i64 0, .int .i64 0, .int .i64 0, .int .i64 0]) 4 32 Tryd.underlying28 hi0 hz0 hz1 hz2 rfl (by decide) _ i (isV4 (Mt.use m R) i) rfl (HS3.out.meter Y).l ⟨g, 0, none⟩ 1 cN [.int .i64 (Mt.use m R (i * 4)), .int .i64 (Mt.use m R (i * 4 + 1)), .int .i64 (Mt.use m R (i * 4 + 2)), .int .i64 (Mt.use m R (i * 4 + 3))] rfl rfl ?e1 ?e2 ?e3 ?e4 ?e5 ?_)
        try (case e1 => exact HNEW.out)
        try (case e2 => (intro u hu; simp at hu; rcases hu with rfl | rfl | rfl | rfl <;> rfl))
        try (case e3 => (unfold maxLen; omega))
        try (case e4 => omega)
        try (case e5 => exact (HS3.out.meter Y).old.size)
        intro v' y3 hown hgrow hnil
        obtain ⟨hp, hq⟩ := RnS.push (HS3.out.meter Y) hown hgrow
        obtain ⟨a', c', rfl⟩ := hp.l.shape
        have HP2 := Lib.hid hp
        obtain ⟨⟨s0, s1, s2, s3, s4, s5⟩, g0, g1, g2, g3, g4, g5⟩ := rowN6 hq
        clear hp hq hown hgrow hnil HS3 r0 r1 r2 r3 r4 r5 f0 f1 f2 f3 f4 f5 hrl x0 x1 x2 x3 hg3 HNEW q0 q1 q2 q3 q4 q5 hxl HPX
        go_wp2_with fail
        go_roundw
        case rel => exact ⟨i + 1, _, by omega, by go_num, by rw [HNX.out, ← HY.out]; exact HP2, fun j hj => by
          by_cases e : j = i
          · subst e; exact HK.out
          · exact hP.out j (by omega)⟩
        case measure => simp [intOf]; omega
    · obtain rfl : i = n := by omega
      have HOK : Hid (i ≤ 60 ∧ Mt.RunOk m R i) := ⟨HN6.out, HRT.out, hP.out⟩
      obtain ⟨⟨o0, o1, o2, o3, o4, o5⟩, z0, z1, z2, z3, z4, z5⟩ := rowN6 hS.out.o
      obtain ⟨⟨r0, r1, r2, r3, r4, r5⟩, _⟩ := rowN6 hS.out.r
      obtain ⟨Z, hZ⟩ : ∃ Z, Z = ((((((wr).setCell ⟨w.heap.size + 1, 0, none⟩ (.int .i64 X.d)).setCell ⟨w.heap.size + 1, 1, none⟩ (.int .i64 X.u)).setCell ⟨w.heap.size + 1, 2, none⟩ (.int .i64 X.day)).setCell ⟨w.heap.size + 1, 3, none⟩ (.int .i64 X.s)).setCell ⟨w.heap.size + 1, 4, none⟩ (.slice a i c)).setCell ⟨w.heap.size + 1, 5, none⟩ (.int .i64 0) := ⟨_, rfl⟩
      have HZR : Hid (Z.rowIs (w.heap.size + 1) 30 6 (rowN (muL X a i c 0))) := by show Z.rowIs _ _ _ _; rw [hZ]; exact mput6 hS.out.o rfl (.int .i64 X.d) (.int .i64 X.u) (.int .i64 X.day) (.int .i64 X.s) (.slice a i c) (.int .i64 0)
      have HZB : Hid (Below w.heap.size w Z) := by show Below _ _ _; rw [hZ]; exact mbel6 (g := w.heap.size + 1) hS.out.old (by omega) (.int .i64 X.d) (.int .i64 X.u) (.int .i64 X.day) (.int .i64 X.s) (.slice a i c) (.int .i64 0)
      have HZG : Hid (UsOwn w.heap.size i a c (Mt.use m R) Z) := by
        show UsOwn _ _ _ _ _ _
        rw [hZ]
        exact (hS.out.l.keep (fun g e _ => mblk6 (hS.out.l.ne hS.out.o e) (.int .i64 X.d) (.int .i64 X.u) (.int .i64 X.day) (.int .i64 X.s) (.slice a i c) (.int .i64 0))).own
      have HZ := Lib.hid hZ
      clear hZ hS
      go_wp2_with fail
      rw [← HZ.out]
      obtain ⟨⟨p0, p1, p2, p3, p4, p5⟩, _⟩ := rowN6 HZR.out
      exact bodyPost_ret (v := muV X a i c 0) (by simp only [results, Tryd.results7]; simp [go_sem, p0, p1, p2, p3, p4, p5]) rfl ⟨Or.inr ⟨HOK.out, a, c, by rw [HX.out], HZG.out⟩, HZB.out⟩
end Go.Proofs.YtmejmpdljckfgaaDoor
