/-
  The model's DayCost.
-/
import Derived.Test.YtmfokilpfbcicaaDoorDyC1
import Derived.Test.YtmfokilpfbcicaaDoorDyS1
import Derived.Test.YtmfokilpfbcicaaDoorDyOw
import Derived.Test.YtmfokilpfbcicaaDoorReg
import Derived.Deep.DeepCutAuto
namespace Go.Proofs.YtmfokilpfbcicaaDoor
open Go.RowKit Go.Deep

theorem dstep_append {P : Program} {ops : Array Oper} {o : Oper} {a : Act} {w : World} {K : Act → World → Prop} {Q : Exit → Act → World → Prop} {E : Prop}
    (hg : o.guard = none) (s x : Operand) (t : TypeId) (hop : o.op = Op.call { callee := Callee.builtin Builtin.append, args := #[s, x], argTypes := #[t, t] }) (B : Nat)
    (e : TypeId) (i : TypeInfo) (z : Value) (size bytes : Nat) (h1 : P.underlying t = some (.slice e)) (h2 : P.info? e = some i) (h3 : i.zero = some z) (h4 : i.size = size) (h5 : i.bytes = bytes) (h6 : z.cells.size = size) (h7 : 0 < size)
    (v : Value) (n : Nat) (olds : List Value) (hs : a.eval s = v) (hown : w.ownsRow B e size v n olds)
    (ad : Addr) (m c : Nat) (news : List Value) (hx : a.eval x = .slice (some ad) m c) (hn : news.length = m * size) (hc : ∀ j u, news[j]? = some u → w.cell? (ad.add j) = some u) (h1c : ∀ u ∈ news, u.oneCell' = true)
    (b1 : n + m ≤ maxLen) (b2 : (n + m) * bytes ≤ 140737488355328) (hB : B ≤ w.heap.size)
    (hK : ∀ v' w', w'.ownsRow B e size v' (n + m) (olds ++ news) → w.grownBy w' v.ownBlock → K (a.put o.dst v') w') :
    if Region.wanted o (yielded ops a.tmps) = true then Oper.wp P o a w K Q else E := by
  have hw : Region.wanted o (yielded ops a.tmps) = true := by simp [Region.wanted, hg]
  rw [if_pos hw]
  obtain ⟨v', w', hrun, r1, r2, _⟩ := run_append_own (P := P) w B t o.type e i z size bytes h1 h2 h3 h4 h5 h6 h7 v n olds hown ad m c news hn hc h1c b1 b2 hB
  unfold Oper.wp
  simp [execOp, hop, resolve, invoke, builtin, hs, hx, hrun, Result.andThen]
  exact hK v' w' r1 r2
/-- What stands from slot to slot: the answer's block, the copy of the modes, the old memory. -/
structure DmS (n : Dy.Day) (k : Nat) (f : Nat → Int) (w0 : World) (gb g c i : Nat) (V : World) : Prop where
  row : V.rowIs gb 28 4 (rowN (doL (some ⟨g, 0, none⟩) k c (Dy.costA n f i) (Dy.endA n f i) 0))
  own : IsBlk 2 g k f V
  old : Below w0.heap.size w0 V
  lo : w0.heap.size ≤ gb ∧ w0.heap.size ≤ g ∧ g ≠ gb
theorem DmS.below {n : Dy.Day} {k : Nat} {f : Nat → Int} {w0 : World} {gb g c i : Nat} {V V' : World} (h : DmS n k f w0 gb g c i V) (hb : Below V.heap.size V V') : DmS n k f w0 gb g c i V' := ⟨nrow_below h.row hb, h.own.below hb, h.old.trans (hb.mono h.old.size), h.lo⟩
set_option maxRecDepth 100000 in
set_option maxHeartbeats 16000000 in
theorem specCost_any (n : Dy.Day) (la : Option Addr) (lk : Nat) (fa : Option Addr) (fk : Nat) (wa : Option Addr) (wk : Nat) (am : Option Addr) (k ck : Nat) (f : Nat → Int) (w : World) (h : DyAt n la fa wa w) (hs : DySmall n) (hm : IsAt am k f w) (hk : k ≤ 1048576) :
    Calls Tryd.prog 5 #[dyV n la lk fa fk wa wk, .slice am k ck] w fun e w' => DcEnd w.heap.size n k f e w' ∧ Below w.heap.size w w' := by
  obtain ⟨i0, hi0, hz0, hz1, hz2⟩ := info_parts minfo_i64
  obtain ⟨W, hW⟩ : ∃ W, W = (w.alloc (.cells #[.slice la n.mn lk, .slice fa n.wn fk, .slice wa n.pn wk, .int .i64 n.tank, .int .i64 n.low, .int .i64 n.high] 32)).alloc (.cells #[.slice none 0 0, .int .i64 0, .int .i64 0, .int .i64 0] 28) := ⟨_, rfl⟩
  have HB : Hid (Below w.heap.size w W) := by show Below _ _ _; rw [hW]; exact (nbel_alloc _ _).alloc (by simp) _
  have HR : Hid (W.rowIs w.heap.size 32 6 (rowN (dyL n la lk fa fk wa wk))) := by show W.rowIs _ _ _ _; rw [hW]; exact nrow_below (rowN_alloc w _ _) (nbel_alloc _ _)
  have HO : Hid (W.rowIs (w.heap.size + 1) 28 4 (rowN (doL none 0 0 0 0 0))) := by show W.rowIs _ _ _ _; rw [hW]; exact rowN_alloc' (by simp) _ _
  have HW := Lib.hid hW
  have H := Lib.hid (h.below HB.out)
  have HM := Lib.hid (hm.below HB.out)
  have HS := Lib.hid hs
  obtain ⟨⟨o0, o1, o2, o3⟩, z0, z1, z2, z3⟩ := rowN4 HO.out
  have hol := HO.out.lt
  rw [hW] at o0 o1 o2 o3 z0 z1 z2 z3 hol
  clear h hm hs
  by_cases q0 : (400 : Int) < (k : Int)
  · have HC : Hid (Dy.codeC n k f = 2) := Dy.codeC_size (by omega)
    go_enter Tryd.func5, Tryd.ntmps5
    go_wp2_with fail
    exact bodyPost_ret (v := doV none 0 0 0 0 2) (by simp only [results, Tryd.results5]; simp [go_sem]) rfl ⟨Or.inl ⟨by rw [HC.out]; simp, by rw [HC.out]⟩, (nbel_alloc _ _).alloc (by simp) _⟩
  have hk4 : ¬ 400 < k := by omega
  go_enter Tryd.func5, Tryd.ntmps5
  go_wp2_with fail
  rw [← HW.out]
  clear HW hW o0 o1 o2 o3 z0 z1 z2 z3 hol
  refine (specDay_any n la lk fa fk wa wk _ H.out HS.out).mono ?_
  rintro e w1 ⟨rfl, hb⟩
  have HR1 := Lib.hid (nrow_below HR.out hb)
  have HO1 := Lib.hid (nrow_below HO.out hb)
  have H1 := Lib.hid (H.out.below hb)
  have HM1 := Lib.hid (HM.out.below hb)
  have HB1 : Hid (Below w.heap.size w w1) := HB.out.trans (hb.mono HB.out.size)
  clear hb HR HO H HM HB
  obtain ⟨⟨p0, p1, p2, p3, p4, p5⟩, _⟩ := rowN6 HR1.out
  obtain ⟨⟨o0, o1, o2, o3⟩, z0, z1, z2, z3⟩ := rowN4 HO1.out
  have hol := HO1.out.lt
  by_cases q1 : Dy.Right n
  case neg =>
    rw [dB_ff q1]
    have HC : Hid (Dy.codeC n k f = 1) := Dy.codeC_form hk4 (fun x => q1 x.1)
    clear q1
    go_wp2_with fail
    have zr := dput4 HO1.out (.slice none 0 0) (.int .i64 (0)) (.int .i64 (0)) (.int .i64 (1))
    have zb := dbel4 (g := w.heap.size + 1) HB1.out (by omega) (.slice none 0 0) (.int .i64 (0)) (.int .i64 (0)) (.int .i64 (1))
    generalize (((w1.setCell ⟨w.heap.size + 1, 0, none⟩ (.slice none 0 0)).setCell ⟨w.heap.size + 1, 1, none⟩ (.int .i64 (0))).setCell ⟨w.heap.size + 1, 2, none⟩ (.int .i64 (0))).setCell ⟨w.heap.size + 1, 3, none⟩ (.int .i64 (1)) = Z at zr zb ⊢
    obtain ⟨⟨c0, c1, c2, c3⟩, _⟩ := rowN4 zr
    exact bodyPost_ret (v := .agg #[.slice none 0 0, .int .i64 (0), .int .i64 (0), .int .i64 (1)]) (by simp only [results, Tryd.results5]; simp [go_sem, c0, c1, c2, c3]) rfl ⟨Or.inl ⟨by rw [HC.out]; simp, by rw [HC.out]⟩, zb⟩
  rw [dB_tt q1]
  have HRT := Lib.hid q1
  clear q1
  by_cases q2 : k ≠ n.wn
  · have HC : Hid (Dy.codeC n k f = 1) := Dy.codeC_form hk4 (fun x => q2 x.2.1)
    have q2' : ((k : Int) != (n.wn : Int)) = true := by simp; omega
    clear q2
    go_wp2_with fail
    have zr := dput4 HO1.out (.slice none 0 0) (.int .i64 (0)) (.int .i64 (0)) (.int .i64 (1))
    have zb := dbel4 (g := w.heap.size + 1) HB1.out (by omega) (.slice none 0 0) (.int .i64 (0)) (.int .i64 (0)) (.int .i64 (1))
    generalize (((w1.setCell ⟨w.heap.size + 1, 0, none⟩ (.slice none 0 0)).setCell ⟨w.heap.size + 1, 1, none⟩ (.int .i64 (0))).setCell ⟨w.heap.size + 1, 2, none⟩ (.int .i64 (0))).setCell ⟨w.heap.size + 1, 3, none⟩ (.int .i64 (1)) = Z at zr zb ⊢
    obtain ⟨⟨c0, c1, c2, c3⟩, _⟩ := rowN4 zr
    exact bodyPost_ret (v := .agg #[.slice none 0 0, .int .i64 (0), .int .i64 (0), .int .i64 (1)]) (by simp only [results, Tryd.results5]; simp [go_sem, c0, c1, c2, c3]) rfl ⟨Or.inl ⟨by rw [HC.out]; simp, by rw [HC.out]⟩, zb⟩
  have q2' : ((k : Int) != (n.wn : Int)) = false := by simp; omega
  have HKW : Hid (k = n.wn) := by show k = n.wn; omega
  have hm6 : (1 : Int) ≤ (n.mn : Int) ∧ (n.mn : Int) ≤ 6 := by have := HRT.out.2.1.m1; have := HRT.out.2.1.m2; omega
  clear q2
  go_wp2_with fail
  refine (dyall_any am k ck f ((n.mn : Int) - 1) _ HM1.out (by omega)).mono ?_
  rintro e w2 ⟨rfl, hb⟩
  replace HR1 := Lib.hid (nrow_below HR1.out hb)
  replace HO1 := Lib.hid (nrow_below HO1.out hb)
  replace H1 := Lib.hid (H1.out.below hb)
  replace HM1 := Lib.hid (HM1.out.below hb)
  replace HB1 : Hid (Below w.heap.size w w2) := HB1.out.trans (hb.mono HB1.out.size)
  clear hb p0 p1 p2 p3 p4 p5 o0 o1 o2 o3 z0 z1 z2 z3 hol
  obtain ⟨⟨p0, p1, p2, p3, p4, p5⟩, _⟩ := rowN6 HR1.out
  obtain ⟨⟨o0, o1, o2, o3⟩, z0, z1, z2, z3⟩ := rowN4 HO1.out
  have hol := HO1.out.lt
  by_cases q3 : Dy.AllIn k f ((n.mn : Int) - 1)
  case neg =>
    rw [dB_ff q3]
    have HC : Hid (Dy.codeC n k f = 1) := Dy.codeC_form hk4 (fun x => q3 x.2.2)
    clear q3
    go_wp2_with fail
    have zr := dput4 HO1.out (.slice none 0 0) (.int .i64 (0)) (.int .i64 (0)) (.int .i64 (1))
    have zb := dbel4 (g := w.heap.size + 1) HB1.out (by omega) (.slice none 0 0) (.int .i64 (0)) (.int .i64 (0)) (.int .i64 (1))
    generalize (((w2.setCell ⟨w.heap.size + 1, 0, none⟩ (.slice none 0 0)).setCell ⟨w.heap.size + 1, 1, none⟩ (.int .i64 (0))).setCell ⟨w.heap.size + 1, 2, none⟩ (.int .i64 (0))).setCell ⟨w.heap.size + 1, 3, none⟩ (.int .i64 (1)) = Z at zr zb ⊢
    obtain ⟨⟨c0, c1, c2, c3⟩, _⟩ := rowN4 zr
    exact bodyPost_ret (v := .agg #[.slice none 0 0, .int .i64 (0), .int .i64 (0), .int .i64 (1)]) (by simp only [results, Tryd.results5]; simp [go_sem, c0, c1, c2, c3]) rfl ⟨Or.inl ⟨by rw [HC.out]; simp, by rw [HC.out]⟩, zb⟩
  rw [dB_tt q3]
  have HF : Hid (Dy.FormC n k f) := ⟨HRT.out, HKW.out, q3⟩
  have hk1 : 1 ≤ k := by have := HRT.out.1.w1; have := HKW.out; omega
  clear q3 p0 p1 p2 p3 p4 p5 o0 o1 o2 o3 z0 z1 z2 z3 hol q2'
  obtain ⟨bm, e, _⟩ := HM1.out.at1 (i := 0) (by omega)
  subst e
  go_wp2_with fail
  go_cut [5] (fun p V => ∃ gb g c, p = .pointer (some ⟨gb, 0, none⟩) ∧ Hid (DmS n k f w2 gb g c 0 V))
  case first =>
    refine wp_region_held_drew (S := fun V => Below w2.heap.size w2 V) (by kernel_rfl) (Below.refl _ _).drew (fun hHeld => ?_)
    obtain ⟨Z, hZ⟩ : ∃ Z, Z = w2.drew := ⟨_, rfl⟩
    rw [← hZ] at hHeld ⊢
    clear hZ
    refine take_do (i := 1) (v := (.slice (some ⟨bm, 0, none⟩) k ck)) rfl (by kernel_rfl) (by kernel_rfl) (by kernel_rfl) (fun _ _ _ h => h) (by rfl) ?_ (by assumption) ?_
    · intro w hSw
      skip
      go_simp
    simp only [Act.put, List.setIfInBounds_toArray, List.set_cons_zero, List.set_cons_succ]
    refine take_do (i := 3) (v := (.pointer (some ⟨w.heap.size, 3, none⟩))) rfl (by kernel_rfl) (by kernel_rfl) (by kernel_rfl) (fun _ _ _ h => h) (by rfl) ?_ (by assumption) ?_
    · intro w hSw
      skip
      go_simp
    simp only [Act.put, List.setIfInBounds_toArray, List.set_cons_zero, List.set_cons_succ]
    refine take_do (i := 4) (v := (.int .i64 n.tank)) rfl (by kernel_rfl) (by kernel_rfl) (by kernel_rfl) (fun _ _ _ h => h) (by rfl) ?_ (by assumption) ?_
    · intro w hSw
      obtain ⟨⟨p0, p1, p2, p3, p4, p5⟩, _⟩ := rowN6 (nrow_below HR1.out hSw)
      go_simp
    simp only [Act.put, List.setIfInBounds_toArray, List.set_cons_zero, List.set_cons_succ]
    refine wpAnyH_ready (rs := [0, 6]) (by kernel_rfl) (by simp) (AllReadyH.cons (at_drop (i := 0) rfl) (fun K2 hK => ?_) (AllReadyH.cons (at_drop (i := 6) rfl) (fun K2 hK => ?_) (AllReadyH.nil)))
    · obtain ⟨Z1, hZ1⟩ : ∃ Z1, Z1 = Z.alloc (.cells #[] 2) := ⟨_, rfl⟩
      have hb : Below Z.heap.size Z Z1 := by rw [hZ1]; exact nbel_alloc _ _
      obtain ⟨gs, hgs⟩ : ∃ gs, gs = Z.heap.size := ⟨_, rfl⟩
      have HOS : Hid (Z1.ownsRow w2.heap.size 2 1 (.slice (some ⟨gs, 0, none⟩) 0 0) 0 []) := by
        show World.ownsRow _ _ _ _ _ _ _
        rw [hZ1, hgs]
        exact World.ownsRow_made Z #[] 0 hHeld.size (Nat.zero_le _) rfl
      go_simp
      rw [← hZ1, ← hgs]
      refine hK.out _ _ (hHeld.trans (hb.mono hHeld.size)) (fun hHeld2 => ?_)
      clear hK hHeld
      have hHeld := hHeld2
      clear hHeld2
      clear hb hZ1 hgs
      refine wpAnyH_ready (rs := [2, 6]) (by kernel_rfl) (by simp) (AllReadyH.cons (at_drop (i := 2) rfl) (fun K2 hK => ?_) (AllReadyH.cons (at_drop (i := 6) rfl) (fun K2 hK => ?_) (AllReadyH.nil)))
      · refine dstep_append rfl (.tmp 33) (.tmp 34) 23 rfl w2.heap.size 2 i0 (.int .i64 0) 1 8 Tryd.underlying23 hi0 hz0 hz1 hz2 rfl (by decide) (.slice (some ⟨gs, 0, none⟩) 0 0) 0 [] rfl HOS.out ⟨bm, 0, none⟩ k ck (isV f k) rfl (by rw [isV_len, Nat.mul_one]) ?_ ?_ (by unfold maxLen; omega) (by omega) hHeld.size ?_
        · intro j u hj
          have hjn : j < k := by
            have := (List.getElem?_eq_some_iff.1 hj).1
            simpa [isV_len] using this
          rw [isV_get f k hjn] at hj
          injection hj with hj
          subst hj
          obtain ⟨b, e, c⟩ := (HM1.out.below hHeld).at1 hjn
          cases e
          rw [Addr.add_lit, Nat.zero_add]
          exact c
        · intro u hu
          unfold isV at hu
          obtain ⟨x, _, rfl⟩ := List.mem_map.1 hu
          rfl
        intro v' Z2 hown hgrow
        have hrow : ∀ q, (Value.slice (some ⟨gs, 0, none⟩) 0 0).ownBlock = some q → w2.heap.size ≤ q := fun q e => (World.ownsRow.lt HOS.out q e).1
        have hbN : Below w2.heap.size w2 Z2 := ⟨hgrow.os.trans hHeld.os, hgrow.tape.trans hHeld.tape, hgrow.output.trans hHeld.output, Nat.le_trans hHeld.size hgrow.size, fun q hq => (hgrow.block q (Nat.lt_of_lt_of_le hq hHeld.size) (fun e => by have := hrow q e.symm; omega)).trans (hHeld.block q hq)⟩
        rw [Nat.zero_add, List.nil_append] at hown
        obtain ⟨g, c, rfl, hg, hk2⟩ := dyowl hown hk1
        have HK2 := Lib.hid hk2
        have HG2 := Lib.hid hg
        refine hK.out _ _ hbN (fun hHeld2 => ?_)
        clear hK hHeld hown hgrow hrow hbN hk2 hg HOS
        have hHeld := hHeld2
        clear hHeld2
        simp only [Act.put, List.setIfInBounds_toArray, List.set_cons_zero, List.set_cons_succ]
        refine take_do (i := 5) (v := (doV (some ⟨g, 0, none⟩) k c 0 n.tank 0)) rfl (by kernel_rfl) (by kernel_rfl) (by kernel_rfl) (fun _ _ _ h => h) (by rfl) ?_ (by assumption) ?_
        · intro w hSw
          skip
          go_simp
        simp only [Act.put, List.setIfInBounds_toArray, List.set_cons_zero, List.set_cons_succ]
        refine take_call (i := 6) rfl (by kernel_rfl) (fun K2 hK => ?_)
        obtain ⟨Z3, hZ3⟩ : ∃ Z3, Z3 = Z2.alloc (.cells #[.slice none 0 0, .int .i64 0, .int .i64 0, .int .i64 0] 28) := ⟨_, rfl⟩
        have hb : Below Z2.heap.size Z2 Z3 := by rw [hZ3]; exact nbel_alloc _ _
        obtain ⟨gb, hgb⟩ : ∃ gb, gb = Z2.heap.size := ⟨_, rfl⟩
        have RZ : Hid (Z3.rowIs gb 28 4 (rowN (doL none 0 0 0 0 0))) := by show World.rowIs _ _ _ _ _; rw [hZ3, hgb]; exact rowN_alloc _ _ _
        have HGB : Hid (w2.heap.size ≤ gb) := by show _ ≤ _; rw [hgb]; exact hHeld.size
        have HNG : Hid (g ≠ gb) := by have := HK2.out.lt; show g ≠ gb; omega
        replace HK2 := Lib.hid (HK2.out.below hb)
        go_simp
        rw [← hZ3, ← hgb]
        refine hK.out _ _ (hHeld.trans (hb.mono hHeld.size)) (fun hHeld2 => ?_)
        clear hK hHeld
        have hHeld := hHeld2
        clear hHeld2
        clear hb hZ3 hgb
        obtain ⟨⟨o0, o1, o2, o3⟩, z0, z1, z2, z3⟩ := rowN4 RZ.out
        have l0 := RZ.out.lt
        obtain ⟨WZ, hWZ⟩ : ∃ WZ, WZ = (((Z3.setCell ⟨gb, 0, none⟩ (.slice (some ⟨g, 0, none⟩) k c)).setCell ⟨gb, 1, none⟩ (.int .i64 0)).setCell ⟨gb, 2, none⟩ (.int .i64 n.tank)).setCell ⟨gb, 3, none⟩ (.int .i64 0) := ⟨_, rfl⟩
        have hbZ : Below w2.heap.size w2 WZ := by rw [hWZ]; exact dbel4 hHeld HGB.out _ _ _ _
        have HFM : Hid (DmS n k f w2 gb g c 0 WZ) := by
          refine ⟨?_, ?_, hbZ, HGB.out, HG2.out, HNG.out⟩
          · rw [hWZ]; exact dput4 RZ.out _ _ _ _
          · rw [hWZ]; exact HK2.out.block (dblk4 _ HNG.out _ _ _ _)
        have HWZ := Lib.hid hWZ
        have HBZ := Lib.hid hbZ
        clear hWZ hbZ
        refine take_call (i := 7) rfl (by kernel_rfl) (fun K2 hK => ?_)
        go_simp
        rw [← HWZ.out]
        refine hK.out _ _ HBZ.out (fun hHeld2 => ?_)
        clear hK hHeld hHeld2 HWZ o0 o1 o2 o3 z0 z1 z2 z3 l0
        refine wpAnyH_done (by kernel_rfl) ?_ _
        go_wp2_with fail
        go_meet
        case rel => exact ⟨gb, g, c, rfl, HFM⟩
      · obtain ⟨Z4, hZ4⟩ : ∃ Z4, Z4 = Z1.alloc (.cells #[.slice none 0 0, .int .i64 0, .int .i64 0, .int .i64 0] 28) := ⟨_, rfl⟩
        have hb : Below Z1.heap.size Z1 Z4 := by rw [hZ4]; exact nbel_alloc _ _
        obtain ⟨gb, hgb⟩ : ∃ gb, gb = Z1.heap.size := ⟨_, rfl⟩
        have RZ : Hid (Z4.rowIs gb 28 4 (rowN (doL none 0 0 0 0 0))) := by show World.rowIs _ _ _ _ _; rw [hZ4, hgb]; exact rowN_alloc _ _ _
        have HGB : Hid (w2.heap.size ≤ gb) := by show _ ≤ _; rw [hgb]; exact hHeld.size
        have HNE : Hid (gb ≠ gs) := by have := (World.ownsRow.lt HOS.out gs rfl).2; show gb ≠ gs; omega
        replace HOS := Lib.hid (dyown_below HOS.out hb)
        go_simp
        rw [← hZ4, ← hgb]
        refine hK.out _ _ (hHeld.trans (hb.mono hHeld.size)) (fun hHeld2 => ?_)
        clear hK hHeld
        have hHeld := hHeld2
        clear hHeld2
        clear hb hZ4 hgb
        refine take_call (i := 2) rfl (by kernel_rfl) (fun K2 hK => ?_)
        refine dstep_append rfl (.tmp 33) (.tmp 34) 23 rfl w2.heap.size 2 i0 (.int .i64 0) 1 8 Tryd.underlying23 hi0 hz0 hz1 hz2 rfl (by decide) (.slice (some ⟨gs, 0, none⟩) 0 0) 0 [] rfl HOS.out ⟨bm, 0, none⟩ k ck (isV f k) rfl (by rw [isV_len, Nat.mul_one]) ?_ ?_ (by unfold maxLen; omega) (by omega) hHeld.size ?_
        · intro j u hj
          have hjn : j < k := by
            have := (List.getElem?_eq_some_iff.1 hj).1
            simpa [isV_len] using this
          rw [isV_get f k hjn] at hj
          injection hj with hj
          subst hj
          obtain ⟨b, e, c⟩ := (HM1.out.below hHeld).at1 hjn
          cases e
          rw [Addr.add_lit, Nat.zero_add]
          exact c
        · intro u hu
          unfold isV at hu
          obtain ⟨x, _, rfl⟩ := List.mem_map.1 hu
          rfl
        intro v' Z5 hown hgrow
        have hrow : ∀ q, (Value.slice (some ⟨gs, 0, none⟩) 0 0).ownBlock = some q → w2.heap.size ≤ q := fun q e => (World.ownsRow.lt HOS.out q e).1
        have hbN : Below w2.heap.size w2 Z5 := ⟨hgrow.os.trans hHeld.os, hgrow.tape.trans hHeld.tape, hgrow.output.trans hHeld.output, Nat.le_trans hHeld.size hgrow.size, fun q hq => (hgrow.block q (Nat.lt_of_lt_of_le hq hHeld.size) (fun e => by have := hrow q e.symm; omega)).trans (hHeld.block q hq)⟩
        rw [Nat.zero_add, List.nil_append] at hown
        obtain ⟨g, c, rfl, hg, hk2⟩ := dyowl hown hk1
        have HK2 := Lib.hid hk2
        have HG2 := Lib.hid hg
        replace RZ : Hid (Z5.rowIs gb 28 4 (rowN (doL none 0 0 0 0 0))) := RZ.out.of_block (hgrow.block gb RZ.out.lt (fun e => HNE.out (by injection e)))
        have HNG : Hid (g ≠ gb) := dyblk_ne hk2 RZ.out (by decide)
        refine hK.out _ _ hbN (fun hHeld2 => ?_)
        clear hK hHeld hown hgrow hrow hbN hk2 hg HOS
        have hHeld := hHeld2
        clear hHeld2
        simp only [Act.put, List.setIfInBounds_toArray, List.set_cons_zero, List.set_cons_succ]
        refine take_do (i := 5) (v := (doV (some ⟨g, 0, none⟩) k c 0 n.tank 0)) rfl (by kernel_rfl) (by kernel_rfl) (by kernel_rfl) (fun _ _ _ h => h) (by rfl) ?_ (by assumption) ?_
        · intro w hSw
          skip
          go_simp
        simp only [Act.put, List.setIfInBounds_toArray, List.set_cons_zero, List.set_cons_succ]
        obtain ⟨⟨o0, o1, o2, o3⟩, z0, z1, z2, z3⟩ := rowN4 RZ.out
        have l0 := RZ.out.lt
        obtain ⟨WZ, hWZ⟩ : ∃ WZ, WZ = (((Z5.setCell ⟨gb, 0, none⟩ (.slice (some ⟨g, 0, none⟩) k c)).setCell ⟨gb, 1, none⟩ (.int .i64 0)).setCell ⟨gb, 2, none⟩ (.int .i64 n.tank)).setCell ⟨gb, 3, none⟩ (.int .i64 0) := ⟨_, rfl⟩
        have hbZ : Below w2.heap.size w2 WZ := by rw [hWZ]; exact dbel4 hHeld HGB.out _ _ _ _
        have HFM : Hid (DmS n k f w2 gb g c 0 WZ) := by
          refine ⟨?_, ?_, hbZ, HGB.out, HG2.out, HNG.out⟩
          · rw [hWZ]; exact dput4 RZ.out _ _ _ _
          · rw [hWZ]; exact HK2.out.block (dblk4 _ HNG.out _ _ _ _)
        have HWZ := Lib.hid hWZ
        have HBZ := Lib.hid hbZ
        clear hWZ hbZ
        refine take_call (i := 7) rfl (by kernel_rfl) (fun K2 hK => ?_)
        go_simp
        rw [← HWZ.out]
        refine hK.out _ _ HBZ.out (fun hHeld2 => ?_)
        clear hK hHeld hHeld2 HWZ o0 o1 o2 o3 z0 z1 z2 z3 l0
        refine wpAnyH_done (by kernel_rfl) ?_ _
        go_wp2_with fail
        go_meet
        case rel => exact ⟨gb, g, c, rfl, HFM⟩
    · obtain ⟨Z6, hZ6⟩ : ∃ Z6, Z6 = Z.alloc (.cells #[.slice none 0 0, .int .i64 0, .int .i64 0, .int .i64 0] 28) := ⟨_, rfl⟩
      have hb : Below Z.heap.size Z Z6 := by rw [hZ6]; exact nbel_alloc _ _
      obtain ⟨gb, hgb⟩ : ∃ gb, gb = Z.heap.size := ⟨_, rfl⟩
      have RZ : Hid (Z6.rowIs gb 28 4 (rowN (doL none 0 0 0 0 0))) := by show World.rowIs _ _ _ _ _; rw [hZ6, hgb]; exact rowN_alloc _ _ _
      have HGB : Hid (w2.heap.size ≤ gb) := by show _ ≤ _; rw [hgb]; exact hHeld.size
      go_simp
      rw [← hZ6, ← hgb]
      refine hK.out _ _ (hHeld.trans (hb.mono hHeld.size)) (fun hHeld2 => ?_)
      clear hK hHeld
      have hHeld := hHeld2
      clear hHeld2
      clear hb hZ6 hgb
      refine take_call (i := 0) rfl (by kernel_rfl) (fun K2 hK => ?_)
      obtain ⟨Z7, hZ7⟩ : ∃ Z7, Z7 = Z6.alloc (.cells #[] 2) := ⟨_, rfl⟩
      have hb : Below Z6.heap.size Z6 Z7 := by rw [hZ7]; exact nbel_alloc _ _
      obtain ⟨gs, hgs⟩ : ∃ gs, gs = Z6.heap.size := ⟨_, rfl⟩
      have HOS : Hid (Z7.ownsRow w2.heap.size 2 1 (.slice (some ⟨gs, 0, none⟩) 0 0) 0 []) := by
        show World.ownsRow _ _ _ _ _ _ _
        rw [hZ7, hgs]
        exact World.ownsRow_made Z6 #[] 0 hHeld.size (Nat.zero_le _) rfl
      have HNE : Hid (gb ≠ gs) := by have := RZ.out.lt; show gb ≠ gs; omega
      replace RZ := Lib.hid (nrow_below RZ.out hb)
      go_simp
      rw [← hZ7, ← hgs]
      refine hK.out _ _ (hHeld.trans (hb.mono hHeld.size)) (fun hHeld2 => ?_)
      clear hK hHeld
      have hHeld := hHeld2
      clear hHeld2
      clear hb hZ7 hgs
      refine take_call (i := 2) rfl (by kernel_rfl) (fun K2 hK => ?_)
      refine dstep_append rfl (.tmp 33) (.tmp 34) 23 rfl w2.heap.size 2 i0 (.int .i64 0) 1 8 Tryd.underlying23 hi0 hz0 hz1 hz2 rfl (by decide) (.slice (some ⟨gs, 0, none⟩) 0 0) 0 [] rfl HOS.out ⟨bm, 0, none⟩ k ck (isV f k) rfl (by rw [isV_len, Nat.mul_one]) ?_ ?_ (by unfold maxLen; omega) (by omega) hHeld.size ?_
      · intro j u hj
        have hjn : j < k := by
          have := (List.getElem?_eq_some_iff.1 hj).1
          simpa [isV_len] using this
        rw [isV_get f k hjn] at hj
        injection hj with hj
        subst hj
        obtain ⟨b, e, c⟩ := (HM1.out.below hHeld).at1 hjn
        cases e
        rw [Addr.add_lit, Nat.zero_add]
        exact c
      · intro u hu
        unfold isV at hu
        obtain ⟨x, _, rfl⟩ := List.mem_map.1 hu
        rfl
      intro v' Z8 hown hgrow
      have hrow : ∀ q, (Value.slice (some ⟨gs, 0, none⟩) 0 0).ownBlock = some q → w2.heap.size ≤ q := fun q e => (World.ownsRow.lt HOS.out q e).1
      have hbN : Below w2.heap.size w2 Z8 := ⟨hgrow.os.trans hHeld.os, hgrow.tape.trans hHeld.tape, hgrow.output.trans hHeld.output, Nat.le_trans hHeld.size hgrow.size, fun q hq => (hgrow.block q (Nat.lt_of_lt_of_le hq hHeld.size) (fun e => by have := hrow q e.symm; omega)).trans (hHeld.block q hq)⟩
      rw [Nat.zero_add, List.nil_append] at hown
      obtain ⟨g, c, rfl, hg, hk2⟩ := dyowl hown hk1
      have HK2 := Lib.hid hk2
      have HG2 := Lib.hid hg
      replace RZ : Hid (Z8.rowIs gb 28 4 (rowN (doL none 0 0 0 0 0))) := RZ.out.of_block (hgrow.block gb RZ.out.lt (fun e => HNE.out (by injection e)))
      have HNG : Hid (g ≠ gb) := dyblk_ne hk2 RZ.out (by decide)
      refine hK.out _ _ hbN (fun hHeld2 => ?_)
      clear hK hHeld hown hgrow hrow hbN hk2 hg HOS
      have hHeld := hHeld2
      clear hHeld2
      simp only [Act.put, List.setIfInBounds_toArray, List.set_cons_zero, List.set_cons_succ]
      refine take_do (i := 5) (v := (doV (some ⟨g, 0, none⟩) k c 0 n.tank 0)) rfl (by kernel_rfl) (by kernel_rfl) (by kernel_rfl) (fun _ _ _ h => h) (by rfl) ?_ (by assumption) ?_
      · intro w hSw
        skip
        go_simp
      simp only [Act.put, List.setIfInBounds_toArray, List.set_cons_zero, List.set_cons_succ]
      obtain ⟨⟨o0, o1, o2, o3⟩, z0, z1, z2, z3⟩ := rowN4 RZ.out
      have l0 := RZ.out.lt
      obtain ⟨WZ, hWZ⟩ : ∃ WZ, WZ = (((Z8.setCell ⟨gb, 0, none⟩ (.slice (some ⟨g, 0, none⟩) k c)).setCell ⟨gb, 1, none⟩ (.int .i64 0)).setCell ⟨gb, 2, none⟩ (.int .i64 n.tank)).setCell ⟨gb, 3, none⟩ (.int .i64 0) := ⟨_, rfl⟩
      have hbZ : Below w2.heap.size w2 WZ := by rw [hWZ]; exact dbel4 hHeld HGB.out _ _ _ _
      have HFM : Hid (DmS n k f w2 gb g c 0 WZ) := by
        refine ⟨?_, ?_, hbZ, HGB.out, HG2.out, HNG.out⟩
        · rw [hWZ]; exact dput4 RZ.out _ _ _ _
        · rw [hWZ]; exact HK2.out.block (dblk4 _ HNG.out _ _ _ _)
      have HWZ := Lib.hid hWZ
      have HBZ := Lib.hid hbZ
      clear hWZ hbZ
      refine take_call (i := 7) rfl (by kernel_rfl) (fun K2 hK => ?_)
      go_simp
      rw [← HWZ.out]
      refine hK.out _ _ HBZ.out (fun hHeld2 => ?_)
      clear hK hHeld hHeld2 HWZ o0 o1 o2 o3 z0 z1 z2 z3 l0
      refine wpAnyH_done (by kernel_rfl) ?_ _
      go_wp2_with fail
      go_meet
      case rel => exact ⟨gb, g, c, rfl, HFM⟩
  case rest =>
  obtain ⟨gb, g, c, rfl, HS0⟩ := hcut
  clear hi0 hz0 hz1 hz2 i0
  go_wp2_with fail
  go_loopw [6] (fun iv wr => ∃ (i : Nat), i ≤ k ∧ iv = .int .i64 i ∧ Hid (DmS n k f w2 gb g c i wr) ∧ Hid (∀ j, j < i → Dy.Fits n (Dy.endA n f (j + 1)))) (fun iv _ => k - (intOf iv).toNat)
  case atStart => exact ⟨0, Nat.zero_le _, rfl, HS0, fun j hj => absurd hj (Nat.not_lt_zero _)⟩
  case round =>
    obtain ⟨i, hi, rfl, hS, hP⟩ := hrel
    clear HS0
    by_cases hlt : i < k
    · have hltz : (i : Int) < (k : Int) := by omega
      obtain ⟨m, hfm, hmn, hmo⟩ := HF.out.mode hlt
      have HFM := Lib.hid hfm
      have HMO := Lib.hid hmo
      have HMN := Lib.hid hmn
      have HIW : Hid (i < n.wn ∧ i < n.pn) := by have := HKW.out; have := HRT.out.1.p; exact ⟨by omega, by omega⟩
      have HX : Hid (0 ≤ Dy.endA n f i ∧ Dy.endA n f i ≤ 300) := by
        have t := HRT.out.2.2
        by_cases e : i = 0
        · subst e; exact ⟨Int.le_trans t.1 t.2.1, Int.le_trans t.2.2.1 t.2.2.2⟩
        · have := hP.out (i - 1) (by omega)
          rw [show i - 1 + 1 = i by omega] at this
          exact ⟨Int.le_trans t.1 this.1, Int.le_trans this.2 t.2.2.2⟩
      clear hfm hmo hmn
      obtain ⟨L, hL⟩ : ∃ L, L = n.M (m * 2) := ⟨_, rfl⟩
      obtain ⟨R, hR⟩ : ∃ R, R = n.M (m * 2 + 1) := ⟨_, rfl⟩
      obtain ⟨U, hU⟩ : ∃ U, U = n.W i := ⟨_, rfl⟩
      obtain ⟨Q, hQ⟩ : ∃ Q, Q = n.P i := ⟨_, rfl⟩
      obtain ⟨Y, hY⟩ : ∃ Y, Y = Dy.endA n f i := ⟨_, rfl⟩
      obtain ⟨C, hC⟩ : ∃ C, C = Dy.costA n f i := ⟨_, rfl⟩
      have HEN : Hid (Dy.endA n f (i + 1) = Y + L - U) := by
        show Dy.endA n f i + (n.M ((f i).toNat * 2) - n.W i) = _
        rw [HFM.out, Int.toNat_natCast, hY, hL, hU]; omega
      have HCN : Hid (Dy.costA n f (i + 1) = C + R * Q) := by
        show Dy.costA n f i + n.M ((f i).toNat * 2 + 1) * n.P i = _
        rw [HFM.out, Int.toNat_natCast, hC, hR, hQ]
      have HBD : Hid ((0 ≤ Y ∧ Y ≤ 300) ∧ (0 ≤ L ∧ L ≤ 300) ∧ (0 ≤ U ∧ U ≤ 1000) ∧ (0 ≤ C ∧ C ≤ 400000000) ∧ (0 ≤ R * Q ∧ R * Q ≤ 1000000)) := by
        have p1 := HMO.out
        have p2 := HRT.out.1.ps i HIW.out.2
        have p3 := HRT.out.1.ws i HIW.out.1
        have p4 := Dy.cost_bd HF.out.1 (by have := HKW.out; omega) HF.out.2.2 i hi
        have p5 := HX.out
        rw [hY, hL, hU, hC, hR, hQ]
        exact ⟨p5, p1.1, p3, ⟨p4.1, by omega⟩, Int.mul_nonneg p1.2.1 p2.1, Int.le_trans (Int.mul_le_mul p1.2.2 p2.2 p2.1 (by omega)) (by omega)⟩
      have HROW : Hid (wr.rowIs gb 28 4 (rowN (doL (some ⟨g, 0, none⟩) k c C Y 0))) := by show World.rowIs _ _ _ _ _; rw [hC, hY]; exact hS.out.row
      have HOWN := Lib.hid hS.out.own
      have HOLD := Lib.hid hS.out.old
      have HLO := Lib.hid hS.out.lo
      have HCE : Hid (∀ V : World, Below w2.heap.size w2 V → ∃ bl bw bp bk, la = some ⟨bl, 0, none⟩ ∧ fa = some ⟨bw, 0, none⟩ ∧ wa = some ⟨bp, 0, none⟩ ∧ bm = bk ∧ V.cell? ⟨bl, m * 2, none⟩ = some (.int .i64 L) ∧ V.cell? ⟨bl, m * 2 + 1, none⟩ = some (.int .i64 R) ∧ V.cell? ⟨bw, i, none⟩ = some (.int .i64 U) ∧ V.cell? ⟨bp, i, none⟩ = some (.int .i64 Q) ∧ V.cell? ⟨bk, i, none⟩ = some (.int .i64 m)) := by
        intro V hV
        obtain ⟨bl, e1, c1, c2⟩ := (H1.out.below hV).l.at2 HMN.out
        obtain ⟨bw, e2, c3⟩ := (H1.out.below hV).f.at1 HIW.out.1
        obtain ⟨bp, e3, c4⟩ := (H1.out.below hV).w.at1 HIW.out.2
        obtain ⟨bk, e4, c5⟩ := (HM1.out.below hV).at1 hlt
        rw [HFM.out] at c5
        rw [hL, hR, hU, hQ]
        cases e4
        exact ⟨bl, bw, bp, _, e1, e2, e3, rfl, c1, c2, c3, c4, c5⟩
      obtain ⟨bl, bw, bp, bk, e1, e2, e3, e4, e5⟩ := HCE.out w2 (Below.refl _ _)
      clear e4 e5 bk
      subst e1 e2 e3
      have HCE2 : Hid (∀ V : World, Below w2.heap.size w2 V → V.cell? ⟨bl, m * 2, none⟩ = some (.int .i64 L) ∧ V.cell? ⟨bl, m * 2 + 1, none⟩ = some (.int .i64 R) ∧ V.cell? ⟨bw, i, none⟩ = some (.int .i64 U) ∧ V.cell? ⟨bp, i, none⟩ = some (.int .i64 Q) ∧ V.cell? ⟨bm, i, none⟩ = some (.int .i64 m)) := by
        intro V hV
        obtain ⟨_, _, _, _, e1, e2, e3, e4, h⟩ := HCE.out V hV
        cases e1; cases e2; cases e3; cases e4
        exact h
      clear HCE hS hL hR hU hQ hY hC
      have hmnz : (m : Int) < (n.mn : Int) := by have := HMN.out; omega
      have hiw : (i : Int) < (n.wn : Int) ∧ (i : Int) < (n.pn : Int) := by have := HIW.out; omega
      go_wp2_with fail
      refine wp_region_held_drew (S := fun V => Below w2.heap.size w2 V) (by kernel_rfl) HOLD.out.drew (fun hHeld => ?_)
      obtain ⟨Z, hZ⟩ : ∃ Z, Z = wr.drew := ⟨_, rfl⟩
      have RZ : Hid (Z.rowIs gb 28 4 (rowN (doL (some ⟨g, 0, none⟩) k c C Y 0))) := by show World.rowIs _ _ _ _ _; rw [hZ]; exact nrow_below HROW.out (Below.refl _ _).drew
      have KZ : Hid (IsBlk 2 g k f Z) := by show IsBlk _ _ _ _ _; rw [hZ]; exact HOWN.out.below (Below.refl _ _).drew
      rw [← hZ] at hHeld ⊢
      clear hZ HROW HOWN HOLD
      refine take_do (i := 0) (v := (.pointer (some ⟨w.heap.size, 0, none⟩))) rfl (by kernel_rfl) (by kernel_rfl) (by kernel_rfl) (fun _ _ _ h => h) (by rfl) ?_ (by assumption) ?_
      · intro w hSw
        skip
        go_simp
      simp only [Act.put, List.setIfInBounds_toArray, List.set_cons_zero, List.set_cons_succ]
      refine take_do (i := 1) (v := (.slice (some ⟨bl, 0, none⟩) n.mn lk)) rfl (by kernel_rfl) (by kernel_rfl) (by kernel_rfl) (fun _ _ _ h => h) (by rfl) ?_ (by assumption) ?_
      · intro w hSw
        obtain ⟨⟨p0, p1, p2, p3, p4, p5⟩, _⟩ := rowN6 (nrow_below HR1.out hSw)
        go_simp
      simp only [Act.put, List.setIfInBounds_toArray, List.set_cons_zero, List.set_cons_succ]
      refine take_do (i := 2) (v := (.slice (some ⟨bm, 0, none⟩) k ck)) rfl (by kernel_rfl) (by kernel_rfl) (by kernel_rfl) (fun _ _ _ h => h) (by rfl) ?_ (by assumption) ?_
      · intro w hSw
        skip
        go_simp
      simp only [Act.put, List.setIfInBounds_toArray, List.set_cons_zero, List.set_cons_succ]
      refine take_do (i := 3) (v := (.int .i64 i)) rfl (by kernel_rfl) (by kernel_rfl) (by kernel_rfl) (fun _ _ _ h => h) (by rfl) ?_ (by assumption) ?_
      · intro w hSw
        skip
        go_simp
      simp only [Act.put, List.setIfInBounds_toArray, List.set_cons_zero, List.set_cons_succ]
      refine take_do (i := 4) (v := (.pointer (some ⟨bm, i, none⟩))) rfl (by kernel_rfl) (by kernel_rfl) (by kernel_rfl) (fun _ _ _ h => h) (by rfl) ?_ (by assumption) ?_
      · intro w hSw
        skip
        go_simp
        try (intro hq; exfalso; omega)
      simp only [Act.put, List.setIfInBounds_toArray, List.set_cons_zero, List.set_cons_succ]
      refine take_do (i := 5) (v := (.int .i64 m)) rfl (by kernel_rfl) (by kernel_rfl) (by kernel_rfl) (fun _ _ _ h => h) (by rfl) ?_ (by assumption) ?_
      · intro w hSw
        obtain ⟨x1, x2, x3, x4, x5⟩ := HCE2.out _ hSw
        go_simp
      simp only [Act.put, List.setIfInBounds_toArray, List.set_cons_zero, List.set_cons_succ]
      refine take_do (i := 6) (v := (.pointer (some ⟨bl, m * 2, none⟩))) rfl (by kernel_rfl) (by kernel_rfl) (by kernel_rfl) (fun _ _ _ h => h) (by rfl) ?_ (by assumption) ?_
      · intro w hSw
        skip
        go_simp
        try (intro hq; exfalso; omega)
      simp only [Act.put, List.setIfInBounds_toArray, List.set_cons_zero, List.set_cons_succ]
      refine take_do (i := 7) (v := (.agg #[.int .i64 L, .int .i64 R])) rfl (by kernel_rfl) (by kernel_rfl) (by kernel_rfl) (fun _ _ _ h => h) (by rfl) ?_ (by assumption) ?_
      · intro w hSw
        obtain ⟨x1, x2, x3, x4, x5⟩ := HCE2.out _ hSw
        go_simp
      simp only [Act.put, List.setIfInBounds_toArray, List.set_cons_zero, List.set_cons_succ]
      refine take_call (i := 8) rfl (by kernel_rfl) (fun K2 hK => ?_)
      obtain ⟨Z1, hZ1⟩ : ∃ Z1, Z1 = Z.alloc (.cells #[.int .i64 0, .int .i64 0] 46) := ⟨_, rfl⟩
      have hb : Below Z.heap.size Z Z1 := by rw [hZ1]; exact nbel_alloc _ _
      obtain ⟨gm, hgm⟩ : ∃ gm, gm = Z.heap.size := ⟨_, rfl⟩
      have RM : Hid (Z1.rowIs gm 46 2 (rowN [.int .i64 0, .int .i64 0])) := by show World.rowIs _ _ _ _ _; rw [hZ1, hgm]; exact rowN_alloc _ _ _
      have HGM : Hid (w2.heap.size ≤ gm ∧ gb ≠ gm ∧ g ≠ gm) := by have h1 := RZ.out.lt; have h2 := KZ.out.lt; have h3 := hHeld.size; exact ⟨by omega, by omega, by omega⟩
      replace RZ := Lib.hid (nrow_below RZ.out hb)
      replace KZ := Lib.hid (KZ.out.below hb)
      go_simp
      rw [← hZ1, ← hgm]
      refine hK.out _ _ (hHeld.trans (hb.mono hHeld.size)) (fun hHeld2 => ?_)
      clear hK hHeld hb hZ1 hgm
      have hHeld := hHeld2
      clear hHeld2
      obtain ⟨⟨o0, o1⟩, z0, z1⟩ := rowN2 RM.out
      have l0 := RM.out.lt
      obtain ⟨WZ, hWZ⟩ : ∃ WZ, WZ = (Z1.setCell ⟨gm, 0, none⟩ (.int .i64 L)).setCell ⟨gm, 1, none⟩ (.int .i64 R) := ⟨_, rfl⟩
      have hbZ : Below w2.heap.size w2 WZ := by rw [hWZ]; exact (hHeld.setCell (p := ⟨gm, 0, none⟩) HGM.out.1 _).setCell (p := ⟨gm, 1, none⟩) HGM.out.1 _
      have RW : Hid (WZ.rowIs gm 46 2 (rowN [.int .i64 L, .int .i64 R])) := by show World.rowIs _ _ _ _ _; rw [hWZ]; exact rowN_put (rowN_put RM.out 0 _ (by simp)) 1 _ (by simp)
      have RG : Hid (WZ.rowIs gb 28 4 (rowN (doL (some ⟨g, 0, none⟩) k c C Y 0))) := by show World.rowIs _ _ _ _ _; rw [hWZ]; exact nrow_set (nrow_set RZ.out (p := ⟨gm, 0, none⟩) HGM.out.2.1 _) (p := ⟨gm, 1, none⟩) HGM.out.2.1 _
      have KG : Hid (IsBlk 2 g k f WZ) := by show IsBlk _ _ _ _ _; rw [hWZ]; exact KZ.out.block ((Below.heap_setCell _ _ _ _ HGM.out.2.2).trans (Below.heap_setCell _ _ _ _ HGM.out.2.2))
      have HWZ := Lib.hid hWZ
      have HBZ := Lib.hid hbZ
      clear hWZ hbZ
      refine take_call (i := 9) rfl (by kernel_rfl) (fun K2 hK => ?_)
      go_simp
      rw [← HWZ.out]
      refine hK.out _ _ HBZ.out (fun hHeld2 => ?_)
      clear hK hHeld hHeld2 HWZ o0 o1 z0 z1 l0 RZ KZ RM
      refine wpAnyH_done (by kernel_rfl) ?_ _
      go_wp2_with fail
      have hbd := HBD.out
      refine wp_region_held_drew (S := fun V => Below w2.heap.size w2 V ∧ V.rowIs gm 46 2 (rowN [.int .i64 L, .int .i64 R])) (by kernel_rfl) ⟨HBZ.out.drew, nrow_below RW.out (Below.refl _ _).drew⟩ (fun hHeld => ?_)
      obtain ⟨Z2, hZ⟩ : ∃ Z, Z = WZ.drew := ⟨_, rfl⟩
      have RZ : Hid (Z2.rowIs gb 28 4 (rowN (doL (some ⟨g, 0, none⟩) k c C Y 0))) := by show World.rowIs _ _ _ _ _; rw [hZ]; exact nrow_below RG.out (Below.refl _ _).drew
      have KZ : Hid (IsBlk 2 g k f Z2) := by show IsBlk _ _ _ _ _; rw [hZ]; exact KG.out.below (Below.refl _ _).drew
      rw [← hZ] at hHeld ⊢
      clear hZ HBZ RW RG KG
      refine take_do (i := 0) (v := (.pointer (some ⟨gb, 2, none⟩))) rfl (by kernel_rfl) (by kernel_rfl) (by kernel_rfl) (fun _ _ _ h => h) (by rfl) ?_ (by assumption) ?_
      · intro w hSw
        skip
        go_simp
      simp only [Act.put, List.setIfInBounds_toArray, List.set_cons_zero, List.set_cons_succ]
      refine take_do (i := 2) (v := (.pointer (some ⟨gm, 0, none⟩))) rfl (by kernel_rfl) (by kernel_rfl) (by kernel_rfl) (fun _ _ _ h => h) (by rfl) ?_ (by assumption) ?_
      · intro w hSw
        skip
        go_simp
      simp only [Act.put, List.setIfInBounds_toArray, List.set_cons_zero, List.set_cons_succ]
      refine take_do (i := 3) (v := (.int .i64 L)) rfl (by kernel_rfl) (by kernel_rfl) (by kernel_rfl) (fun _ _ _ h => h) (by rfl) ?_ (by assumption) ?_
      · intro w hSw
        obtain ⟨⟨x0, x1⟩, _⟩ := rowN2 hSw.2
        go_simp
      simp only [Act.put, List.setIfInBounds_toArray, List.set_cons_zero, List.set_cons_succ]
      refine take_do (i := 5) (v := (.pointer (some ⟨w.heap.size, 1, none⟩))) rfl (by kernel_rfl) (by kernel_rfl) (by kernel_rfl) (fun _ _ _ h => h) (by rfl) ?_ (by assumption) ?_
      · intro w hSw
        skip
        go_simp
      simp only [Act.put, List.setIfInBounds_toArray, List.set_cons_zero, List.set_cons_succ]
      refine take_do (i := 6) (v := (.slice (some ⟨bw, 0, none⟩) n.wn fk)) rfl (by kernel_rfl) (by kernel_rfl) (by kernel_rfl) (fun _ _ _ h => h) (by rfl) ?_ (by assumption) ?_
      · intro w hSw
        obtain ⟨⟨p0, p1, p2, p3, p4, p5⟩, _⟩ := rowN6 (nrow_below HR1.out hSw.1)
        go_simp
      simp only [Act.put, List.setIfInBounds_toArray, List.set_cons_zero, List.set_cons_succ]
      refine take_do (i := 7) (v := (.int .i64 i)) rfl (by kernel_rfl) (by kernel_rfl) (by kernel_rfl) (fun _ _ _ h => h) (by rfl) ?_ (by assumption) ?_
      · intro w hSw
        skip
        go_simp
      simp only [Act.put, List.setIfInBounds_toArray, List.set_cons_zero, List.set_cons_succ]
      refine take_do (i := 8) (v := (.pointer (some ⟨bw, i, none⟩))) rfl (by kernel_rfl) (by kernel_rfl) (by kernel_rfl) (fun _ _ _ h => h) (by rfl) ?_ (by assumption) ?_
      · intro w hSw
        skip
        go_simp
        try (intro hq; exfalso; omega)
      simp only [Act.put, List.setIfInBounds_toArray, List.set_cons_zero, List.set_cons_succ]
      refine take_do (i := 9) (v := (.int .i64 U)) rfl (by kernel_rfl) (by kernel_rfl) (by kernel_rfl) (fun _ _ _ h => h) (by rfl) ?_ (by assumption) ?_
      · intro w hSw
        obtain ⟨x1, x2, x3, x4, x5⟩ := HCE2.out _ hSw.1
        go_simp
      simp only [Act.put, List.setIfInBounds_toArray, List.set_cons_zero, List.set_cons_succ]
      refine take_call (i := 1) rfl (by kernel_rfl) (fun K2 hK => ?_)
      obtain ⟨⟨o0, o1, o2, o3⟩, _⟩ := rowN4 RZ.out
      go_simp
      refine hK.out _ _ hHeld (fun hHeld2 => ?_)
      clear hK hHeld o0 o1 o2 o3
      have hHeld := hHeld2
      clear hHeld2
      refine take_do (i := 4) (v := (.int .i64 (Y + L))) rfl (by kernel_rfl) (by kernel_rfl) (by kernel_rfl) (fun _ _ _ h => h) (by rfl) ?_ (by assumption) ?_
      · intro w hSw
        skip
        go_simp
        exact dywrap (by omega) (by omega)
      simp only [Act.put, List.setIfInBounds_toArray, List.set_cons_zero, List.set_cons_succ]
      refine take_do (i := 10) (v := (.int .i64 (Y + L - U))) rfl (by kernel_rfl) (by kernel_rfl) (by kernel_rfl) (fun _ _ _ h => h) (by rfl) ?_ (by assumption) ?_
      · intro w hSw
        skip
        go_simp
        exact dywrap (by omega) (by omega)
      simp only [Act.put, List.setIfInBounds_toArray, List.set_cons_zero, List.set_cons_succ]
      refine take_do (i := 11) (v := (.pointer (some ⟨gb, 2, none⟩))) rfl (by kernel_rfl) (by kernel_rfl) (by kernel_rfl) (fun _ _ _ h => h) (by rfl) ?_ (by assumption) ?_
      · intro w hSw
        skip
        go_simp
      simp only [Act.put, List.setIfInBounds_toArray, List.set_cons_zero, List.set_cons_succ]
      obtain ⟨⟨o0, o1, o2, o3⟩, z0, z1, z2, z3⟩ := rowN4 RZ.out
      have l0 := RZ.out.lt
      obtain ⟨WA, hWZ⟩ : ∃ WZ, WZ = Z2.setCell ⟨gb, 2, none⟩ (.int .i64 (Y + L - U)) := ⟨_, rfl⟩
      have hbZ : Below w2.heap.size w2 WA := by rw [hWZ]; exact hHeld.1.setCell (p := ⟨gb, 2, none⟩) HLO.out.1 _
      have hrZ : WA.rowIs gm 46 2 (rowN [.int .i64 L, .int .i64 R]) := by rw [hWZ]; exact nrow_set hHeld.2 (p := ⟨gb, 2, none⟩) (Ne.symm HGM.out.2.1) _
      have RG : Hid (WA.rowIs gb 28 4 (rowN (doL (some ⟨g, 0, none⟩) k c (C) (Y + L - U) 0))) := by show World.rowIs _ _ _ _ _; rw [hWZ]; exact rowN_put RZ.out 2 _ (by simp)
      have KG : Hid (IsBlk 2 g k f WA) := by show IsBlk _ _ _ _ _; rw [hWZ]; exact KZ.out.block (Below.heap_setCell _ _ _ _ HLO.out.2.2)
      have HWZ := Lib.hid hWZ
      have HBZ := Lib.hid hbZ
      have RW := Lib.hid hrZ
      clear hWZ hbZ hrZ
      refine take_call (i := 12) rfl (by kernel_rfl) (fun K2 hK => ?_)
      go_simp
      rw [← HWZ.out]
      refine hK.out _ _ ⟨HBZ.out, RW.out⟩ (fun hHeld2 => ?_)
      clear hK hHeld hHeld2 HWZ o0 o1 o2 o3 z0 z1 z2 z3 l0 RZ KZ
      refine wpAnyH_done (by kernel_rfl) ?_ _
      go_wp2_with fail
      refine wp_region_held_drew (S := fun V => Below w2.heap.size w2 V ∧ V.rowIs gm 46 2 (rowN [.int .i64 L, .int .i64 R])) (by kernel_rfl) ⟨HBZ.out.drew, nrow_below RW.out (Below.refl _ _).drew⟩ (fun hHeld => ?_)
      obtain ⟨Z3, hZ⟩ : ∃ Z, Z = WA.drew := ⟨_, rfl⟩
      have RZ : Hid (Z3.rowIs gb 28 4 (rowN (doL (some ⟨g, 0, none⟩) k c C (Y + L - U) 0))) := by show World.rowIs _ _ _ _ _; rw [hZ]; exact nrow_below RG.out (Below.refl _ _).drew
      have KZ : Hid (IsBlk 2 g k f Z3) := by show IsBlk _ _ _ _ _; rw [hZ]; exact KG.out.below (Below.refl _ _).drew
      rw [← hZ] at hHeld ⊢
      clear hZ HBZ RW RG KG
      refine take_do (i := 0) (v := (.pointer (some ⟨gb, 1, none⟩))) rfl (by kernel_rfl) (by kernel_rfl) (by kernel_rfl) (fun _ _ _ h => h) (by rfl) ?_ (by assumption) ?_
      · intro w hSw
        skip
        go_simp
      simp only [Act.put, List.setIfInBounds_toArray, List.set_cons_zero, List.set_cons_succ]
      refine take_do (i := 2) (v := (.pointer (some ⟨gm, 1, none⟩))) rfl (by kernel_rfl) (by kernel_rfl) (by kernel_rfl) (fun _ _ _ h => h) (by rfl) ?_ (by assumption) ?_
      · intro w hSw
        skip
        go_simp
      simp only [Act.put, List.setIfInBounds_toArray, List.set_cons_zero, List.set_cons_succ]
      refine take_do (i := 3) (v := (.int .i64 R)) rfl (by kernel_rfl) (by kernel_rfl) (by kernel_rfl) (fun _ _ _ h => h) (by rfl) ?_ (by assumption) ?_
      · intro w hSw
        obtain ⟨⟨x0, x1⟩, _⟩ := rowN2 hSw.2
        go_simp
      simp only [Act.put, List.setIfInBounds_toArray, List.set_cons_zero, List.set_cons_succ]
      refine take_do (i := 4) (v := (.pointer (some ⟨w.heap.size, 2, none⟩))) rfl (by kernel_rfl) (by kernel_rfl) (by kernel_rfl) (fun _ _ _ h => h) (by rfl) ?_ (by assumption) ?_
      · intro w hSw
        skip
        go_simp
      simp only [Act.put, List.setIfInBounds_toArray, List.set_cons_zero, List.set_cons_succ]
      refine take_do (i := 5) (v := (.slice (some ⟨bp, 0, none⟩) n.pn wk)) rfl (by kernel_rfl) (by kernel_rfl) (by kernel_rfl) (fun _ _ _ h => h) (by rfl) ?_ (by assumption) ?_
      · intro w hSw
        obtain ⟨⟨p0, p1, p2, p3, p4, p5⟩, _⟩ := rowN6 (nrow_below HR1.out hSw.1)
        go_simp
      simp only [Act.put, List.setIfInBounds_toArray, List.set_cons_zero, List.set_cons_succ]
      refine take_do (i := 6) (v := (.int .i64 i)) rfl (by kernel_rfl) (by kernel_rfl) (by kernel_rfl) (fun _ _ _ h => h) (by rfl) ?_ (by assumption) ?_
      · intro w hSw
        skip
        go_simp
      simp only [Act.put, List.setIfInBounds_toArray, List.set_cons_zero, List.set_cons_succ]
      refine take_do (i := 7) (v := (.pointer (some ⟨bp, i, none⟩))) rfl (by kernel_rfl) (by kernel_rfl) (by kernel_rfl) (fun _ _ _ h => h) (by rfl) ?_ (by assumption) ?_
      · intro w hSw
        skip
        go_simp
        try (intro hq; exfalso; omega)
      simp only [Act.put, List.setIfInBounds_toArray, List.set_cons_zero, List.set_cons_succ]
      refine take_do (i := 8) (v := (.int .i64 Q)) rfl (by kernel_rfl) (by kernel_rfl) (by kernel_rfl) (fun _ _ _ h => h) (by rfl) ?_ (by assumption) ?_
      · intro w hSw
        obtain ⟨x1, x2, x3, x4, x5⟩ := HCE2.out _ hSw.1
        go_simp
      simp only [Act.put, List.setIfInBounds_toArray, List.set_cons_zero, List.set_cons_succ]
      refine take_do (i := 9) (v := (.int .i64 (R * Q))) rfl (by kernel_rfl) (by kernel_rfl) (by kernel_rfl) (fun _ _ _ h => h) (by rfl) ?_ (by assumption) ?_
      · intro w hSw
        skip
        go_simp
        exact dywrap (by omega) (by omega)
      simp only [Act.put, List.setIfInBounds_toArray, List.set_cons_zero, List.set_cons_succ]
      refine take_call (i := 1) rfl (by kernel_rfl) (fun K2 hK => ?_)
      obtain ⟨⟨o0, o1, o2, o3⟩, _⟩ := rowN4 RZ.out
      go_simp
      refine hK.out _ _ hHeld (fun hHeld2 => ?_)
      clear hK hHeld o0 o1 o2 o3
      have hHeld := hHeld2
      clear hHeld2
      refine take_do (i := 10) (v := (.int .i64 (C + R * Q))) rfl (by kernel_rfl) (by kernel_rfl) (by kernel_rfl) (fun _ _ _ h => h) (by rfl) ?_ (by assumption) ?_
      · intro w hSw
        skip
        go_simp
        exact dywrap (by omega) (by omega)
      simp only [Act.put, List.setIfInBounds_toArray, List.set_cons_zero, List.set_cons_succ]
      refine take_do (i := 11) (v := (.pointer (some ⟨gb, 1, none⟩))) rfl (by kernel_rfl) (by kernel_rfl) (by kernel_rfl) (fun _ _ _ h => h) (by rfl) ?_ (by assumption) ?_
      · intro w hSw
        skip
        go_simp
      simp only [Act.put, List.setIfInBounds_toArray, List.set_cons_zero, List.set_cons_succ]
      obtain ⟨⟨o0, o1, o2, o3⟩, z0, z1, z2, z3⟩ := rowN4 RZ.out
      have l0 := RZ.out.lt
      obtain ⟨WB, hWZ⟩ : ∃ WZ, WZ = Z3.setCell ⟨gb, 1, none⟩ (.int .i64 (C + R * Q)) := ⟨_, rfl⟩
      have hbZ : Below w2.heap.size w2 WB := by rw [hWZ]; exact hHeld.1.setCell (p := ⟨gb, 1, none⟩) HLO.out.1 _
      have hrZ : WB.rowIs gm 46 2 (rowN [.int .i64 L, .int .i64 R]) := by rw [hWZ]; exact nrow_set hHeld.2 (p := ⟨gb, 1, none⟩) (Ne.symm HGM.out.2.1) _
      have RG : Hid (WB.rowIs gb 28 4 (rowN (doL (some ⟨g, 0, none⟩) k c (C + R * Q) (Y + L - U) 0))) := by show World.rowIs _ _ _ _ _; rw [hWZ]; exact rowN_put RZ.out 1 _ (by simp)
      have KG : Hid (IsBlk 2 g k f WB) := by show IsBlk _ _ _ _ _; rw [hWZ]; exact KZ.out.block (Below.heap_setCell _ _ _ _ HLO.out.2.2)
      have HWZ := Lib.hid hWZ
      have HBZ := Lib.hid hbZ
      have RW := Lib.hid hrZ
      clear hWZ hbZ hrZ
      refine take_call (i := 12) rfl (by kernel_rfl) (fun K2 hK => ?_)
      go_simp
      rw [← HWZ.out]
      refine hK.out _ _ ⟨HBZ.out, RW.out⟩ (fun hHeld2 => ?_)
      clear hK hHeld hHeld2 HWZ o0 o1 o2 o3 z0 z1 z2 z3 l0 RZ KZ
      refine wpAnyH_done (by kernel_rfl) ?_ _
      have HSN : Hid (DmS n k f w2 gb g c (i + 1) WB) := ⟨by rw [HCN.out, HEN.out]; exact RG.out, KG.out, HBZ.out, HLO.out⟩
      have HQ : Hid (Dy.Fits n (Dy.endA n f (i + 1)) ↔ Dy.Fits n (Y + L - U)) := by show _ ↔ _; rw [HEN.out]
      obtain ⟨E, hE⟩ : ∃ E, E = Y + L - U := ⟨_, rfl⟩
      rw [← hE] at HQ RG
      clear hE HBZ RW KG hbd HBD HCE2 HX
      obtain ⟨⟨p0, p1, p2, p3, p4, p5⟩, _⟩ := rowN6 (nrow_below HR1.out HSN.out.old)
      obtain ⟨⟨q0', q1', q2', q3'⟩, _⟩ := rowN4 RG.out
      have HO4 := Lib.hid (nrow_below HO1.out HSN.out.old)
      have HB4 : Hid (Below w.heap.size w WB) := HB1.out.trans (HSN.out.old.mono HB1.out.size)
      obtain ⟨⟨o0, o1, o2, o3⟩, z0, z1, z2, z3⟩ := rowN4 HO4.out
      have hol := HO4.out.lt
      by_cases f1 : E < n.low
      · have HC : Hid (Dy.codeC n k f = 6) := Dy.codeC_short hk4 HF.out (fun x => by have := HQ.out.1 (x i hlt); have := this.1; omega)
        go_wp2_with fail
        have zr := dput4 HO4.out (.slice none 0 0) (.int .i64 (0)) (.int .i64 (0)) (.int .i64 (6))
        have zb := dbel4 (g := w.heap.size + 1) HB4.out (by omega) (.slice none 0 0) (.int .i64 (0)) (.int .i64 (0)) (.int .i64 (6))
        generalize (((WB.setCell ⟨w.heap.size + 1, 0, none⟩ (.slice none 0 0)).setCell ⟨w.heap.size + 1, 1, none⟩ (.int .i64 (0))).setCell ⟨w.heap.size + 1, 2, none⟩ (.int .i64 (0))).setCell ⟨w.heap.size + 1, 3, none⟩ (.int .i64 (6)) = Z at zr zb ⊢
        obtain ⟨⟨c0, c1, c2, c3⟩, _⟩ := rowN4 zr
        exact bodyPost_ret (v := .agg #[.slice none 0 0, .int .i64 (0), .int .i64 (0), .int .i64 (6)]) (by simp only [results, Tryd.results5]; simp [go_sem, c0, c1, c2, c3]) rfl ⟨Or.inl ⟨by rw [HC.out]; simp, by rw [HC.out]⟩, zb⟩
      by_cases f2 : n.high < E
      · have HC : Hid (Dy.codeC n k f = 6) := Dy.codeC_short hk4 HF.out (fun x => by have := HQ.out.1 (x i hlt); have := this.2; omega)
        go_wp2_with fail
        have zr := dput4 HO4.out (.slice none 0 0) (.int .i64 (0)) (.int .i64 (0)) (.int .i64 (6))
        have zb := dbel4 (g := w.heap.size + 1) HB4.out (by omega) (.slice none 0 0) (.int .i64 (0)) (.int .i64 (0)) (.int .i64 (6))
        generalize (((WB.setCell ⟨w.heap.size + 1, 0, none⟩ (.slice none 0 0)).setCell ⟨w.heap.size + 1, 1, none⟩ (.int .i64 (0))).setCell ⟨w.heap.size + 1, 2, none⟩ (.int .i64 (0))).setCell ⟨w.heap.size + 1, 3, none⟩ (.int .i64 (6)) = Z at zr zb ⊢
        obtain ⟨⟨c0, c1, c2, c3⟩, _⟩ := rowN4 zr
        exact bodyPost_ret (v := .agg #[.slice none 0 0, .int .i64 (0), .int .i64 (0), .int .i64 (6)]) (by simp only [results, Tryd.results5]; simp [go_sem, c0, c1, c2, c3]) rfl ⟨Or.inl ⟨by rw [HC.out]; simp, by rw [HC.out]⟩, zb⟩
      have HQF : Hid (Dy.Fits n (Dy.endA n f (i + 1))) := HQ.out.2 ⟨by omega, by omega⟩
      go_wp2_with fail
      go_roundw
      case rel =>
        refine ⟨i + 1, by omega, by go_num, HSN, fun j hj => ?_⟩
        by_cases ej : j = i
        · subst ej; exact HQF.out
        · exact hP.out j (by omega)
      case measure => simp [intOf]; omega
    · obtain rfl : i = k := by omega
      have HC : Hid (Dy.codeC n i f = 0) := Dy.codeC_ok hk4 HF.out hP.out
      have HO4 := Lib.hid (nrow_below HO1.out hS.out.old)
      have HB4 : Hid (Below w.heap.size w wr) := HB1.out.trans (hS.out.old.mono HB1.out.size)
      obtain ⟨⟨p0, p1, p2, p3⟩, _⟩ := rowN4 hS.out.row
      obtain ⟨⟨o0, o1, o2, o3⟩, z0, z1, z2, z3⟩ := rowN4 HO4.out
      have hol := HO4.out.lt
      have HKK := Lib.hid hS.out.own
      have HGG : Hid (w.heap.size ≤ g ∧ g ≠ w.heap.size + 1) := by
        have h1 := hS.out.lo.2.1
        have h2 := HB1.out.size
        have h3 := HO1.out.lt
        exact ⟨by omega, by omega⟩
      clear hS
      go_wp2_with fail
      have zr := dput4 HO4.out (.slice (some ⟨g, 0, none⟩) i c) (.int .i64 (Dy.costA n f i)) (.int .i64 (Dy.endA n f i)) (.int .i64 (0))
      have zb := dbel4 (g := w.heap.size + 1) HB4.out (by omega) (.slice (some ⟨g, 0, none⟩) i c) (.int .i64 (Dy.costA n f i)) (.int .i64 (Dy.endA n f i)) (.int .i64 (0))
      have zk : IsBlk 2 g i f _ := HKK.out.block (dblk4 wr HGG.out.2 (.slice (some ⟨g, 0, none⟩) i c) (.int .i64 (Dy.costA n f i)) (.int .i64 (Dy.endA n f i)) (.int .i64 (0)))
      generalize (((wr.setCell ⟨w.heap.size + 1, 0, none⟩ (.slice (some ⟨g, 0, none⟩) i c)).setCell ⟨w.heap.size + 1, 1, none⟩ (.int .i64 (Dy.costA n f i))).setCell ⟨w.heap.size + 1, 2, none⟩ (.int .i64 (Dy.endA n f i))).setCell ⟨w.heap.size + 1, 3, none⟩ (.int .i64 (0)) = Z at zr zb zk ⊢
      obtain ⟨⟨c0, c1, c2, c3⟩, _⟩ := rowN4 zr
      exact bodyPost_ret (v := .agg #[.slice (some ⟨g, 0, none⟩) i c, .int .i64 (Dy.costA n f i), .int .i64 (Dy.endA n f i), .int .i64 (0)]) (by simp only [results, Tryd.results5]; simp [go_sem, c0, c1, c2, c3]) rfl ⟨Or.inr ⟨HC.out, hk1, by omega, g, c, rfl, HGG.out.1, zk⟩, zb⟩
end Go.Proofs.YtmfokilpfbcicaaDoor
