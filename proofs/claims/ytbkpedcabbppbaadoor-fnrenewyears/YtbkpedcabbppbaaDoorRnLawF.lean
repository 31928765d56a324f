/-
  The law FnRenewBest.
-/
import Derived.Test.YtbkpedcabbppbaaDoorRnLw
namespace Go.Proofs.YtbkpedcabbppbaaDoor
open Go.RowKit Go.Deep

theorem row_typ {W : World} {g m : Nat} {t : TypeId} {F : Nat → Value} (h : W.rowIs g t m F) : ∃ cur, W.heap[g]? = some (.cells cur t (0, 0)) := by obtain ⟨cur, q, _⟩ := h; exact ⟨cur, q⟩
/-- An append inside a region, under a guard that lets it. -/
theorem ap_at_g {P : Program} {ops : Array Oper} {o : Oper} {a : Act} {w : World} {K : Act → World → Prop} {Q : Exit → Act → World → Prop} {E : Prop}
    (hw : Region.wanted o (yielded ops a.tmps) = true) (_hd : True = True) (s x : Operand) (t : TypeId) (hop : o.op = Op.call { callee := Callee.builtin Builtin.append, args := #[s, x], argTypes := #[t, t] }) (B : Nat)
    (e : TypeId) (i : TypeInfo) (z : Value) (size bytes : Nat) (h1 : P.underlying t = some (.slice e)) (h2 : P.info? e = some i) (h3 : i.zero = some z) (h4 : i.size = size) (h5 : i.bytes = bytes) (h6 : z.cells.size = size) (h7 : 0 < size)
    (v : Value) (n : Nat) (olds : List Value) (hs : a.eval s = v) (hown : w.ownsRow B e size v n olds)
    (ad : Addr) (m c : Nat) (news : List Value) (hx : a.eval x = .slice (some ad) m c) (hn : news.length = m * size) (hc : ∀ j u, news[j]? = some u → w.cell? (ad.add j) = some u) (h1c : ∀ u ∈ news, u.oneCell' = true)
    (b1 : n + m ≤ maxLen) (b2 : (n + m) * bytes ≤ 140737488355328) (hB : B ≤ w.heap.size)
    (hK : ∀ v' w', w'.ownsRow B e size v' (n + m) (olds ++ news) → w.grownBy w' v.ownBlock → (v'.ownBlock = v.ownBlock ∨ v'.ownBlock = some w.heap.size) → K (a.put o.dst v') w') :
    if Region.wanted o (yielded ops a.tmps) = true then Oper.wp P o a w K Q else E := by
  rw [if_pos hw]
  obtain ⟨v', w', hrun, r1, r2, _, r3⟩ := run_append_own_at (P := P) w B t o.type e i z size bytes h1 h2 h3 h4 h5 h6 h7 v n olds hown ad m c news hn hc h1c b1 b2 hB
  unfold Oper.wp
  simp [execOp, hop, resolve, invoke, builtin, hs, hx, hrun, Result.andThen]
  exact hK v' w' r1 r2 r3
set_option maxRecDepth 100000 in
set_option maxHeartbeats 16000000 in
theorem renewBest_fn (w : World) (a : Option Addr) (len cap : Nat) (h : Bytes a len w) (hl9 : len ≤ 9223372036854775807) (hg : Et w) :
    Calls Tryd.prog 5 #[.slice a len cap] w fun e w' => e = .returned (.bool true) ∧ Below w.heap.size w w' := by
  by_cases hbig : (1048576 : Int) < (len : Int)
  · have hl8 : (len : Int) ≤ 9223372036854775807 := by omega
    clear h
    go_enter Tryd.func5, Tryd.ntmps5
    go_wp2_with fail
    go_ret
    exact ⟨rfl, Below.refl _ _⟩
  have H := Lib.hid h
  have HET := Lib.hid hg
  have HB : Hid (Below w.heap.size w w) := Below.refl _ _
  clear h hg
  obtain ⟨i1, hi1, hy0, hy1, hy2⟩ := info_parts rinfo_as2
  go_enter Tryd.func5, Tryd.ntmps5
  go_wp2_with fail
  refine (drawRO_any a len cap _ H.out (by omega)).mono ?_
  rintro e w1 ⟨⟨lg, n, lc, F, z, pa, m, pc, p, rfl, hn, hI, hm, hP, hPN⟩, hb⟩
  replace HB : Hid (Below w.heap.size w w1) := HB.out.trans (hb.mono HB.out.size)
  have LI := Lib.hid hI
  have PI := Lib.hid hP
  clear hb
  have HPN := Lib.hid hPN
  clear hI hP hPN H hbig
  obtain ⟨O, hO⟩ : ∃ O, O = Rn.bs n F z := ⟨_, rfl⟩
  have HO := Lib.hid hO
  have hO4 : O.m ≤ 400 := by rw [hO]; exact Rn.bs_le n F z
  have IMB : Hid (∀ ca cc V, IsAt ca (n * 2) F V → Et V → Calls Tryd.prog 10 #[.slice ca n cc, .int .i64 z] V fun e w' => RoEnd V.heap.size O e w' ∧ Below V.heap.size V w') := fun ca cc V q t => by rw [hO]; exact implBest_any ca n cc F z V q (by omega) t
  clear hO
  go_wp2_with fail
  refine (specBest_any _ n lc F z _ LI.out (by omega)).mono ?_
  rintro e w2 ⟨⟨a0, k0, rfl, _⟩, hb⟩
  replace HB : Hid (Below w.heap.size w w2) := HB.out.trans (hb.mono HB.out.size)
  replace LI := Lib.hid (LI.out.below hb)
  replace PI := Lib.hid (PI.out.below hb)
  clear hb
  rw [← HO.out]
  go_upto_region 5 with fail
  obtain ⟨V2, hV2⟩ : ∃ V, V = w2.alloc (.cells #[.slice a0 O.m k0, .int .i64 O.cs, .int .i64 O.wo, .int .i64 O.cd] 26) := ⟨_, rfl⟩
  have hb : Below w2.heap.size w2 V2 := by rw [hV2]; exact nbel_alloc _ _
  have R0 : Hid (RoR w2.heap.size O a0 k0 V2) := by show World.rowIs _ _ _ _ _; rw [hV2]; exact rowN_alloc _ _ _
  rw [← hV2]
  replace HB : Hid (Below w.heap.size w V2) := HB.out.trans (hb.mono HB.out.size)
  clear hV2
  replace LI := Lib.hid (LI.out.below hb)
  replace PI := Lib.hid (PI.out.below hb)
  clear hb
  obtain ⟨⟨p0, p1, p2, p3⟩, _⟩ := rowN4 R0.out
  by_cases hcd : O.cd = 0
  case neg =>
    have hcdb : (O.cd != 0) = true := by simp [hcd]
    clear hcd
    go_wp2_with fail
    go_ret
    exact ⟨rfl, HB.out⟩
  have hcdb : (O.cd != 0) = false := by simp [hcd]
  have HRT : Hid (Rn.Right n F ∧ Rn.BudOk z) := by
    by_cases q : 400 < n
    · rw [HO.out, Rn.bs_big q] at hcd; exact absurd hcd (by simp [Rn.bad])
    · by_cases q2 : Rn.Right n F ∧ Rn.BudOk z
      · exact q2
      · rw [HO.out, Rn.bs_form q q2] at hcd; exact absurd hcd (by simp [Rn.bad])
  have hn40 : n ≤ 40 := HRT.out.1.1
  obtain ⟨b, hzb⟩ : ∃ b : Nat, z = (b : Int) := ⟨z.toNat, by have := HRT.out.2.1; omega⟩
  subst hzb
  have hb3 : b ≤ 300 := by have := HRT.out.2.2; omega
  have HOF : Hid (O = Rn.of_ n F b O.m O.L) := by
    have q := Rn.of_bs HRT.out.1 HRT.out.2
    have e1 : O.m = (Rn.picks F n (b : Int).toNat).length := by rw [HO.out]; unfold Rn.bs; rw [if_neg (by omega), if_pos (dB_tt HRT.out)]
    have e2 : O.L = Rn.nf (Rn.picks F n (b : Int).toNat) := by rw [HO.out]; unfold Rn.bs; rw [if_neg (by omega), if_pos (dB_tt HRT.out)]
    show O = _
    rw [e1, e2, q, HO.out]
  have HCOST : Hid (O.cs ≤ (b : Int)) := by
    have e1 : O.cs = Rn.sm F 0 (Rn.nf (Rn.picks F n (b : Int).toNat)) (Rn.picks F n (b : Int).toNat).length := by rw [HO.out]; unfold Rn.bs; rw [if_neg (by omega), if_pos (dB_tt HRT.out)]
    show O.cs ≤ _
    rw [e1, Int.toNat_natCast]
    exact Rn.picks_cost HRT.out.1
  have HWO : Hid (O.wo = Rn.T F n 0 b) := by
    have e1 : O.wo = Rn.sm F 1 (Rn.nf (Rn.picks F n (b : Int).toNat)) (Rn.picks F n (b : Int).toNat).length := by rw [HO.out]; unfold Rn.bs; rw [if_neg (by omega), if_pos (dB_tt HRT.out)]
    show O.wo = _
    rw [e1, Int.toNat_natCast]
    exact Rn.picks_worth HRT.out.1
  have IMO : Hid (∀ ca cc pg pk V, IsAt ca (n * 2) F V → IsAt (some ⟨pg, 0, none⟩) O.m O.L V → Et V → Calls Tryd.prog 18 #[.slice ca n cc, .int .i64 (b : Int), .slice (some ⟨pg, 0, none⟩) O.m pk] V fun e w' => RoEnd V.heap.size O e w' ∧ Below V.heap.size V w') := fun ca cc pg pk V q q2 t => by
    have := implOf_any ca n cc F b (some ⟨pg, 0, none⟩) O.m pk O.L V q (by omega) q2 (by omega) (fun e => by cases e) t
    rwa [← HOF.out] at this
  have HCZ := Lib.hid hcd
  clear hcd
  go_upto_region 7 with fail
  clear p0 p1 p2 p3 hcdb
  go_wp2_with (at_builtin; refine wpList_append_own _ rfl _ _ 28 rfl V2.heap.size 53 i1 (.agg #[.int .i64 0, .int .i64 0]) 2 16 Tryd.underlying28 hi1 hy0 hy1 hy2 rfl (by decide) _ _ _ rfl (World.ownsRow_made V2 #[] 0 (Nat.le_refl _) (Nat.zero_le _) rfl) ⟨lg, 0, none⟩ n lc (Rn.asVs F (List.range n)) rfl ?q1 ?q2 asVs_one ?q4 ?q5 ?q6 ?_)
  case q1 => rw [asVs_len, List.length_range]
  case q2 => exact as_cells (LI.out.below (nbel_alloc _ _))
  case q4 => unfold maxLen; omega
  case q5 => omega
  case q6 => simp
  intro v' w3 hown hgrow hnil
  obtain ⟨⟨ca, cc, rfl, hc⟩, hb0⟩ := as_copy (B := V2.heap.size) (by simp) (by simpa using hown) hgrow (Nat.le_refl _)
  have hb : Below V2.heap.size V2 w3 := (nbel_alloc _ _).trans hb0
  have HC := Lib.hid hc
  replace HB : Hid (Below w.heap.size w w3) := HB.out.trans (hb.mono HB.out.size)
  clear hown hgrow hnil hc hb0
  replace LI := Lib.hid (LI.out.below hb)
  replace PI := Lib.hid (PI.out.below hb)
  replace R0 := Lib.hid (RoR.below R0.out hb)
  clear hb
  go_wp2_with fail
  refine (IMB.out ca cc _ HC.out (HET.out.below HB.out)).mono ?_
  rintro e w4 ⟨⟨a1, k1, rfl, hp⟩, hb⟩
  replace HB : Hid (Below w.heap.size w w4) := HB.out.trans (hb.mono HB.out.size)
  clear HC
  replace LI := Lib.hid (LI.out.below hb)
  replace PI := Lib.hid (PI.out.below hb)
  replace R0 := Lib.hid (RoR.below R0.out hb)
  have P1 := Lib.hid (show IsAt a1 O.m O.L w4 from by have q := hp.at_; rw [Nat.mul_one] at q; exact q)
  clear hb
  have HN1 : Hid (a1 = none → k1 = 0) := fun e => by
    rcases hp with q | ⟨g, e', _⟩
    · exact q.2.2
    · rw [e] at e'; cases e'
  clear hp
  go_upto_region 8 with fail
  obtain ⟨V4, hV4⟩ : ∃ V, V = w4.alloc (.cells #[.slice a1 O.m k1, .int .i64 O.cs, .int .i64 O.wo, .int .i64 O.cd] 26) := ⟨_, rfl⟩
  have hb : Below w4.heap.size w4 V4 := by rw [hV4]; exact nbel_alloc _ _
  have R1 : Hid (RoR w4.heap.size O a1 k1 V4) := by show World.rowIs _ _ _ _ _; rw [hV4]; exact rowN_alloc _ _ _
  rw [← hV4]
  replace HB : Hid (Below w.heap.size w V4) := HB.out.trans (hb.mono HB.out.size)
  clear hV4
  replace LI := Lib.hid (LI.out.below hb)
  replace PI := Lib.hid (PI.out.below hb)
  replace P1 := Lib.hid (P1.out.below hb)
  replace R0 := Lib.hid (RoR.below R0.out hb)
  clear hb
  obtain ⟨x7, hx7⟩ : ∃ x7, x7 = w4.heap.size := ⟨_, rfl⟩
  rw [← hx7] at R1 ⊢
  clear hx7
  go_cut [8] (fun q Wq => ∃ xb a2 k2, q = .pointer (some ⟨xb, 0, none⟩) ∧ Hid (RoR xb O a2 k2 Wq ∧ Below V4.heap.size V4 Wq))
  case first =>
    refine wp_region_held_drew (S := fun V => Below V4.heap.size V4 V) (by kernel_rfl) (Below.refl _ _).drew (fun hHeld => ?_)
    obtain ⟨Z, hZ⟩ : ∃ Z, Z = V4.drew := ⟨_, rfl⟩
    rw [← hZ] at hHeld ⊢
    clear hZ
    refine take_do (i := 1) (v := (.slice (some ⟨lg, 0, none⟩) n lc)) rfl (by kernel_rfl) (by kernel_rfl) (by kernel_rfl) (fun _ _ _ h => h) (by rfl) ?_ (by assumption) ?_
    · intro w hSw
      go_simp
    simp only [Act.put, List.setIfInBounds_toArray, List.set_cons_zero, List.set_cons_succ]
    refine take_do (i := 3) (v := (.int .i64 (b : Int))) rfl (by kernel_rfl) (by kernel_rfl) (by kernel_rfl) (fun _ _ _ h => h) (by rfl) ?_ (by assumption) ?_
    · intro w hSw
      go_simp
    simp only [Act.put, List.setIfInBounds_toArray, List.set_cons_zero, List.set_cons_succ]
    refine take_do (i := 4) (v := (.pointer (some ⟨x7, 0, none⟩))) rfl (by kernel_rfl) (by kernel_rfl) (by kernel_rfl) (fun _ _ _ h => h) (by rfl) ?_ (by assumption) ?_
    · intro w hSw
      go_simp
    simp only [Act.put, List.setIfInBounds_toArray, List.set_cons_zero, List.set_cons_succ]
    refine take_do (i := 5) (v := (.slice a1 O.m k1)) rfl (by kernel_rfl) (by kernel_rfl) (by kernel_rfl) (fun _ _ _ h => h) (by rfl) ?_ (by assumption) ?_
    · intro w hSw
      obtain ⟨⟨q0, q1, q2, q3⟩, _⟩ := rowN4 (RoR.below R1.out hSw)
      go_simp
    simp only [Act.put, List.setIfInBounds_toArray, List.set_cons_zero, List.set_cons_succ]
    refine wpAnyH_ready (rs := [0, 8]) (by kernel_rfl) (by simp) (AllReadyH.cons (at_drop (i := 0) rfl) (fun K2 hK => ?_) (AllReadyH.cons (at_drop (i := 8) rfl) (fun K2 hK => ?_) (AllReadyH.nil)))
    · obtain ⟨Z1, hZ1⟩ : ∃ Z1, Z1 = Z.alloc (.cells #[] 53) := ⟨_, rfl⟩
      have hb : Below Z.heap.size Z Z1 := by rw [hZ1]; exact nbel_alloc _ _
      obtain ⟨gb, hgb⟩ : ∃ gb, gb = Z.heap.size := ⟨_, rfl⟩
      have HBL : Hid (Z1.ownsRow V4.heap.size 53 2 (.slice (some ⟨gb, 0, none⟩) 0 0) 0 []) := by show World.ownsRow _ _ _ _ _ _ _; rw [hZ1, hgb]; exact World.ownsRow_made Z #[] 0 hHeld.size (Nat.zero_le _) rfl
      have HGB : Hid (V4.heap.size ≤ gb) := by show _ ≤ _; rw [hgb]; exact hHeld.size
      go_simp
      rw [← hZ1, ← hgb]
      clear hZ1
      refine hK.out _ _ (hHeld.trans (hb.mono hHeld.size)) (fun hHeld2 => ?_)
      clear hgb hb
      clear hK hHeld
      have hHeld := hHeld2
      clear hHeld2
      refine wpAnyH_ready (rs := [2, 8]) (by kernel_rfl) (by simp) (AllReadyH.cons (at_drop (i := 2) rfl) (fun K2 hK => ?_) (AllReadyH.cons (at_drop (i := 8) rfl) (fun K2 hK => ?_) (AllReadyH.nil)))
      · refine ap_at rfl (.tmp 31) (.tmp 32) 28 rfl V4.heap.size 53 i1 (.agg #[.int .i64 0, .int .i64 0]) 2 16 Tryd.underlying28 hi1 hy0 hy1 hy2 rfl (by decide) (.slice (some ⟨gb, 0, none⟩) 0 0) 0 [] rfl HBL.out ⟨lg, 0, none⟩ n lc (Rn.asVs F (List.range n)) rfl (by rw [asVs_len, List.length_range]) (as_cells (LI.out.below hHeld)) asVs_one (by unfold maxLen; omega) (by omega) hHeld.size ?_
        intro v' Z2 hown hgrow hwhere
        obtain ⟨⟨ca, cc, rfl, hc⟩, hb0⟩ := as_copy (B := V4.heap.size) hHeld.size (by simpa using hown) hgrow HGB.out
        have HC := Lib.hid hc
        refine hK.out _ _ (hHeld.trans hb0) (fun hHeld2 => ?_)
        clear hown hgrow hwhere hc hb0 HBL HGB
        clear hK hHeld
        have hHeld := hHeld2
        clear hHeld2
        simp only [Act.put, List.setIfInBounds_toArray, List.set_cons_zero, List.set_cons_succ]
        refine wpAnyH_ready (rs := [6, 8]) (by kernel_rfl) (by simp) (AllReadyH.cons (at_drop (i := 6) rfl) (fun K2 hK => ?_) (AllReadyH.cons (at_drop (i := 8) rfl) (fun K2 hK => ?_) (AllReadyH.nil)))
        · go_simp
          refine (ncopy_any a1 O.m k1 O.L _ (P1.out.below hHeld) (by omega) HN1.out).mono ?_
          rintro e Z3 ⟨⟨pg, pk, rfl, _, hc⟩, hb⟩
          have HCP := Lib.hid hc
          clear hc
          replace HC := Lib.hid (HC.out.below hb)
          go_wp2_with fail
          refine hK.out _ _ (hHeld.trans (hb.mono hHeld.size)) (fun hHeld2 => ?_)
          clear hb
          clear hK hHeld
          have hHeld := hHeld2
          clear hHeld2
          refine wpAnyH_ready (rs := [7, 8]) (by kernel_rfl) (by simp) (AllReadyH.cons (at_drop (i := 7) rfl) (fun K2 hK => ?_) (AllReadyH.cons (at_drop (i := 8) rfl) (fun K2 hK => ?_) (AllReadyH.nil)))
          · go_simp
            refine (IMO.out ca cc pg pk _ HC.out HCP.out (HET.out.below (HB.out.trans (hHeld.mono HB.out.size)))).mono ?_
            rintro e Z4 ⟨⟨a2, k2, rfl, _⟩, hb⟩
            replace HC := Lib.hid (HC.out.below hb)
            replace HCP := Lib.hid (HCP.out.below hb)
            go_wp2_with fail
            refine hK.out _ _ (hHeld.trans (hb.mono hHeld.size)) (fun hHeld2 => ?_)
            clear hb
            clear hK hHeld
            have hHeld := hHeld2
            clear hHeld2
            refine wpAnyH_ready (rs := [8]) (by kernel_rfl) (by simp) (AllReadyH.cons (at_drop (i := 8) rfl) (fun K2 hK => ?_) (AllReadyH.nil))
            obtain ⟨Z5, hZ5⟩ : ∃ Z5, Z5 = Z4.alloc (.cells #[.slice none 0 0, .int .i64 0, .int .i64 0, .int .i64 0] 26) := ⟨_, rfl⟩
            have hb : Below Z4.heap.size Z4 Z5 := by rw [hZ5]; exact nbel_alloc _ _
            have HV : Hid (Z5.rowIs Z4.heap.size 26 4 (rowN [.slice none 0 0, .int .i64 0, .int .i64 0, .int .i64 0])) := by show World.rowIs _ _ _ _ _; rw [hZ5]; exact rowN_alloc _ _ _
            obtain ⟨xb, hxb⟩ : ∃ xb, xb = Z4.heap.size := ⟨_, rfl⟩
            rw [← hxb] at HV
            have HXL : Hid (V4.heap.size ≤ xb) := by show _ ≤ _; rw [hxb]; exact hHeld.size
            replace HC := Lib.hid (HC.out.below hb)
            replace HCP := Lib.hid (HCP.out.below hb)
            go_simp
            rw [← hZ5, ← hxb]
            clear hZ5
            refine hK.out _ _ (hHeld.trans (hb.mono hHeld.size)) (fun hHeld2 => ?_)
            clear hxb hb
            clear hK hHeld
            have hHeld := hHeld2
            clear hHeld2
            obtain ⟨⟨o0, o1, o2, o3⟩, z0, z1, z2, z3⟩ := rowN4 HV.out
            have hol := HV.out.lt
            have zr := rput4 HV.out (.slice a2 O.m k2) (.int .i64 O.cs) (.int .i64 O.wo) (.int .i64 O.cd)
            have zb := rbel4 (g := xb) hHeld HXL.out (.slice a2 O.m k2) (.int .i64 O.cs) (.int .i64 O.wo) (.int .i64 O.cd)
            refine take_call (i := 9) rfl (by kernel_rfl) (fun K2 hK => ?_)
            go_simp
            clear o0 o1 o2 o3 z0 z1 z2 z3 hol
            generalize (((Z5.setCell ⟨xb, 0, none⟩ (.slice a2 O.m k2)).setCell ⟨xb, 1, none⟩ (.int .i64 O.cs)).setCell ⟨xb, 2, none⟩ (.int .i64 O.wo)).setCell ⟨xb, 3, none⟩ (.int .i64 O.cd) = Y at zr zb ⊢
            refine hK.out _ _ zb (fun hHeld2 => ?_)
            clear hK hHeld hHeld2
            refine wpAnyH_done (by kernel_rfl) ?_ _
            have HR : Hid (RoR xb O a2 k2 Y ∧ Below V4.heap.size V4 Y) := ⟨zr, zb⟩
            clear zr zb
            go_wp2_with fail
            go_meet
            case rel => exact ⟨xb, a2, k2, rfl, HR⟩
          · obtain ⟨Z4, hZ4⟩ : ∃ Z4, Z4 = Z3.alloc (.cells #[.slice none 0 0, .int .i64 0, .int .i64 0, .int .i64 0] 26) := ⟨_, rfl⟩
            have hb : Below Z3.heap.size Z3 Z4 := by rw [hZ4]; exact nbel_alloc _ _
            have HV : Hid (Z4.rowIs Z3.heap.size 26 4 (rowN [.slice none 0 0, .int .i64 0, .int .i64 0, .int .i64 0])) := by show World.rowIs _ _ _ _ _; rw [hZ4]; exact rowN_alloc _ _ _
            obtain ⟨xb, hxb⟩ : ∃ xb, xb = Z3.heap.size := ⟨_, rfl⟩
            rw [← hxb] at HV
            have HXL : Hid (V4.heap.size ≤ xb) := by show _ ≤ _; rw [hxb]; exact hHeld.size
            replace HC := Lib.hid (HC.out.below hb)
            replace HCP := Lib.hid (HCP.out.below hb)
            go_simp
            rw [← hZ4, ← hxb]
            clear hZ4
            refine hK.out _ _ (hHeld.trans (hb.mono hHeld.size)) (fun hHeld2 => ?_)
            clear hxb hb
            clear hK hHeld
            have hHeld := hHeld2
            clear hHeld2
            refine wpAnyH_ready (rs := [7]) (by kernel_rfl) (by simp) (AllReadyH.cons (at_drop (i := 7) rfl) (fun K2 hK => ?_) (AllReadyH.nil))
            go_simp
            refine (IMO.out ca cc pg pk _ HC.out HCP.out (HET.out.below (HB.out.trans (hHeld.mono HB.out.size)))).mono ?_
            rintro e Z5 ⟨⟨a2, k2, rfl, _⟩, hb⟩
            replace HC := Lib.hid (HC.out.below hb)
            replace HCP := Lib.hid (HCP.out.below hb)
            replace HV := Lib.hid (nrow_below HV.out hb)
            go_wp2_with fail
            refine hK.out _ _ (hHeld.trans (hb.mono hHeld.size)) (fun hHeld2 => ?_)
            clear hb
            clear hK hHeld
            have hHeld := hHeld2
            clear hHeld2
            obtain ⟨⟨o0, o1, o2, o3⟩, z0, z1, z2, z3⟩ := rowN4 HV.out
            have hol := HV.out.lt
            have zr := rput4 HV.out (.slice a2 O.m k2) (.int .i64 O.cs) (.int .i64 O.wo) (.int .i64 O.cd)
            have zb := rbel4 (g := xb) hHeld HXL.out (.slice a2 O.m k2) (.int .i64 O.cs) (.int .i64 O.wo) (.int .i64 O.cd)
            refine take_call (i := 9) rfl (by kernel_rfl) (fun K2 hK => ?_)
            go_simp
            clear o0 o1 o2 o3 z0 z1 z2 z3 hol
            generalize (((Z5.setCell ⟨xb, 0, none⟩ (.slice a2 O.m k2)).setCell ⟨xb, 1, none⟩ (.int .i64 O.cs)).setCell ⟨xb, 2, none⟩ (.int .i64 O.wo)).setCell ⟨xb, 3, none⟩ (.int .i64 O.cd) = Y at zr zb ⊢
            refine hK.out _ _ zb (fun hHeld2 => ?_)
            clear hK hHeld hHeld2
            refine wpAnyH_done (by kernel_rfl) ?_ _
            have HR : Hid (RoR xb O a2 k2 Y ∧ Below V4.heap.size V4 Y) := ⟨zr, zb⟩
            clear zr zb
            go_wp2_with fail
            go_meet
            case rel => exact ⟨xb, a2, k2, rfl, HR⟩
        · obtain ⟨Z3, hZ3⟩ : ∃ Z3, Z3 = Z2.alloc (.cells #[.slice none 0 0, .int .i64 0, .int .i64 0, .int .i64 0] 26) := ⟨_, rfl⟩
          have hb : Below Z2.heap.size Z2 Z3 := by rw [hZ3]; exact nbel_alloc _ _
          have HV : Hid (Z3.rowIs Z2.heap.size 26 4 (rowN [.slice none 0 0, .int .i64 0, .int .i64 0, .int .i64 0])) := by show World.rowIs _ _ _ _ _; rw [hZ3]; exact rowN_alloc _ _ _
          obtain ⟨xb, hxb⟩ : ∃ xb, xb = Z2.heap.size := ⟨_, rfl⟩
          rw [← hxb] at HV
          have HXL : Hid (V4.heap.size ≤ xb) := by show _ ≤ _; rw [hxb]; exact hHeld.size
          replace HC := Lib.hid (HC.out.below hb)
          go_simp
          rw [← hZ3, ← hxb]
          clear hZ3
          refine hK.out _ _ (hHeld.trans (hb.mono hHeld.size)) (fun hHeld2 => ?_)
          clear hxb hb
          clear hK hHeld
          have hHeld := hHeld2
          clear hHeld2
          refine wpAnyH_ready (rs := [6]) (by kernel_rfl) (by simp) (AllReadyH.cons (at_drop (i := 6) rfl) (fun K2 hK => ?_) (AllReadyH.nil))
          go_simp
          refine (ncopy_any a1 O.m k1 O.L _ (P1.out.below hHeld) (by omega) HN1.out).mono ?_
          rintro e Z4 ⟨⟨pg, pk, rfl, _, hc⟩, hb⟩
          have HCP := Lib.hid hc
          clear hc
          replace HC := Lib.hid (HC.out.below hb)
          replace HV := Lib.hid (nrow_below HV.out hb)
          go_wp2_with fail
          refine hK.out _ _ (hHeld.trans (hb.mono hHeld.size)) (fun hHeld2 => ?_)
          clear hb
          clear hK hHeld
          have hHeld := hHeld2
          clear hHeld2
          refine wpAnyH_ready (rs := [7]) (by kernel_rfl) (by simp) (AllReadyH.cons (at_drop (i := 7) rfl) (fun K2 hK => ?_) (AllReadyH.nil))
          go_simp
          refine (IMO.out ca cc pg pk _ HC.out HCP.out (HET.out.below (HB.out.trans (hHeld.mono HB.out.size)))).mono ?_
          rintro e Z5 ⟨⟨a2, k2, rfl, _⟩, hb⟩
          replace HC := Lib.hid (HC.out.below hb)
          replace HCP := Lib.hid (HCP.out.below hb)
          replace HV := Lib.hid (nrow_below HV.out hb)
          go_wp2_with fail
          refine hK.out _ _ (hHeld.trans (hb.mono hHeld.size)) (fun hHeld2 => ?_)
          clear hb
          clear hK hHeld
          have hHeld := hHeld2
          clear hHeld2
          obtain ⟨⟨o0, o1, o2, o3⟩, z0, z1, z2, z3⟩ := rowN4 HV.out
          have hol := HV.out.lt
          have zr := rput4 HV.out (.slice a2 O.m k2) (.int .i64 O.cs) (.int .i64 O.wo) (.int .i64 O.cd)
          have zb := rbel4 (g := xb) hHeld HXL.out (.slice a2 O.m k2) (.int .i64 O.cs) (.int .i64 O.wo) (.int .i64 O.cd)
          refine take_call (i := 9) rfl (by kernel_rfl) (fun K2 hK => ?_)
          go_simp
          clear o0 o1 o2 o3 z0 z1 z2 z3 hol
          generalize (((Z5.setCell ⟨xb, 0, none⟩ (.slice a2 O.m k2)).setCell ⟨xb, 1, none⟩ (.int .i64 O.cs)).setCell ⟨xb, 2, none⟩ (.int .i64 O.wo)).setCell ⟨xb, 3, none⟩ (.int .i64 O.cd) = Y at zr zb ⊢
          refine hK.out _ _ zb (fun hHeld2 => ?_)
          clear hK hHeld hHeld2
          refine wpAnyH_done (by kernel_rfl) ?_ _
          have HR : Hid (RoR xb O a2 k2 Y ∧ Below V4.heap.size V4 Y) := ⟨zr, zb⟩
          clear zr zb
          go_wp2_with fail
          go_meet
          case rel => exact ⟨xb, a2, k2, rfl, HR⟩
      · obtain ⟨Z2, hZ2⟩ : ∃ Z2, Z2 = Z1.alloc (.cells #[.slice none 0 0, .int .i64 0, .int .i64 0, .int .i64 0] 26) := ⟨_, rfl⟩
        have hb : Below Z1.heap.size Z1 Z2 := by rw [hZ2]; exact nbel_alloc _ _
        have HV : Hid (Z2.rowIs Z1.heap.size 26 4 (rowN [.slice none 0 0, .int .i64 0, .int .i64 0, .int .i64 0])) := by show World.rowIs _ _ _ _ _; rw [hZ2]; exact rowN_alloc _ _ _
        obtain ⟨xb, hxb⟩ : ∃ xb, xb = Z1.heap.size := ⟨_, rfl⟩
        rw [← hxb] at HV
        have HXL : Hid (V4.heap.size ≤ xb) := by show _ ≤ _; rw [hxb]; exact hHeld.size
        replace HBL := Lib.hid (rown_below HBL.out hb)
        go_simp
        rw [← hZ2, ← hxb]
        clear hZ2
        refine hK.out _ _ (hHeld.trans (hb.mono hHeld.size)) (fun hHeld2 => ?_)
        clear hxb hb
        clear hK hHeld
        have hHeld := hHeld2
        clear hHeld2
        refine wpAnyH_ready (rs := [2]) (by kernel_rfl) (by simp) (AllReadyH.cons (at_drop (i := 2) rfl) (fun K2 hK => ?_) (AllReadyH.nil))
        refine ap_at rfl (.tmp 31) (.tmp 32) 28 rfl V4.heap.size 53 i1 (.agg #[.int .i64 0, .int .i64 0]) 2 16 Tryd.underlying28 hi1 hy0 hy1 hy2 rfl (by decide) (.slice (some ⟨gb, 0, none⟩) 0 0) 0 [] rfl HBL.out ⟨lg, 0, none⟩ n lc (Rn.asVs F (List.range n)) rfl (by rw [asVs_len, List.length_range]) (as_cells (LI.out.below hHeld)) asVs_one (by unfold maxLen; omega) (by omega) hHeld.size ?_
        intro v' Z3 hown hgrow hwhere
        obtain ⟨⟨ca, cc, rfl, hc⟩, hb0⟩ := as_copy (B := V4.heap.size) hHeld.size (by simpa using hown) hgrow HGB.out
        have HC := Lib.hid hc
        replace HV : Hid (World.rowIs Z3 xb 26 4 (rowN [.slice none 0 0, .int .i64 0, .int .i64 0, .int .i64 0])) := HV.out.of_block (hgrow.block _ HV.out.lt (fun e => typ_ne (row_typ HV.out) (rown_typ HBL.out e.symm) (by decide) rfl))
        refine hK.out _ _ (hHeld.trans hb0) (fun hHeld2 => ?_)
        clear hown hgrow hwhere hc hb0 HBL HGB
        clear hK hHeld
        have hHeld := hHeld2
        clear hHeld2
        simp only [Act.put, List.setIfInBounds_toArray, List.set_cons_zero, List.set_cons_succ]
        refine wpAnyH_ready (rs := [6]) (by kernel_rfl) (by simp) (AllReadyH.cons (at_drop (i := 6) rfl) (fun K2 hK => ?_) (AllReadyH.nil))
        go_simp
        refine (ncopy_any a1 O.m k1 O.L _ (P1.out.below hHeld) (by omega) HN1.out).mono ?_
        rintro e Z4 ⟨⟨pg, pk, rfl, _, hc⟩, hb⟩
        have HCP := Lib.hid hc
        clear hc
        replace HC := Lib.hid (HC.out.below hb)
        replace HV := Lib.hid (nrow_below HV.out hb)
        go_wp2_with fail
        refine hK.out _ _ (hHeld.trans (hb.mono hHeld.size)) (fun hHeld2 => ?_)
        clear hb
        clear hK hHeld
        have hHeld := hHeld2
        clear hHeld2
        refine wpAnyH_ready (rs := [7]) (by kernel_rfl) (by simp) (AllReadyH.cons (at_drop (i := 7) rfl) (fun K2 hK => ?_) (AllReadyH.nil))
        go_simp
        refine (IMO.out ca cc pg pk _ HC.out HCP.out (HET.out.below (HB.out.trans (hHeld.mono HB.out.size)))).mono ?_
        rintro e Z5 ⟨⟨a2, k2, rfl, _⟩, hb⟩
        replace HC := Lib.hid (HC.out.below hb)
        replace HCP := Lib.hid (HCP.out.below hb)
        replace HV := Lib.hid (nrow_below HV.out hb)
        go_wp2_with fail
        refine hK.out _ _ (hHeld.trans (hb.mono hHeld.size)) (fun hHeld2 => ?_)
        clear hb
        clear hK hHeld
        have hHeld := hHeld2
        clear hHeld2
        obtain ⟨⟨o0, o1, o2, o3⟩, z0, z1, z2, z3⟩ := rowN4 HV.out
        have hol := HV.out.lt
        have zr := rput4 HV.out (.slice a2 O.m k2) (.int .i64 O.cs) (.int .i64 O.wo) (.int .i64 O.cd)
        have zb := rbel4 (g := xb) hHeld HXL.out (.slice a2 O.m k2) (.int .i64 O.cs) (.int .i64 O.wo) (.int .i64 O.cd)
        refine take_call (i := 9) rfl (by kernel_rfl) (fun K2 hK => ?_)
        go_simp
        clear o0 o1 o2 o3 z0 z1 z2 z3 hol
        generalize (((Z5.setCell ⟨xb, 0, none⟩ (.slice a2 O.m k2)).setCell ⟨xb, 1, none⟩ (.int .i64 O.cs)).setCell ⟨xb, 2, none⟩ (.int .i64 O.wo)).setCell ⟨xb, 3, none⟩ (.int .i64 O.cd) = Y at zr zb ⊢
        refine hK.out _ _ zb (fun hHeld2 => ?_)
        clear hK hHeld hHeld2
        refine wpAnyH_done (by kernel_rfl) ?_ _
        have HR : Hid (RoR xb O a2 k2 Y ∧ Below V4.heap.size V4 Y) := ⟨zr, zb⟩
        clear zr zb
        go_wp2_with fail
        go_meet
        case rel => exact ⟨xb, a2, k2, rfl, HR⟩
    · obtain ⟨Z1, hZ1⟩ : ∃ Z1, Z1 = Z.alloc (.cells #[.slice none 0 0, .int .i64 0, .int .i64 0, .int .i64 0] 26) := ⟨_, rfl⟩
      have hb : Below Z.heap.size Z Z1 := by rw [hZ1]; exact nbel_alloc _ _
      have HV : Hid (Z1.rowIs Z.heap.size 26 4 (rowN [.slice none 0 0, .int .i64 0, .int .i64 0, .int .i64 0])) := by show World.rowIs _ _ _ _ _; rw [hZ1]; exact rowN_alloc _ _ _
      obtain ⟨xb, hxb⟩ : ∃ xb, xb = Z.heap.size := ⟨_, rfl⟩
      rw [← hxb] at HV
      have HXL : Hid (V4.heap.size ≤ xb) := by show _ ≤ _; rw [hxb]; exact hHeld.size
      go_simp
      rw [← hZ1, ← hxb]
      clear hZ1
      refine hK.out _ _ (hHeld.trans (hb.mono hHeld.size)) (fun hHeld2 => ?_)
      clear hxb hb
      clear hK hHeld
      have hHeld := hHeld2
      clear hHeld2
      refine wpAnyH_ready (rs := [0]) (by kernel_rfl) (by simp) (AllReadyH.cons (at_drop (i := 0) rfl) (fun K2 hK => ?_) (AllReadyH.nil))
      obtain ⟨Z2, hZ2⟩ : ∃ Z2, Z2 = Z1.alloc (.cells #[] 53) := ⟨_, rfl⟩
      have hb : Below Z1.heap.size Z1 Z2 := by rw [hZ2]; exact nbel_alloc _ _
      obtain ⟨gb, hgb⟩ : ∃ gb, gb = Z1.heap.size := ⟨_, rfl⟩
      have HBL : Hid (Z2.ownsRow V4.heap.size 53 2 (.slice (some ⟨gb, 0, none⟩) 0 0) 0 []) := by show World.ownsRow _ _ _ _ _ _ _; rw [hZ2, hgb]; exact World.ownsRow_made Z1 #[] 0 hHeld.size (Nat.zero_le _) rfl
      have HGB : Hid (V4.heap.size ≤ gb) := by show _ ≤ _; rw [hgb]; exact hHeld.size
      replace HV := Lib.hid (nrow_below HV.out hb)
      go_simp
      rw [← hZ2, ← hgb]
      clear hZ2
      refine hK.out _ _ (hHeld.trans (hb.mono hHeld.size)) (fun hHeld2 => ?_)
      clear hgb hb
      clear hK hHeld
      have hHeld := hHeld2
      clear hHeld2
      refine wpAnyH_ready (rs := [2]) (by kernel_rfl) (by simp) (AllReadyH.cons (at_drop (i := 2) rfl) (fun K2 hK => ?_) (AllReadyH.nil))
      refine ap_at rfl (.tmp 31) (.tmp 32) 28 rfl V4.heap.size 53 i1 (.agg #[.int .i64 0, .int .i64 0]) 2 16 Tryd.underlying28 hi1 hy0 hy1 hy2 rfl (by decide) (.slice (some ⟨gb, 0, none⟩) 0 0) 0 [] rfl HBL.out ⟨lg, 0, none⟩ n lc (Rn.asVs F (List.range n)) rfl (by rw [asVs_len, List.length_range]) (as_cells (LI.out.below hHeld)) asVs_one (by unfold maxLen; omega) (by omega) hHeld.size ?_
      intro v' Z3 hown hgrow hwhere
      obtain ⟨⟨ca, cc, rfl, hc⟩, hb0⟩ := as_copy (B := V4.heap.size) hHeld.size (by simpa using hown) hgrow HGB.out
      have HC := Lib.hid hc
      replace HV : Hid (World.rowIs Z3 xb 26 4 (rowN [.slice none 0 0, .int .i64 0, .int .i64 0, .int .i64 0])) := HV.out.of_block (hgrow.block _ HV.out.lt (fun e => typ_ne (row_typ HV.out) (rown_typ HBL.out e.symm) (by decide) rfl))
      refine hK.out _ _ (hHeld.trans hb0) (fun hHeld2 => ?_)
      clear hown hgrow hwhere hc hb0 HBL HGB
      clear hK hHeld
      have hHeld := hHeld2
      clear hHeld2
      simp only [Act.put, List.setIfInBounds_toArray, List.set_cons_zero, List.set_cons_succ]
      refine wpAnyH_ready (rs := [6]) (by kernel_rfl) (by simp) (AllReadyH.cons (at_drop (i := 6) rfl) (fun K2 hK => ?_) (AllReadyH.nil))
      go_simp
      refine (ncopy_any a1 O.m k1 O.L _ (P1.out.below hHeld) (by omega) HN1.out).mono ?_
      rintro e Z4 ⟨⟨pg, pk, rfl, _, hc⟩, hb⟩
      have HCP := Lib.hid hc
      clear hc
      replace HC := Lib.hid (HC.out.below hb)
      replace HV := Lib.hid (nrow_below HV.out hb)
      go_wp2_with fail
      refine hK.out _ _ (hHeld.trans (hb.mono hHeld.size)) (fun hHeld2 => ?_)
      clear hb
      clear hK hHeld
      have hHeld := hHeld2
      clear hHeld2
      refine wpAnyH_ready (rs := [7]) (by kernel_rfl) (by simp) (AllReadyH.cons (at_drop (i := 7) rfl) (fun K2 hK => ?_) (AllReadyH.nil))
      go_simp
      refine (IMO.out ca cc pg pk _ HC.out HCP.out (HET.out.below (HB.out.trans (hHeld.mono HB.out.size)))).mono ?_
      rintro e Z5 ⟨⟨a2, k2, rfl, _⟩, hb⟩
      replace HC := Lib.hid (HC.out.below hb)
      replace HCP := Lib.hid (HCP.out.below hb)
      replace HV := Lib.hid (nrow_below HV.out hb)
      go_wp2_with fail
      refine hK.out _ _ (hHeld.trans (hb.mono hHeld.size)) (fun hHeld2 => ?_)
      clear hb
      clear hK hHeld
      have hHeld := hHeld2
      clear hHeld2
      obtain ⟨⟨o0, o1, o2, o3⟩, z0, z1, z2, z3⟩ := rowN4 HV.out
      have hol := HV.out.lt
      have zr := rput4 HV.out (.slice a2 O.m k2) (.int .i64 O.cs) (.int .i64 O.wo) (.int .i64 O.cd)
      have zb := rbel4 (g := xb) hHeld HXL.out (.slice a2 O.m k2) (.int .i64 O.cs) (.int .i64 O.wo) (.int .i64 O.cd)
      refine take_call (i := 9) rfl (by kernel_rfl) (fun K2 hK => ?_)
      go_simp
      clear o0 o1 o2 o3 z0 z1 z2 z3 hol
      generalize (((Z5.setCell ⟨xb, 0, none⟩ (.slice a2 O.m k2)).setCell ⟨xb, 1, none⟩ (.int .i64 O.cs)).setCell ⟨xb, 2, none⟩ (.int .i64 O.wo)).setCell ⟨xb, 3, none⟩ (.int .i64 O.cd) = Y at zr zb ⊢
      refine hK.out _ _ zb (fun hHeld2 => ?_)
      clear hK hHeld hHeld2
      refine wpAnyH_done (by kernel_rfl) ?_ _
      have HR : Hid (RoR xb O a2 k2 Y ∧ Below V4.heap.size V4 Y) := ⟨zr, zb⟩
      clear zr zb
      go_wp2_with fail
      go_meet
      case rel => exact ⟨xb, a2, k2, rfl, HR⟩
  case rest =>
    obtain ⟨W5, hW5⟩ : ∃ W5, W5 = wc := ⟨_, rfl⟩
    subst hW5
    obtain ⟨xb, a2, k2, rfl, hR⟩ := hcut
    have hb := hR.out.2
    have R2 : Hid (RoR xb O a2 k2 W5) := hR.out.1
    replace HB : Hid (Below w.heap.size w W5) := HB.out.trans (hb.mono HB.out.size)
    replace LI := Lib.hid (LI.out.below hb)
    replace PI := Lib.hid (PI.out.below hb)
    replace P1 := Lib.hid (P1.out.below hb)
    replace R0 := Lib.hid (RoR.below R0.out hb)
    replace R1 := Lib.hid (RoR.below R1.out hb)
    clear hb hR
    obtain ⟨⟨p0, p1, p2, p3⟩, _⟩ := rowN4 R1.out
    obtain ⟨⟨q0, q1, q2, q3⟩, _⟩ := rowN4 R2.out
    have hcdb : (O.cd != 0) = false := by simp [HCZ.out]
    have hcsb : (O.cs != O.cs) = false := by simp
    have hwob : (O.wo != O.wo) = false := by simp
    have hczb : ¬ (b : Int) < O.cs := by have := HCOST.out; omega
    go_upto_region 11 with fail
    clear p0 p1 p2 p3 q0 q1 q2 q3 hcdb hcsb hczb R2
    go_wp2_with (at_builtin; refine wpList_append_own _ rfl _ _ 28 rfl W5.heap.size 53 i1 (.agg #[.int .i64 0, .int .i64 0]) 2 16 Tryd.underlying28 hi1 hy0 hy1 hy2 rfl (by decide) _ _ _ rfl (World.ownsRow_made W5 #[] 0 (Nat.le_refl _) (Nat.zero_le _) rfl) ⟨lg, 0, none⟩ n lc (Rn.asVs F (List.range n)) rfl ?q1 ?q2 asVs_one ?q4 ?q5 ?q6 ?_)
    case q1 => rw [asVs_len, List.length_range]
    case q2 => exact as_cells (LI.out.below (nbel_alloc _ _))
    case q4 => unfold maxLen; omega
    case q5 => omega
    case q6 => simp
    intro v' w6 hown hgrow hnil
    obtain ⟨⟨ca, cc, rfl, hc⟩, hb0⟩ := as_copy (B := W5.heap.size) (by simp) (by simpa using hown) hgrow (Nat.le_refl _)
    have hb : Below W5.heap.size W5 w6 := (nbel_alloc _ _).trans hb0
    have HC := Lib.hid hc
    replace HB : Hid (Below w.heap.size w w6) := HB.out.trans (hb.mono HB.out.size)
    clear hown hgrow hnil hc hb0
    replace LI := Lib.hid (LI.out.below hb)
    replace PI := Lib.hid (PI.out.below hb)
    replace P1 := Lib.hid (P1.out.below hb)
    replace R0 := Lib.hid (RoR.below R0.out hb)
    replace R1 := Lib.hid (RoR.below R1.out hb)
    clear hb
    obtain ⟨N, hN⟩ : ∃ N, N = b + 1 := ⟨_, rfl⟩
    obtain ⟨M, hM⟩ : ∃ M, M = n + 1 := ⟨_, rfl⟩
    have HIT : Hid (∀ ca cc V, IsAt ca (n * 2) F V → Calls Tryd.prog 23 #[.slice ca n cc, .int .i64 (b : Int)] V fun e w' => TbEnd V.heap.size M N (Rn.T F n) e w' ∧ Below V.heap.size V w') := fun ca cc V q => by
      have := implTable_any ca n cc F b V q (by omega)
      rw [Rn.tn_yes HRT.out, Int.toNat_natCast, ← hM, ← hN] at this
      exact this
    have SPT : Hid (∀ V, IsAt (some ⟨lg, 0, none⟩) (n * 2) F V → Calls Tryd.prog 25 #[.slice (some ⟨lg, 0, none⟩) n lc, .int .i64 (b : Int)] V fun e w' => (∃ a k, e = .returned (.slice a M k) ∧ LsAt a M (fun _ => N) (Rn.T F n) w') ∧ Below V.heap.size V w') := fun V q => by
      have := specTable_any (some ⟨lg, 0, none⟩) n lc F b V q (by omega)
      rw [Rn.tn_yes HRT.out, Int.toNat_natCast, ← hM, ← hN] at this
      refine this.mono ?_
      rintro e w' ⟨⟨a, k, e1, hS⟩, hb⟩
      exact ⟨⟨a, k, e1, hS.at_⟩, hb⟩
    have IMT : Hid (∀ ca cc sa sk V, IsAt ca (n * 2) F V → LsAt sa M (fun _ => N) (Rn.T F n) V → Calls Tryd.prog 24 #[.slice ca n cc, .int .i64 (b : Int), .slice sa M sk] V fun e w' => e = .returned (.bool true) ∧ Below V.heap.size V w') := fun ca cc sa sk V q q2 => by
      have := implTR_any ca n cc F b sa M sk (fun _ => N) (Rn.T F n) V q (by omega) q2 (by omega) (fun i _ => by omega)
      rw [dB_tt (show Rn.TbOk n F b M (fun _ => N) (Rn.T F n) from ⟨HRT.out, by rw [Rn.tn_yes HRT.out, hM], fun i _ => ⟨by rw [hN, Int.toNat_natCast], fun _ _ => rfl⟩⟩)] at this
      exact this
    have eM : IntKind.i64.wrap ((n : Int) + 1) = (M : Int) := by rw [rwrap (by omega) (by omega), hM]; simp
    have eN : IntKind.i64.wrap ((b : Int) + 1) = (N : Int) := by rw [rwrap (by omega) (by omega), hN]; simp
    have hMM : ((M : Int) != (M : Int)) = false := by simp
    have hNN : ((N : Int) != (N : Int)) = false := by simp
    have hMp : (0 : Int) < (M : Int) := by omega
    have hbN : (b : Int) < (N : Int) := by omega
    have hb00 : (0 : Int) ≤ (b : Int) := by omega
    have HM := Lib.hid hM
    have HNN := Lib.hid hN
    clear hM hN
    go_wp2_with fail
    refine (HIT.out ca cc _ HC.out).mono ?_
    rintro e w7 ⟨⟨ta, tk, rfl, hS⟩, hb⟩
    replace HB : Hid (Below w.heap.size w w7) := HB.out.trans (hb.mono HB.out.size)
    clear HC
    replace LI := Lib.hid (LI.out.below hb)
    replace PI := Lib.hid (PI.out.below hb)
    replace P1 := Lib.hid (P1.out.below hb)
    replace R0 := Lib.hid (RoR.below R0.out hb)
    replace R1 := Lib.hid (RoR.below R1.out hb)
    clear hb
    obtain ⟨tg, e1, ra, rc, tc0, hrow⟩ := hS.at_.one (i := 0) (by have := HM.out; omega)
    subst e1
    obtain ⟨rg, e2, tc1⟩ := hrow.at1 (i := b) (by have := HNN.out; omega)
    subst e2
    rw [← HWO.out] at tc1
    try simp only at tc0
    have TC0 := Lib.hid tc0
    have TC1 := Lib.hid tc1
    clear hS tc0 tc1 hrow
    go_upto_region 12 with fail
    go_cut [108] (fun q Wq => q = .bool false ∧ Hid (Below w7.heap.size w7 Wq))
    case first =>
      refine wp_region_held_drew (S := fun V => Below w7.heap.size w7 V) (by kernel_rfl) (Below.refl _ _).drew (fun hHeld => ?_)
      obtain ⟨Z, hZ⟩ : ∃ Z, Z = w7.drew := ⟨_, rfl⟩
      rw [← hZ] at hHeld ⊢
      clear hZ
      refine take_do (i := 0) (v := (.slice (some ⟨tg, 0, none⟩) M tk)) rfl (by kernel_rfl) (by kernel_rfl) (by kernel_rfl) (fun _ _ _ h => h) (by rfl) ?_ (by assumption) ?_
      · intro w hSw
        have q0 := (hSw.cell (World.block_lt_of_cell? _ _ TC0.out)).trans TC0.out
        have q1 := (hSw.cell (World.block_lt_of_cell? _ _ TC1.out)).trans TC1.out
        obtain ⟨⟨p0, p1, p2, p3⟩, _⟩ := rowN4 (RoR.below R1.out hSw)
        go_simp
      simp only [Act.put, List.setIfInBounds_toArray, List.set_cons_zero, List.set_cons_succ]
      refine take_do (i := 1) (v := (.int .i64 M)) rfl (by kernel_rfl) (by kernel_rfl) (by kernel_rfl) (fun _ _ _ h => h) (by rfl) ?_ (by assumption) ?_
      · intro w hSw
        have q0 := (hSw.cell (World.block_lt_of_cell? _ _ TC0.out)).trans TC0.out
        have q1 := (hSw.cell (World.block_lt_of_cell? _ _ TC1.out)).trans TC1.out
        obtain ⟨⟨p0, p1, p2, p3⟩, _⟩ := rowN4 (RoR.below R1.out hSw)
        go_simp
      simp only [Act.put, List.setIfInBounds_toArray, List.set_cons_zero, List.set_cons_succ]
      refine take_do (i := 2) (v := (.slice (some ⟨lg, 0, none⟩) n lc)) rfl (by kernel_rfl) (by kernel_rfl) (by kernel_rfl) (fun _ _ _ h => h) (by rfl) ?_ (by assumption) ?_
      · intro w hSw
        have q0 := (hSw.cell (World.block_lt_of_cell? _ _ TC0.out)).trans TC0.out
        have q1 := (hSw.cell (World.block_lt_of_cell? _ _ TC1.out)).trans TC1.out
        obtain ⟨⟨p0, p1, p2, p3⟩, _⟩ := rowN4 (RoR.below R1.out hSw)
        go_simp
      simp only [Act.put, List.setIfInBounds_toArray, List.set_cons_zero, List.set_cons_succ]
      refine take_do (i := 3) (v := (.int .i64 n)) rfl (by kernel_rfl) (by kernel_rfl) (by kernel_rfl) (fun _ _ _ h => h) (by rfl) ?_ (by assumption) ?_
      · intro w hSw
        have q0 := (hSw.cell (World.block_lt_of_cell? _ _ TC0.out)).trans TC0.out
        have q1 := (hSw.cell (World.block_lt_of_cell? _ _ TC1.out)).trans TC1.out
        obtain ⟨⟨p0, p1, p2, p3⟩, _⟩ := rowN4 (RoR.below R1.out hSw)
        go_simp
      simp only [Act.put, List.setIfInBounds_toArray, List.set_cons_zero, List.set_cons_succ]
      refine take_do (i := 4) (v := (.int .i64 M)) rfl (by kernel_rfl) (by kernel_rfl) (by kernel_rfl) (fun _ _ _ h => h) (by rfl) ?_ (by assumption) ?_
      · intro w hSw
        have q0 := (hSw.cell (World.block_lt_of_cell? _ _ TC0.out)).trans TC0.out
        have q1 := (hSw.cell (World.block_lt_of_cell? _ _ TC1.out)).trans TC1.out
        obtain ⟨⟨p0, p1, p2, p3⟩, _⟩ := rowN4 (RoR.below R1.out hSw)
        go_simp
      simp only [Act.put, List.setIfInBounds_toArray, List.set_cons_zero, List.set_cons_succ]
      refine take_do (i := 5) (v := (.bool false)) rfl (by kernel_rfl) (by kernel_rfl) (by kernel_rfl) (fun _ _ _ h => h) (by rfl) ?_ (by assumption) ?_
      · intro w hSw
        have q0 := (hSw.cell (World.block_lt_of_cell? _ _ TC0.out)).trans TC0.out
        have q1 := (hSw.cell (World.block_lt_of_cell? _ _ TC1.out)).trans TC1.out
        obtain ⟨⟨p0, p1, p2, p3⟩, _⟩ := rowN4 (RoR.below R1.out hSw)
        go_simp
      simp only [Act.put, List.setIfInBounds_toArray, List.set_cons_zero, List.set_cons_succ]
      refine take_do (i := 6) (v := (.bool false)) rfl (by kernel_rfl) (by kernel_rfl) (by kernel_rfl) (fun _ _ _ h => h) (by rfl) ?_ (by assumption) ?_
      · intro w hSw
        have q0 := (hSw.cell (World.block_lt_of_cell? _ _ TC0.out)).trans TC0.out
        have q1 := (hSw.cell (World.block_lt_of_cell? _ _ TC1.out)).trans TC1.out
        obtain ⟨⟨p0, p1, p2, p3⟩, _⟩ := rowN4 (RoR.below R1.out hSw)
        go_simp
      simp only [Act.put, List.setIfInBounds_toArray, List.set_cons_zero, List.set_cons_succ]
      refine take_do (i := 7) (v := (.slice (some ⟨tg, 0, none⟩) M tk)) rfl (by kernel_rfl) (by kernel_rfl) (by kernel_rfl) (fun _ _ _ h => h) (by rfl) ?_ (by assumption) ?_
      · intro w hSw
        have q0 := (hSw.cell (World.block_lt_of_cell? _ _ TC0.out)).trans TC0.out
        have q1 := (hSw.cell (World.block_lt_of_cell? _ _ TC1.out)).trans TC1.out
        obtain ⟨⟨p0, p1, p2, p3⟩, _⟩ := rowN4 (RoR.below R1.out hSw)
        go_simp
      simp only [Act.put, List.setIfInBounds_toArray, List.set_cons_zero, List.set_cons_succ]
      refine take_do (i := 8) (v := (.pointer (some ⟨tg, 0, none⟩))) rfl (by kernel_rfl) (by kernel_rfl) (by kernel_rfl) (fun _ _ _ h => h) (by rfl) ?_ (by assumption) ?_
      · intro w hSw
        have q0 := (hSw.cell (World.block_lt_of_cell? _ _ TC0.out)).trans TC0.out
        have q1 := (hSw.cell (World.block_lt_of_cell? _ _ TC1.out)).trans TC1.out
        obtain ⟨⟨p0, p1, p2, p3⟩, _⟩ := rowN4 (RoR.below R1.out hSw)
        go_simp
        exact fun q => absurd q (by have := HM.out; omega)
      simp only [Act.put, List.setIfInBounds_toArray, List.set_cons_zero, List.set_cons_succ]
      refine take_do (i := 9) (v := (.slice (some ⟨rg, 0, none⟩) N rc)) rfl (by kernel_rfl) (by kernel_rfl) (by kernel_rfl) (fun _ _ _ h => h) (by rfl) ?_ (by assumption) ?_
      · intro w hSw
        have q0 := (hSw.cell (World.block_lt_of_cell? _ _ TC0.out)).trans TC0.out
        have q1 := (hSw.cell (World.block_lt_of_cell? _ _ TC1.out)).trans TC1.out
        obtain ⟨⟨p0, p1, p2, p3⟩, _⟩ := rowN4 (RoR.below R1.out hSw)
        go_simp
      simp only [Act.put, List.setIfInBounds_toArray, List.set_cons_zero, List.set_cons_succ]
      refine take_do (i := 10) (v := (.int .i64 N)) rfl (by kernel_rfl) (by kernel_rfl) (by kernel_rfl) (fun _ _ _ h => h) (by rfl) ?_ (by assumption) ?_
      · intro w hSw
        have q0 := (hSw.cell (World.block_lt_of_cell? _ _ TC0.out)).trans TC0.out
        have q1 := (hSw.cell (World.block_lt_of_cell? _ _ TC1.out)).trans TC1.out
        obtain ⟨⟨p0, p1, p2, p3⟩, _⟩ := rowN4 (RoR.below R1.out hSw)
        go_simp
      simp only [Act.put, List.setIfInBounds_toArray, List.set_cons_zero, List.set_cons_succ]
      refine take_do (i := 11) (v := (.int .i64 (b : Int))) rfl (by kernel_rfl) (by kernel_rfl) (by kernel_rfl) (fun _ _ _ h => h) (by rfl) ?_ (by assumption) ?_
      · intro w hSw
        have q0 := (hSw.cell (World.block_lt_of_cell? _ _ TC0.out)).trans TC0.out
        have q1 := (hSw.cell (World.block_lt_of_cell? _ _ TC1.out)).trans TC1.out
        obtain ⟨⟨p0, p1, p2, p3⟩, _⟩ := rowN4 (RoR.below R1.out hSw)
        go_simp
      simp only [Act.put, List.setIfInBounds_toArray, List.set_cons_zero, List.set_cons_succ]
      refine take_do (i := 12) (v := (.int .i64 N)) rfl (by kernel_rfl) (by kernel_rfl) (by kernel_rfl) (fun _ _ _ h => h) (by rfl) ?_ (by assumption) ?_
      · intro w hSw
        have q0 := (hSw.cell (World.block_lt_of_cell? _ _ TC0.out)).trans TC0.out
        have q1 := (hSw.cell (World.block_lt_of_cell? _ _ TC1.out)).trans TC1.out
        obtain ⟨⟨p0, p1, p2, p3⟩, _⟩ := rowN4 (RoR.below R1.out hSw)
        go_simp
      simp only [Act.put, List.setIfInBounds_toArray, List.set_cons_zero, List.set_cons_succ]
      refine take_do (i := 13) (v := (.bool false)) rfl (by kernel_rfl) (by kernel_rfl) (by kernel_rfl) (fun _ _ _ h => h) (by rfl) ?_ (by assumption) ?_
      · intro w hSw
        have q0 := (hSw.cell (World.block_lt_of_cell? _ _ TC0.out)).trans TC0.out
        have q1 := (hSw.cell (World.block_lt_of_cell? _ _ TC1.out)).trans TC1.out
        obtain ⟨⟨p0, p1, p2, p3⟩, _⟩ := rowN4 (RoR.below R1.out hSw)
        go_simp
      simp only [Act.put, List.setIfInBounds_toArray, List.set_cons_zero, List.set_cons_succ]
      refine take_do (i := 14) (v := (.bool false)) rfl (by kernel_rfl) (by kernel_rfl) (by kernel_rfl) (fun _ _ _ h => h) (by rfl) ?_ (by assumption) ?_
      · intro w hSw
        have q0 := (hSw.cell (World.block_lt_of_cell? _ _ TC0.out)).trans TC0.out
        have q1 := (hSw.cell (World.block_lt_of_cell? _ _ TC1.out)).trans TC1.out
        obtain ⟨⟨p0, p1, p2, p3⟩, _⟩ := rowN4 (RoR.below R1.out hSw)
        go_simp
      simp only [Act.put, List.setIfInBounds_toArray, List.set_cons_zero, List.set_cons_succ]
      refine take_do (i := 15) (v := (.bool false)) rfl (by kernel_rfl) (by kernel_rfl) (by kernel_rfl) (fun _ _ _ h => h) (by rfl) ?_ (by assumption) ?_
      · intro w hSw
        have q0 := (hSw.cell (World.block_lt_of_cell? _ _ TC0.out)).trans TC0.out
        have q1 := (hSw.cell (World.block_lt_of_cell? _ _ TC1.out)).trans TC1.out
        obtain ⟨⟨p0, p1, p2, p3⟩, _⟩ := rowN4 (RoR.below R1.out hSw)
        go_simp
      simp only [Act.put, List.setIfInBounds_toArray, List.set_cons_zero, List.set_cons_succ]
      refine take_do (i := 16) (v := (.slice (some ⟨tg, 0, none⟩) M tk)) rfl (by kernel_rfl) (by kernel_rfl) (by kernel_rfl) (fun _ _ _ h => h) (by rfl) ?_ (by assumption) ?_
      · intro w hSw
        have q0 := (hSw.cell (World.block_lt_of_cell? _ _ TC0.out)).trans TC0.out
        have q1 := (hSw.cell (World.block_lt_of_cell? _ _ TC1.out)).trans TC1.out
        obtain ⟨⟨p0, p1, p2, p3⟩, _⟩ := rowN4 (RoR.below R1.out hSw)
        go_simp
      simp only [Act.put, List.setIfInBounds_toArray, List.set_cons_zero, List.set_cons_succ]
      refine take_do (i := 17) (v := (.pointer (some ⟨tg, 0, none⟩))) rfl (by kernel_rfl) (by kernel_rfl) (by kernel_rfl) (fun _ _ _ h => h) (by rfl) ?_ (by assumption) ?_
      · intro w hSw
        have q0 := (hSw.cell (World.block_lt_of_cell? _ _ TC0.out)).trans TC0.out
        have q1 := (hSw.cell (World.block_lt_of_cell? _ _ TC1.out)).trans TC1.out
        obtain ⟨⟨p0, p1, p2, p3⟩, _⟩ := rowN4 (RoR.below R1.out hSw)
        go_simp
        exact fun q => absurd q (by have := HM.out; omega)
      simp only [Act.put, List.setIfInBounds_toArray, List.set_cons_zero, List.set_cons_succ]
      refine take_do (i := 18) (v := (.slice (some ⟨rg, 0, none⟩) N rc)) rfl (by kernel_rfl) (by kernel_rfl) (by kernel_rfl) (fun _ _ _ h => h) (by rfl) ?_ (by assumption) ?_
      · intro w hSw
        have q0 := (hSw.cell (World.block_lt_of_cell? _ _ TC0.out)).trans TC0.out
        have q1 := (hSw.cell (World.block_lt_of_cell? _ _ TC1.out)).trans TC1.out
        obtain ⟨⟨p0, p1, p2, p3⟩, _⟩ := rowN4 (RoR.below R1.out hSw)
        go_simp
      simp only [Act.put, List.setIfInBounds_toArray, List.set_cons_zero, List.set_cons_succ]
      refine take_do (i := 19) (v := (.int .i64 (b : Int))) rfl (by kernel_rfl) (by kernel_rfl) (by kernel_rfl) (fun _ _ _ h => h) (by rfl) ?_ (by assumption) ?_
      · intro w hSw
        have q0 := (hSw.cell (World.block_lt_of_cell? _ _ TC0.out)).trans TC0.out
        have q1 := (hSw.cell (World.block_lt_of_cell? _ _ TC1.out)).trans TC1.out
        obtain ⟨⟨p0, p1, p2, p3⟩, _⟩ := rowN4 (RoR.below R1.out hSw)
        go_simp
      simp only [Act.put, List.setIfInBounds_toArray, List.set_cons_zero, List.set_cons_succ]
      refine take_do (i := 20) (v := (.pointer (some ⟨rg, b, none⟩))) rfl (by kernel_rfl) (by kernel_rfl) (by kernel_rfl) (fun _ _ _ h => h) (by rfl) ?_ (by assumption) ?_
      · intro w hSw
        have q0 := (hSw.cell (World.block_lt_of_cell? _ _ TC0.out)).trans TC0.out
        have q1 := (hSw.cell (World.block_lt_of_cell? _ _ TC1.out)).trans TC1.out
        obtain ⟨⟨p0, p1, p2, p3⟩, _⟩ := rowN4 (RoR.below R1.out hSw)
        go_simp
      simp only [Act.put, List.setIfInBounds_toArray, List.set_cons_zero, List.set_cons_succ]
      refine take_do (i := 21) (v := (.int .i64 O.wo)) rfl (by kernel_rfl) (by kernel_rfl) (by kernel_rfl) (fun _ _ _ h => h) (by rfl) ?_ (by assumption) ?_
      · intro w hSw
        have q0 := (hSw.cell (World.block_lt_of_cell? _ _ TC0.out)).trans TC0.out
        have q1 := (hSw.cell (World.block_lt_of_cell? _ _ TC1.out)).trans TC1.out
        obtain ⟨⟨p0, p1, p2, p3⟩, _⟩ := rowN4 (RoR.below R1.out hSw)
        go_simp
      simp only [Act.put, List.setIfInBounds_toArray, List.set_cons_zero, List.set_cons_succ]
      refine take_do (i := 22) (v := (.pointer (some ⟨x7, 2, none⟩))) rfl (by kernel_rfl) (by kernel_rfl) (by kernel_rfl) (fun _ _ _ h => h) (by rfl) ?_ (by assumption) ?_
      · intro w hSw
        have q0 := (hSw.cell (World.block_lt_of_cell? _ _ TC0.out)).trans TC0.out
        have q1 := (hSw.cell (World.block_lt_of_cell? _ _ TC1.out)).trans TC1.out
        obtain ⟨⟨p0, p1, p2, p3⟩, _⟩ := rowN4 (RoR.below R1.out hSw)
        go_simp
      simp only [Act.put, List.setIfInBounds_toArray, List.set_cons_zero, List.set_cons_succ]
      refine take_do (i := 23) (v := (.int .i64 O.wo)) rfl (by kernel_rfl) (by kernel_rfl) (by kernel_rfl) (fun _ _ _ h => h) (by rfl) ?_ (by assumption) ?_
      · intro w hSw
        have q0 := (hSw.cell (World.block_lt_of_cell? _ _ TC0.out)).trans TC0.out
        have q1 := (hSw.cell (World.block_lt_of_cell? _ _ TC1.out)).trans TC1.out
        obtain ⟨⟨p0, p1, p2, p3⟩, _⟩ := rowN4 (RoR.below R1.out hSw)
        go_simp
      simp only [Act.put, List.setIfInBounds_toArray, List.set_cons_zero, List.set_cons_succ]
      refine take_do (i := 24) (v := (.bool false)) rfl (by kernel_rfl) (by kernel_rfl) (by kernel_rfl) (fun _ _ _ h => h) (by rfl) ?_ (by assumption) ?_
      · intro w hSw
        have q0 := (hSw.cell (World.block_lt_of_cell? _ _ TC0.out)).trans TC0.out
        have q1 := (hSw.cell (World.block_lt_of_cell? _ _ TC1.out)).trans TC1.out
        obtain ⟨⟨p0, p1, p2, p3⟩, _⟩ := rowN4 (RoR.below R1.out hSw)
        go_simp
      simp only [Act.put, List.setIfInBounds_toArray, List.set_cons_zero, List.set_cons_succ]
      refine take_do (i := 25) (v := (.bool false)) rfl (by kernel_rfl) (by kernel_rfl) (by kernel_rfl) (fun _ _ _ h => h) (by rfl) ?_ (by assumption) ?_
      · intro w hSw
        have q0 := (hSw.cell (World.block_lt_of_cell? _ _ TC0.out)).trans TC0.out
        have q1 := (hSw.cell (World.block_lt_of_cell? _ _ TC1.out)).trans TC1.out
        obtain ⟨⟨p0, p1, p2, p3⟩, _⟩ := rowN4 (RoR.below R1.out hSw)
        go_simp
      simp only [Act.put, List.setIfInBounds_toArray, List.set_cons_zero, List.set_cons_succ]
      refine take_do (i := 26) (v := (.bool false)) rfl (by kernel_rfl) (by kernel_rfl) (by kernel_rfl) (fun _ _ _ h => h) (by rfl) ?_ (by assumption) ?_
      · intro w hSw
        have q0 := (hSw.cell (World.block_lt_of_cell? _ _ TC0.out)).trans TC0.out
        have q1 := (hSw.cell (World.block_lt_of_cell? _ _ TC1.out)).trans TC1.out
        obtain ⟨⟨p0, p1, p2, p3⟩, _⟩ := rowN4 (RoR.below R1.out hSw)
        go_simp
      simp only [Act.put, List.setIfInBounds_toArray, List.set_cons_zero, List.set_cons_succ]
      refine take_do (i := 28) (v := (.slice (some ⟨lg, 0, none⟩) n lc)) rfl (by kernel_rfl) (by kernel_rfl) (by kernel_rfl) (fun _ _ _ h => h) (by rfl) ?_ (by assumption) ?_
      · intro w hSw
        have q0 := (hSw.cell (World.block_lt_of_cell? _ _ TC0.out)).trans TC0.out
        have q1 := (hSw.cell (World.block_lt_of_cell? _ _ TC1.out)).trans TC1.out
        obtain ⟨⟨p0, p1, p2, p3⟩, _⟩ := rowN4 (RoR.below R1.out hSw)
        go_simp
      simp only [Act.put, List.setIfInBounds_toArray, List.set_cons_zero, List.set_cons_succ]
      refine take_do (i := 30) (v := (.int .i64 (b : Int))) rfl (by kernel_rfl) (by kernel_rfl) (by kernel_rfl) (fun _ _ _ h => h) (by rfl) ?_ (by assumption) ?_
      · intro w hSw
        have q0 := (hSw.cell (World.block_lt_of_cell? _ _ TC0.out)).trans TC0.out
        have q1 := (hSw.cell (World.block_lt_of_cell? _ _ TC1.out)).trans TC1.out
        obtain ⟨⟨p0, p1, p2, p3⟩, _⟩ := rowN4 (RoR.below R1.out hSw)
        go_simp
      simp only [Act.put, List.setIfInBounds_toArray, List.set_cons_zero, List.set_cons_succ]
      refine take_do (i := 31) (v := (.slice (some ⟨lg, 0, none⟩) n lc)) rfl (by kernel_rfl) (by kernel_rfl) (by kernel_rfl) (fun _ _ _ h => h) (by rfl) ?_ (by assumption) ?_
      · intro w hSw
        have q0 := (hSw.cell (World.block_lt_of_cell? _ _ TC0.out)).trans TC0.out
        have q1 := (hSw.cell (World.block_lt_of_cell? _ _ TC1.out)).trans TC1.out
        obtain ⟨⟨p0, p1, p2, p3⟩, _⟩ := rowN4 (RoR.below R1.out hSw)
        go_simp
      simp only [Act.put, List.setIfInBounds_toArray, List.set_cons_zero, List.set_cons_succ]
      refine take_do (i := 32) (v := (.int .i64 (b : Int))) rfl (by kernel_rfl) (by kernel_rfl) (by kernel_rfl) (fun _ _ _ h => h) (by rfl) ?_ (by assumption) ?_
      · intro w hSw
        have q0 := (hSw.cell (World.block_lt_of_cell? _ _ TC0.out)).trans TC0.out
        have q1 := (hSw.cell (World.block_lt_of_cell? _ _ TC1.out)).trans TC1.out
        obtain ⟨⟨p0, p1, p2, p3⟩, _⟩ := rowN4 (RoR.below R1.out hSw)
        go_simp
      simp only [Act.put, List.setIfInBounds_toArray, List.set_cons_zero, List.set_cons_succ]
      refine wpAnyH_ready (rs := [27]) (by kernel_rfl) (by simp) (AllReadyH.cons (at_drop (i := 27) rfl) (fun K2 hK => ?_) (AllReadyH.nil))
      obtain ⟨Z1, hZ1⟩ : ∃ Z1, Z1 = Z.alloc (.cells #[] 53) := ⟨_, rfl⟩
      have hb : Below Z.heap.size Z Z1 := by rw [hZ1]; exact nbel_alloc _ _
      obtain ⟨gb, hgb⟩ : ∃ gb, gb = Z.heap.size := ⟨_, rfl⟩
      have HBL : Hid (Z1.ownsRow w7.heap.size 53 2 (.slice (some ⟨gb, 0, none⟩) 0 0) 0 []) := by show World.ownsRow _ _ _ _ _ _ _; rw [hZ1, hgb]; exact World.ownsRow_made Z #[] 0 hHeld.size (Nat.zero_le _) rfl
      have HGB : Hid (w7.heap.size ≤ gb) := by show _ ≤ _; rw [hgb]; exact hHeld.size
      go_simp
      rw [← hZ1, ← hgb]
      clear hZ1
      refine hK.out _ _ (hHeld.trans (hb.mono hHeld.size)) (fun hHeld2 => ?_)
      clear hgb hb
      clear hK hHeld
      have hHeld := hHeld2
      clear hHeld2
      refine wpAnyH_ready (rs := [29]) (by kernel_rfl) (by simp) (AllReadyH.cons (at_drop (i := 29) rfl) (fun K2 hK => ?_) (AllReadyH.nil))
      refine ap_at_g (by kernel_rfl) (by kernel_rfl) (.tmp 99) (.tmp 100) 28 rfl w7.heap.size 53 i1 (.agg #[.int .i64 0, .int .i64 0]) 2 16 Tryd.underlying28 hi1 hy0 hy1 hy2 rfl (by decide) (.slice (some ⟨gb, 0, none⟩) 0 0) 0 [] rfl HBL.out ⟨lg, 0, none⟩ n lc (Rn.asVs F (List.range n)) rfl (by rw [asVs_len, List.length_range]) (as_cells (LI.out.below hHeld)) asVs_one (by unfold maxLen; omega) (by omega) hHeld.size ?_
      intro v' Z2 hown hgrow hwhere
      obtain ⟨⟨ca, cc, rfl, hc⟩, hb0⟩ := as_copy (B := w7.heap.size) hHeld.size (by simpa using hown) hgrow HGB.out
      have HC := Lib.hid hc
      refine hK.out _ _ (hHeld.trans hb0) (fun hHeld2 => ?_)
      clear hown hgrow hwhere hc hb0 HBL HGB
      clear hK hHeld
      have hHeld := hHeld2
      clear hHeld2
      simp only [Act.put, List.setIfInBounds_toArray, List.set_cons_zero, List.set_cons_succ]
      refine wpAnyH_ready (rs := [33]) (by kernel_rfl) (by simp) (AllReadyH.cons (at_drop (i := 33) rfl) (fun K2 hK => ?_) (AllReadyH.nil))
      go_simp
      refine (SPT.out _ (LI.out.below hHeld)).mono ?_
      rintro e Z3 ⟨⟨sa, sk, rfl, hs⟩, hb⟩
      have HST := Lib.hid hs
      clear hs
      replace HC := Lib.hid (HC.out.below hb)
      go_wp2_with fail
      refine hK.out _ _ (hHeld.trans (hb.mono hHeld.size)) (fun hHeld2 => ?_)
      clear hb
      clear hK hHeld
      have hHeld := hHeld2
      clear hHeld2
      refine wpAnyH_ready (rs := [34]) (by kernel_rfl) (by simp) (AllReadyH.cons (at_drop (i := 34) rfl) (fun K2 hK => ?_) (AllReadyH.nil))
      go_simp
      refine (IMT.out ca cc sa sk _ HC.out HST.out).mono ?_
      rintro e Z4 ⟨rfl, hb⟩
      go_wp2_with fail
      refine hK.out _ _ (hHeld.trans (hb.mono hHeld.size)) (fun hHeld2 => ?_)
      clear hb
      clear hK hHeld
      have hHeld := hHeld2
      clear hHeld2
      refine take_do (i := 35) (v := (.bool false)) rfl (by kernel_rfl) (by kernel_rfl) (by kernel_rfl) (fun _ _ _ h => h) (by rfl) ?_ (by assumption) ?_
      · intro w hSw
        have q0 := (hSw.cell (World.block_lt_of_cell? _ _ TC0.out)).trans TC0.out
        have q1 := (hSw.cell (World.block_lt_of_cell? _ _ TC1.out)).trans TC1.out
        obtain ⟨⟨p0, p1, p2, p3⟩, _⟩ := rowN4 (RoR.below R1.out hSw)
        go_simp
      simp only [Act.put, List.setIfInBounds_toArray, List.set_cons_zero, List.set_cons_succ]
      refine take_do (i := 36) (v := (.bool false)) rfl (by kernel_rfl) (by kernel_rfl) (by kernel_rfl) (fun _ _ _ h => h) (by rfl) ?_ (by assumption) ?_
      · intro w hSw
        have q0 := (hSw.cell (World.block_lt_of_cell? _ _ TC0.out)).trans TC0.out
        have q1 := (hSw.cell (World.block_lt_of_cell? _ _ TC1.out)).trans TC1.out
        obtain ⟨⟨p0, p1, p2, p3⟩, _⟩ := rowN4 (RoR.below R1.out hSw)
        go_simp
      simp only [Act.put, List.setIfInBounds_toArray, List.set_cons_zero, List.set_cons_succ]
      refine wpAnyH_done (by kernel_rfl) ?_ _
      have HR : Hid (Below w7.heap.size w7 Z4) := hHeld
      clear hHeld
      go_wp2_with fail
      go_meet
      case rel => exact ⟨rfl, HR⟩
    case rest =>
      obtain ⟨W8, hW8⟩ : ∃ W8, W8 = wc := ⟨_, rfl⟩
      subst hW8
      obtain ⟨rfl, hR⟩ := hcut
      have hb := hR.out
      replace HB : Hid (Below w.heap.size w W8) := HB.out.trans (hb.mono HB.out.size)
      replace LI := Lib.hid (LI.out.below hb)
      replace PI := Lib.hid (PI.out.below hb)
      replace P1 := Lib.hid (P1.out.below hb)
      replace R0 := Lib.hid (RoR.below R0.out hb)
      replace R1 := Lib.hid (RoR.below R1.out hb)
      clear hb hR TC0 TC1 hMM hNN hwob
      obtain ⟨Y, hY⟩ : ∃ Y, Y = Rn.of_ n F b m p := ⟨_, rfl⟩
      have HYL : Hid (Y.cd = 0 → Y.wo ≤ O.wo) := fun hc => by
        rw [hY] at hc ⊢
        by_cases q : 400 < n ∨ 400 < m
        · rw [Rn.of_big q] at hc; exact absurd hc (by simp [Rn.bad])
        · by_cases q2 : Rn.Right n F ∧ Rn.BudOk (b : Int) ∧ Pl.Rising m p n
          · by_cases q3 : (b : Int) < Rn.sm F 0 p m
            · rw [Rn.of_short q q2 q3] at hc; exact absurd hc (by simp [Rn.bad])
            · rw [Rn.of_ok q q2 q3, HWO.out]
              exact Rn.best q2.1 q2.2.2 (by omega)
          · rw [Rn.of_form q q2] at hc; exact absurd hc (by simp [Rn.bad])
      go_wp2_with fail
      refine (specOf_any _ n lc F b pa m pc p _ LI.out (by omega) PI.out (by omega) HPN.out).mono ?_
      rintro e w9 ⟨⟨a9, k9, rfl, _⟩, hb⟩
      replace HB : Hid (Below w.heap.size w w9) := HB.out.trans (hb.mono HB.out.size)
      replace LI := Lib.hid (LI.out.below hb)
      replace PI := Lib.hid (PI.out.below hb)
      replace P1 := Lib.hid (P1.out.below hb)
      replace R0 := Lib.hid (RoR.below R0.out hb)
      replace R1 := Lib.hid (RoR.below R1.out hb)
      clear hb
      rw [← hY]
      clear hY
      go_upto_region 15 with fail
      obtain ⟨V9, hV9⟩ : ∃ V, V = w9.alloc (.cells #[.slice a9 Y.m k9, .int .i64 Y.cs, .int .i64 Y.wo, .int .i64 Y.cd] 26) := ⟨_, rfl⟩
      have hb : Below w9.heap.size w9 V9 := by rw [hV9]; exact nbel_alloc _ _
      have R9 : Hid (RoR w9.heap.size Y a9 k9 V9) := by show World.rowIs _ _ _ _ _; rw [hV9]; exact rowN_alloc _ _ _
      rw [← hV9]
      replace HB : Hid (Below w.heap.size w V9) := HB.out.trans (hb.mono HB.out.size)
      replace R1 := Lib.hid (RoR.below R1.out hb)
      clear hV9 hb
      obtain ⟨⟨p0, p1, p2, p3⟩, _⟩ := rowN4 R1.out
      obtain ⟨⟨q0, q1, q2, q3⟩, _⟩ := rowN4 R9.out
      by_cases hyc : Y.cd = 0
      · have hycb : (Y.cd != 0) = false := by simp [hyc]
        have hyl := HYL.out hyc
        clear hyc
        go_wp2_with fail
        go_ret
        exact ⟨by simp, HB.out⟩
      · have hycb : (Y.cd != 0) = true := by simp [hyc]
        clear hyc
        go_wp2_with fail
        go_ret
        exact ⟨rfl, HB.out⟩
end Go.Proofs.YtbkpedcabbppbaaDoor
