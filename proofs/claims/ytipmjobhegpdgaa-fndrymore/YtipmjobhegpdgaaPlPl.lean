/-
  The draw of a plan.
-/
import Derived.Test.YtipmjobhegpdgaaPlPd
import Derived.Deep.DeepCutAuto
namespace Go.Proofs.Ytipmjobhegpdgaa
open Go Go.RowKit Go.Deep

theorem dywr {x : Int} (h1 : -9223372036854775808 ≤ x) (h2 : x ≤ 9223372036854775807) : IntKind.i64.wrap x = x := by simp [IntKind.wrap, IntKind.bits, IntKind.signed]; omega
theorem src_size {sb : Nat} {w : World} (h : Src sb w) : ∃ z : Int, w.cell? ⟨sb, 3, none⟩ = some (.int .i64 z) ∧ 0 ≤ z ∧ z ≤ 12 := by
  obtain ⟨a, len, cap, at_, mix, size, ⟨c0, c1, c2, c3, _⟩, h1, h2, h3, h4, h5, h6⟩ := h
  exact ⟨size, c3, h4, h5⟩
theorem dyap {P : Program} {ops : Array Oper} {o : Oper} {a : Act} {w : World} {K : Act → World → Prop} {Q : Exit → Act → World → Prop} {E : Prop}
    (hg : o.guard = none) (s x : Operand) (t : TypeId) (hop : o.op = Op.call { callee := Callee.builtin Builtin.append, args := #[s, x], argTypes := #[t, t] }) (B : Nat)
    (e : TypeId) (i : TypeInfo) (z : Value) (size bytes : Nat) (h1 : P.underlying t = some (.slice e)) (h2 : P.info? e = some i) (h3 : i.zero = some z) (h4 : i.size = size) (h5 : i.bytes = bytes) (h6 : z.cells.size = size) (h7 : 0 < size)
    (v : Value) (n : Nat) (olds : List Value) (hs : a.eval s = v) (hown : w.ownsRow B e size v n olds)
    (ad : Addr) (m c : Nat) (news : List Value) (hx : a.eval x = .slice (some ad) m c) (hn : news.length = m * size) (hc : ∀ j u, news[j]? = some u → w.cell? (ad.add j) = some u) (h1c : ∀ u ∈ news, u.oneCell' = true)
    (b1 : n + m ≤ maxLen) (b2 : (n + m) * bytes ≤ 140737488355328) (hB : B ≤ w.heap.size)
    (hK : ∀ v' w', w'.ownsRow B e size v' (n + m) (olds ++ news) → w.grownBy w' v.ownBlock → K (a.put o.dst v') w') :
    if Region.wanted o (yielded ops a.tmps) = true then Oper.wp P o a w K Q else E := by
  have hw : Region.wanted o (yielded ops a.tmps) = true := by simp [Region.wanted, hg]
  rw [if_pos hw]
  obtain ⟨v', w', hrun, r1, r2, _⟩ := run_append_own (P := P) w B t o.type e i z size bytes h1 h2 h3 h4 h5 h6 h7 v n olds hown ad m c news hn hc h1c b1 b2 hB
  unfold Oper.wp
  simp [execOp, hop, resolve, invoke, builtin, hs, hx, hrun, Result.andThen]
  exact hK v' w' r1 r2
/-- How long the list is that lies first in a block. -/
def lenAt (g : Nat) (W : World) : Nat := match W.cell? ⟨g, 0, none⟩ with
  | some (.slice _ n _) => n
  | _ => 0
theorem lenAt_row {g : Nat} {W : World} {T : TypeId} {a : Option Addr} {n c : Nat} {x y : Value} (h : W.rowIs g T 3 (rowN [.slice a n c, x, y])) : lenAt g W = n := by
  obtain ⟨⟨c0, _, _⟩, _⟩ := rowN3 h
  unfold lenAt
  rw [c0]
set_option maxRecDepth 100000 in
set_option maxHeartbeats 16000000 in
theorem dplan_any (sb : Nat) (w : World) (hS : Src sb w) :
    Calls Try.prog 36 #[.pointer (some ⟨sb, 0, none⟩)] w fun e w' => (∃ (n : Pl.Plan) (la : Option Addr) (lk : Nat) (fa : Option Addr) (fk : Nat) (wa : Option Addr) (wk : Nat), e = .returned (plV n la lk fa fk wa wk) ∧ PlAt n la fa wa w' ∧ PlSmall n ∧ PlOff sb la fa wa ∧ (fa = none → n.sn = 0) ∧ n.rn ≤ 1000 ∧ n.hn ≤ 1000) ∧ Drew sb w w' := by
  obtain ⟨i0, hi0, hi1, hi2, hi3⟩ := info_parts yinfo_i64
  obtain ⟨j0, hj0, hj1, hj2, hj3⟩ := info_parts rinfo
  have HSR := Lib.hid hS
  have hsb := hS.lt
  obtain ⟨W, hW⟩ : ∃ W, W = (w.alloc (.cells #[.slice none 0 0, .slice none 0 0, .slice none 0 0] 26)).alloc (.cells #[.slice none 0 0, .slice none 0 0, .slice none 0 0] 26) := ⟨_, rfl⟩
  have hb : Below w.heap.size w W := by rw [hW]; exact (nbel_alloc _ _).alloc (by simp) _
  have HR : Hid (W.rowIs (w.heap.size + 1) 26 3 (rowN [.slice none 0 0, .slice none 0 0, .slice none 0 0])) := by show World.rowIs _ _ _ _ _; rw [hW]; exact rowN_alloc' (by simp) _ _
  have HM : Hid (PM w sb (.slice none 0 0) (.slice none 0 0) (.slice none 0 0) 0 0 0 W) := by
    refine ⟨⟨hS.below hb, Chg.of_below hb⟩, hsb, ?_, OwZ.nil _ _ _ _, OwZ.nil _ _ _ _, W.heap.size, hb.size, Nat.le_refl _, OwZ.nil _ _ _ _, fun k e => by cases e⟩
    rw [hW]; exact nrow_below (rowN_alloc w _ _) (nbel_alloc _ _)
  have HW := Lib.hid hW
  obtain ⟨size, c3, hz0, hz1⟩ := src_size HM.out.src.1
  rw [hW] at c3
  obtain ⟨q0, hq0⟩ : ∃ q, q = size.tdiv 2 := ⟨_, rfl⟩
  have hq2 : 0 ≤ q0 ∧ q0 ≤ 6 := by rw [hq0, Int.tdiv_eq_ediv_of_nonneg hz0]; omega
  have hqr : size.tdiv 2 = q0 := hq0.symm
  clear hS hW hb hq0
  go_enter Try.func36, Try.ntmps36
  go_wp2_with fail
  rw [← HW.out]
  clear HW c3
  refine (n_any sb _ _ HM.out.src.1 (by omega)).mono ?_
  rintro e w1 ⟨⟨v, rfl, v0, v1, _⟩, hD⟩
  have hv : v < 10 := by have := v1 (by omega); omega
  replace HM := Lib.hid (HM.out.draw hD)
  replace HR := Lib.hid (row_chg HR.out (by omega) hD.2)
  clear hD v1 hqr hz0 hz1 hq2
  go_wp2_with fail
  refine (one_any sb 40 _ HM.out.src.1 (by omega)).mono ?_
  rintro e w2 ⟨⟨bb, rfl⟩, hD⟩
  replace HM := Lib.hid (HM.out.draw hD)
  replace HR := Lib.hid (row_chg HR.out (by omega) hD.2)
  clear hD
  go_upto_if 18 with fail
  go_cut [4] from 19 to 21 (fun nv V => ∃ N : Nat, nv = .int .i64 N ∧ 2 ≤ N ∧ N ≤ 41 ∧ Hid (PM w sb (.slice none 0 0) (.slice none 0 0) (.slice none 0 0) 0 0 0 V ∧ V.rowIs (w.heap.size + 1) 26 3 (rowN [.slice none 0 0, .slice none 0 0, .slice none 0 0])))
  case first =>
    cases bb with
    | true =>
      go_wp2_with fail
      refine (n_any sb 3 _ HM.out.src.1 (by omega)).mono ?_
      rintro e w3 ⟨⟨x, rfl, x0, x1, _⟩, hD⟩
      have hx : x < 3 := x1 (by omega)
      replace HM := Lib.hid (HM.out.draw hD)
      replace HR := Lib.hid (row_chg HR.out (by omega) hD.2)
      clear hD x1
      go_wp2_with fail
      go_meet
      case rel => exact ⟨(39 + x).toNat, by congr 1; omega, by omega, by omega, HM.out, HR.out⟩
    | false =>
      go_wp2_with fail
      go_meet
      case rel => exact ⟨(2 + v).toNat, by congr 1; omega, by omega, by omega, HM.out, HR.out⟩
  case rest =>
  obtain ⟨N, rfl, hN2, hN4, hC⟩ := hcut
  clear HM HR v0 hv
  have HM := Lib.hid hC.out.1
  have HR := Lib.hid hC.out.2
  clear hC
  obtain ⟨⟨y0, y1, y2⟩, f0, f1, f2⟩ := rowN3 HR.out
  have hl0 := HR.out.lt
  go_wp2_with fail
  refine (dlist_any sb N (by omega) _ HM.out.src.1).mono ?_
  rintro e w4 ⟨hv, rfl, zs, hzl, hown, hD, _⟩
  clear y0 y1 y2 f0 f1 f2 hl0
  have HHO : Hid (OwZ 2 1 w.heap.size hv N w4) := OwZ.low ⟨zs, by rw [← hzl]; exact hown⟩ HM.out.src.2.size
  have HHL : Hid (∀ k, hv.ownBlock = some k → k < w4.heap.size) := fun k e => (hown.lt k e).2
  replace HM := Lib.hid (HM.out.draw hD)
  replace HR := Lib.hid (row_chg HR.out (by omega) hD.2)
  clear hown hD hzl
  obtain ⟨ha, hc, rfl, _⟩ := HHO.out.shape
  obtain ⟨⟨y0, y1, y2⟩, f0, f1, f2⟩ := rowN3 HR.out
  have hl0 := HR.out.lt
  obtain ⟨W5, hW5⟩ : ∃ W5, W5 = w4.setCell ⟨w.heap.size + 1, 2, none⟩ (.slice ha N hc) := ⟨_, rfl⟩
  have HP5 : Hid (PDx w sb 0 0 N W5) := by
    have hm : PM w sb (.slice none 0 0) (.slice none 0 0) (.slice ha N hc) 0 0 N w4 := ⟨HM.out.src, HM.out.sbl, HM.out.res, HM.out.ro, HHO.out, w4.heap.size, HM.out.src.2.size, Nat.le_refl _, OwZ.nil _ _ _ _, HHL.out⟩
    refine ⟨.slice none 0 0, .slice none 0 0, .slice ha N hc, ?_, ?_⟩
    · rw [hW5]; exact hm.set HR.out (by omega) _
    · rw [hW5]; exact rowN_put HR.out 2 _ (by simp)
  have HW5 := Lib.hid hW5
  clear hW5
  go_wp2_with fail
  rw [← HW5.out]
  clear HW5 HM HR HHO HHL y0 y1 y2 f0 f1 f2 hl0
  go_loopw [5, 6] (fun iv _ wr => ∃ (i : Nat) (rn : Nat), iv = .int .i64 i ∧ 1 ≤ i ∧ i ≤ N ∧ rn + 2 ≤ 2 * i ∧ Hid (PDx w sb rn 0 N wr)) (fun iv _ _ => N - (intOf iv).toNat)
  case atStart => exact ⟨1, 0, rfl, by omega, by omega, by omega, HP5⟩
  case round =>
    obtain ⟨i, rn, rfl, hi1', hiN, hrn, hP⟩ := hrel
    clear HP5
    obtain ⟨hn, hhn⟩ : ∃ hn, hn = N := ⟨_, rfl⟩
    by_cases hlt : i < N
    · have hltz : (i : Int) < (N : Int) := by omega
      obtain ⟨rv, sv, hv, hM, hR⟩ := hP.out
      rw [← hhn] at hM
      obtain ⟨ra, rc, rfl, _⟩ := hM.ro.shape
      obtain ⟨sa, sc, rfl, _⟩ := hM.so.shape
      obtain ⟨ha, hc, rfl, _⟩ := hM.ho.shape
      have HM := Lib.hid hM
      have HR := Lib.hid hR
      obtain ⟨WW, hWW⟩ : ∃ WW, WW = wr := ⟨_, rfl⟩
      rw [← hWW] at HM HR ⊢
      clear hP hM hR hWW
      go_wp2_with fail
      go_cut [] (fun V => Hid (PDx w sb (rn + 1) 0 hn V))
      case first =>
        refine region_L (fun V => V.rowIs (w.heap.size + 1) 26 3 (rowN [(.slice ra rn rc), (.slice sa 0 sc), (.slice ha hn hc)])) 15 (by kernel_rfl) (nrow_below HR.out (Below.refl _ _).drew) (fun hHeld => ?_)
        obtain ⟨Z, hZ⟩ : ∃ Z, Z = WW.drew := ⟨_, rfl⟩
        replace HM : Hid (PM w sb (.slice ra rn rc) (.slice sa 0 sc) (.slice ha hn hc) rn 0 hn Z) := by show PM _ _ _ _ _ _ _ _ _; rw [hZ]; exact HM.out.below (Below.refl _ _).drew
        replace HR : Hid (Z.rowIs (w.heap.size + 1) 26 3 (rowN [(.slice ra rn rc), (.slice sa 0 sc), (.slice ha hn hc)])) := by show World.rowIs _ _ _ _ _; rw [hZ]; exact nrow_below HR.out (Below.refl _ _).drew
        rw [← hZ] at hHeld ⊢
        clear hZ
        refine takeL_do (i := 0) (v := (.pointer (some ⟨w.heap.size + 1, 0, none⟩))) rfl (by kernel_rfl) (by kernel_rfl) (by kernel_rfl) (by kernel_rfl) (fun _ _ _ h => h) (by rfl) ?_ (by assumption) ?_
        · intro w hSw
          skip
          go_simp
        simp only [Act.put, List.setIfInBounds_toArray, List.set_cons_zero, List.set_cons_succ]
        refine takeL_do (i := 1) (v := (.slice ra rn rc)) rfl (by kernel_rfl) (by kernel_rfl) (by kernel_rfl) (by kernel_rfl) (fun _ _ _ h => h) (by rfl) ?_ (by assumption) ?_
        · intro w hSw
          obtain ⟨⟨x0, x1, x2⟩, _⟩ := rowN3 hSw
          go_simp
        simp only [Act.put, List.setIfInBounds_toArray, List.set_cons_zero, List.set_cons_succ]
        refine takeL_do (i := 2) (v := (.pointer (some ⟨sb, 0, none⟩))) rfl (by kernel_rfl) (by kernel_rfl) (by kernel_rfl) (by kernel_rfl) (fun _ _ _ h => h) (by rfl) ?_ (by assumption) ?_
        · intro w hSw
          skip
          go_simp
        simp only [Act.put, List.setIfInBounds_toArray, List.set_cons_zero, List.set_cons_succ]
        refine takeL_do (i := 3) (v := (.int .i64 i)) rfl (by kernel_rfl) (by kernel_rfl) (by kernel_rfl) (by kernel_rfl) (fun _ _ _ h => h) (by rfl) ?_ (by assumption) ?_
        · intro w hSw
          skip
          go_simp
        simp only [Act.put, List.setIfInBounds_toArray, List.set_cons_zero, List.set_cons_succ]
        refine takeL_do (i := 5) (v := (.int .i64 i)) rfl (by kernel_rfl) (by kernel_rfl) (by kernel_rfl) (by kernel_rfl) (fun _ _ _ h => h) (by rfl) ?_ (by assumption) ?_
        · intro w hSw
          skip
          go_simp
        simp only [Act.put, List.setIfInBounds_toArray, List.set_cons_zero, List.set_cons_succ]
        refine takeL_do (i := 7) (v := (.pointer (some ⟨sb, 0, none⟩))) rfl (by kernel_rfl) (by kernel_rfl) (by kernel_rfl) (by kernel_rfl) (fun _ _ _ h => h) (by rfl) ?_ (by assumption) ?_
        · intro w hSw
          skip
          go_simp
        simp only [Act.put, List.setIfInBounds_toArray, List.set_cons_zero, List.set_cons_succ]
        refine L_ready (rs := [4, 6]) (by kernel_rfl) (by simp) (AllL.cons (i := 4) rfl (fun K2 hK => ?_) (AllL.cons (i := 6) rfl (fun K2 hK => ?_) AllL.nil))
        · go_simp
          refine (n_any sb i _ HM.out.src.1 (by omega)).mono ?_
          rintro e Z1 ⟨⟨v1, rfl, v10, v11, _⟩, hD⟩
          have v1b : 0 ≤ v1 := by omega
          clear v10 v11
          replace HM := Lib.hid (HM.out.draw hD)
          replace HR := Lib.hid (row_chg HR.out (by have := HM.out.sbl; omega) hD.2)
          clear hD
          go_wp2_with fail
          refine hK.out _ _ HR.out (fun hHeld2 => ?_)
          clear hK hHeld
          have hHeld := hHeld2
          clear hHeld2
          refine L_ready (rs := [6, 8]) (by kernel_rfl) (by simp) (AllL.cons (i := 6) rfl (fun K2 hK => ?_) (AllL.cons (i := 8) rfl (fun K2 hK => ?_) AllL.nil))
          · obtain ⟨Z2, hZ2⟩ : ∃ Z2, Z2 = Z1.alloc (.cells #[.int .i64 1, .int .i64 1, .int .i64 1, .int .i64 0, .int .i64 2] 2) := ⟨_, rfl⟩
            have hb : Below Z1.heap.size Z1 Z2 := by rw [hZ2]; exact nbel_alloc _ _
            obtain ⟨gq, hgq⟩ : ∃ gq, gq = Z1.heap.size := ⟨_, rfl⟩
            have HQ : Hid (Z2.rowIs gq 2 5 (rowN [.int .i64 1, .int .i64 1, .int .i64 1, .int .i64 0, .int .i64 2])) := by show World.rowIs _ _ _ _ _; rw [hZ2, hgq]; exact rowN_alloc _ _ _
            have HQL : Hid (w.heap.size ≤ gq) := by show _ ≤ _; rw [hgq]; exact HM.out.src.2.size
            replace HM := Lib.hid (HM.out.below hb)
            replace HR := Lib.hid (nrow_below HR.out hb)
            go_simp
            rw [← hZ2, ← hgq]
            refine hK.out _ _ HR.out (fun hHeld2 => ?_)
            clear hK hHeld
            have hHeld := hHeld2
            clear hHeld2
            clear hb hZ2 hgq
            refine takeL_call (i := 8) rfl (by kernel_rfl) (fun K2 hK => ?_)
            go_simp
            refine (n_any sb 5 _ HM.out.src.1 (by omega)).mono ?_
            rintro e Z3 ⟨⟨v2, rfl, v20, v21, _⟩, hD⟩
            have v2b : 0 ≤ v2 ∧ v2 < 5 := by have := v21 (by omega); omega
            clear v20 v21
            replace HM := Lib.hid (HM.out.draw hD)
            replace HR := Lib.hid (row_chg HR.out (by have := HM.out.sbl; omega) hD.2)
            replace HQ := Lib.hid (row_chg HQ.out (by have := HM.out.sbl; have := HQL.out; omega) hD.2)
            clear hD
            go_wp2_with fail
            refine hK.out _ _ HR.out (fun hHeld2 => ?_)
            clear hK hHeld
            have hHeld := hHeld2
            clear hHeld2
            refine takeL_do (i := 9) (v := (.pointer (some ⟨gq, v2.toNat, none⟩))) rfl (by kernel_rfl) (by kernel_rfl) (by kernel_rfl) (by kernel_rfl) (fun _ _ _ h => h) (by rfl) ?_ (by assumption) ?_
            · intro w hSw
              skip
              go_simp
              try (intro hq; exfalso; omega)
            simp only [Act.put, List.setIfInBounds_toArray, List.set_cons_zero, List.set_cons_succ]
            refine takeL_call (i := 10) rfl (by kernel_rfl) (fun K2 hK => ?_)
            obtain ⟨V, hV⟩ : ∃ V : Int, Z3.cell? ⟨gq, v2.toNat, none⟩ = some (.int .i64 V) := by
              obtain ⟨⟨c0, c1, c2, c3, c4⟩, _⟩ := rowN5 HQ.out
              have h5 : v2.toNat = 0 ∨ v2.toNat = 1 ∨ v2.toNat = 2 ∨ v2.toNat = 3 ∨ v2.toNat = 4 := by omega
              rcases h5 with h | h | h | h | h <;> rw [h]
              · exact ⟨_, c0⟩
              · exact ⟨_, c1⟩
              · exact ⟨_, c2⟩
              · exact ⟨_, c3⟩
              · exact ⟨_, c4⟩
            go_simp
            refine hK.out _ _ HR.out (fun hHeld2 => ?_)
            clear hK hHeld
            have hHeld := hHeld2
            clear hHeld2
            clear hV HQ HQL
            refine takeL_do (i := 11) (v := (.agg #[.int .i64 v1, .int .i64 i, .int .i64 V])) rfl (by kernel_rfl) (by kernel_rfl) (by kernel_rfl) (by kernel_rfl) (fun _ _ _ h => h) (by rfl) ?_ (by assumption) ?_
            · intro w hSw
              skip
              go_simp
            simp only [Act.put, List.setIfInBounds_toArray, List.set_cons_zero, List.set_cons_succ]
            refine takeL_call (i := 12) rfl (by kernel_rfl) (fun K2 hK => ?_)
            obtain ⟨Z4, hZ4⟩ : ∃ Z4, Z4 = Z3.alloc (.cells #[.int .i64 v1, .int .i64 i, .int .i64 V] 32) := ⟨_, rfl⟩
            have hb : Below Z3.heap.size Z3 Z4 := by rw [hZ4]; exact nbel_alloc _ _
            obtain ⟨gs, hgs⟩ : ∃ gs, gs = Z3.heap.size := ⟨_, rfl⟩
            have HL : Hid (Z4.rowIs gs 32 3 (rowN [.int .i64 v1, .int .i64 i, .int .i64 V])) := by show World.rowIs _ _ _ _ _; rw [hZ4, hgs]; exact rowN_alloc _ _ _
            replace HM := Lib.hid (HM.out.below hb)
            replace HR := Lib.hid (nrow_below HR.out hb)
            go_simp
            rw [← hZ4, ← hgs]
            refine hK.out _ _ HR.out (fun hHeld2 => ?_)
            clear hK hHeld
            have hHeld := hHeld2
            clear hHeld2
            clear hb hZ4 hgs
            refine takeL_call (i := 13) rfl (by kernel_rfl) (fun K2 hK => ?_)
            obtain ⟨zs, hown⟩ := HM.out.ro
            refine dyap rfl (.tmp 32) (.tmp 43) 23 rfl (w.heap.size) 32 j0 (.agg #[.int .i64 0, .int .i64 0, .int .i64 0]) 3 24 Try.underlying23 hj0 hj1 hj2 hj3 rfl (by decide) (.slice ra rn rc) rn _ rfl hown ⟨gs, 0, none⟩ 1 1 [.int .i64 v1, .int .i64 i, .int .i64 V] rfl rfl ?_ ?_ (by unfold maxLen; omega) (by omega) (by have := HM.out.src.2.size; omega) ?_
            · obtain ⟨⟨c0, c1, c2⟩, _⟩ := rowN3 HL.out
              intro j u hj
              match j, hj with
              | 0, hj => simp at hj; subst hj; simpa [Addr.add] using c0
              | 1, hj => simp at hj; subst hj; simpa [Addr.add] using c1
              | 2, hj => simp at hj; subst hj; simpa [Addr.add] using c2
            · intro u hu
              simp at hu
              first | (subst hu; rfl) | (rcases hu with rfl | rfl | rfl <;> rfl)
            intro v' Z5 hown2 hgrow
            have hoz : OwZ 32 3 (w.heap.size) v' (rn + 1) Z5 := ⟨zs ++ ([(v1 : Int), (i : Int), (V : Int)] : List Int), by rw [List.map_append]; exact hown2⟩
            obtain ⟨a9, c9, rfl, _⟩ := hoz.shape
            have HOZ := Lib.hid hoz
            clear hoz
            replace HR := Lib.hid (row_grown HR.out HM.out.ro (by decide) hgrow)
            replace HM := Lib.hid (HM.out.rows hgrow HOZ.out)
            refine hK.out _ _ HR.out (fun hHeld2 => ?_)
            clear hK hHeld hown hown2 hgrow HL HOZ
            have hHeld := hHeld2
            clear hHeld2
            simp only [Act.put, List.setIfInBounds_toArray, List.set_cons_zero, List.set_cons_succ]
            refine takeL_do (i := 14) (v := (.pointer (some ⟨w.heap.size + 1, 0, none⟩))) rfl (by kernel_rfl) (by kernel_rfl) (by kernel_rfl) (by kernel_rfl) (fun _ _ _ h => h) (by rfl) ?_ (by assumption) ?_
            · intro w hSw
              skip
              go_simp
            simp only [Act.put, List.setIfInBounds_toArray, List.set_cons_zero, List.set_cons_succ]
            obtain ⟨⟨o0, o1, o2⟩, z0, z1, z2⟩ := rowN3 HR.out
            have l0 := HR.out.lt
            obtain ⟨WZ, hWZ⟩ : ∃ WZ, WZ = Z5.setCell ⟨w.heap.size + 1, 0, none⟩ (.slice a9 (rn + 1) c9) := ⟨_, rfl⟩
            have HPX : Hid (PDx w sb (rn + 1) 0 hn WZ) := by
              refine ⟨(.slice a9 (rn + 1) c9), (.slice sa 0 sc), (.slice ha hn hc), ?_, ?_⟩
              · rw [hWZ]; exact HM.out.set HR.out (by omega) _
              · rw [hWZ]; exact rowN_put HR.out 0 _ (by simp)
            have HWZ := Lib.hid hWZ
            clear hWZ
            refine takeL_last rfl (by kernel_rfl) (by kernel_rfl) (fun K2 hK => ?_)
            go_simp
            rw [← HWZ.out]
            refine hK.out _ _ ?_
            clear hK hHeld HWZ o0 o1 o2 z0 z1 z2 l0 HM HR
            go_wp2_with fail
            go_meet
            exact HPX
          · go_simp
            refine (n_any sb 5 _ HM.out.src.1 (by omega)).mono ?_
            rintro e Z6 ⟨⟨v2, rfl, v20, v21, _⟩, hD⟩
            have v2b : 0 ≤ v2 ∧ v2 < 5 := by have := v21 (by omega); omega
            clear v20 v21
            replace HM := Lib.hid (HM.out.draw hD)
            replace HR := Lib.hid (row_chg HR.out (by have := HM.out.sbl; omega) hD.2)
            clear hD
            go_wp2_with fail
            refine hK.out _ _ HR.out (fun hHeld2 => ?_)
            clear hK hHeld
            have hHeld := hHeld2
            clear hHeld2
            refine takeL_call (i := 6) rfl (by kernel_rfl) (fun K2 hK => ?_)
            obtain ⟨Z7, hZ7⟩ : ∃ Z7, Z7 = Z6.alloc (.cells #[.int .i64 1, .int .i64 1, .int .i64 1, .int .i64 0, .int .i64 2] 2) := ⟨_, rfl⟩
            have hb : Below Z6.heap.size Z6 Z7 := by rw [hZ7]; exact nbel_alloc _ _
            obtain ⟨gq, hgq⟩ : ∃ gq, gq = Z6.heap.size := ⟨_, rfl⟩
            have HQ : Hid (Z7.rowIs gq 2 5 (rowN [.int .i64 1, .int .i64 1, .int .i64 1, .int .i64 0, .int .i64 2])) := by show World.rowIs _ _ _ _ _; rw [hZ7, hgq]; exact rowN_alloc _ _ _
            have HQL : Hid (w.heap.size ≤ gq) := by show _ ≤ _; rw [hgq]; exact HM.out.src.2.size
            replace HM := Lib.hid (HM.out.below hb)
            replace HR := Lib.hid (nrow_below HR.out hb)
            go_simp
            rw [← hZ7, ← hgq]
            refine hK.out _ _ HR.out (fun hHeld2 => ?_)
            clear hK hHeld
            have hHeld := hHeld2
            clear hHeld2
            clear hb hZ7 hgq
            refine takeL_do (i := 9) (v := (.pointer (some ⟨gq, v2.toNat, none⟩))) rfl (by kernel_rfl) (by kernel_rfl) (by kernel_rfl) (by kernel_rfl) (fun _ _ _ h => h) (by rfl) ?_ (by assumption) ?_
            · intro w hSw
              skip
              go_simp
              try (intro hq; exfalso; omega)
            simp only [Act.put, List.setIfInBounds_toArray, List.set_cons_zero, List.set_cons_succ]
            refine takeL_call (i := 10) rfl (by kernel_rfl) (fun K2 hK => ?_)
            obtain ⟨V, hV⟩ : ∃ V : Int, Z7.cell? ⟨gq, v2.toNat, none⟩ = some (.int .i64 V) := by
              obtain ⟨⟨c0, c1, c2, c3, c4⟩, _⟩ := rowN5 HQ.out
              have h5 : v2.toNat = 0 ∨ v2.toNat = 1 ∨ v2.toNat = 2 ∨ v2.toNat = 3 ∨ v2.toNat = 4 := by omega
              rcases h5 with h | h | h | h | h <;> rw [h]
              · exact ⟨_, c0⟩
              · exact ⟨_, c1⟩
              · exact ⟨_, c2⟩
              · exact ⟨_, c3⟩
              · exact ⟨_, c4⟩
            go_simp
            refine hK.out _ _ HR.out (fun hHeld2 => ?_)
            clear hK hHeld
            have hHeld := hHeld2
            clear hHeld2
            clear hV HQ HQL
            refine takeL_do (i := 11) (v := (.agg #[.int .i64 v1, .int .i64 i, .int .i64 V])) rfl (by kernel_rfl) (by kernel_rfl) (by kernel_rfl) (by kernel_rfl) (fun _ _ _ h => h) (by rfl) ?_ (by assumption) ?_
            · intro w hSw
              skip
              go_simp
            simp only [Act.put, List.setIfInBounds_toArray, List.set_cons_zero, List.set_cons_succ]
            refine takeL_call (i := 12) rfl (by kernel_rfl) (fun K2 hK => ?_)
            obtain ⟨Z8, hZ8⟩ : ∃ Z8, Z8 = Z7.alloc (.cells #[.int .i64 v1, .int .i64 i, .int .i64 V] 32) := ⟨_, rfl⟩
            have hb : Below Z7.heap.size Z7 Z8 := by rw [hZ8]; exact nbel_alloc _ _
            obtain ⟨gs, hgs⟩ : ∃ gs, gs = Z7.heap.size := ⟨_, rfl⟩
            have HL : Hid (Z8.rowIs gs 32 3 (rowN [.int .i64 v1, .int .i64 i, .int .i64 V])) := by show World.rowIs _ _ _ _ _; rw [hZ8, hgs]; exact rowN_alloc _ _ _
            replace HM := Lib.hid (HM.out.below hb)
            replace HR := Lib.hid (nrow_below HR.out hb)
            go_simp
            rw [← hZ8, ← hgs]
            refine hK.out _ _ HR.out (fun hHeld2 => ?_)
            clear hK hHeld
            have hHeld := hHeld2
            clear hHeld2
            clear hb hZ8 hgs
            refine takeL_call (i := 13) rfl (by kernel_rfl) (fun K2 hK => ?_)
            obtain ⟨zs, hown⟩ := HM.out.ro
            refine dyap rfl (.tmp 32) (.tmp 43) 23 rfl (w.heap.size) 32 j0 (.agg #[.int .i64 0, .int .i64 0, .int .i64 0]) 3 24 Try.underlying23 hj0 hj1 hj2 hj3 rfl (by decide) (.slice ra rn rc) rn _ rfl hown ⟨gs, 0, none⟩ 1 1 [.int .i64 v1, .int .i64 i, .int .i64 V] rfl rfl ?_ ?_ (by unfold maxLen; omega) (by omega) (by have := HM.out.src.2.size; omega) ?_
            · obtain ⟨⟨c0, c1, c2⟩, _⟩ := rowN3 HL.out
              intro j u hj
              match j, hj with
              | 0, hj => simp at hj; subst hj; simpa [Addr.add] using c0
              | 1, hj => simp at hj; subst hj; simpa [Addr.add] using c1
              | 2, hj => simp at hj; subst hj; simpa [Addr.add] using c2
            · intro u hu
              simp at hu
              first | (subst hu; rfl) | (rcases hu with rfl | rfl | rfl <;> rfl)
            intro v' Z9 hown2 hgrow
            have hoz : OwZ 32 3 (w.heap.size) v' (rn + 1) Z9 := ⟨zs ++ ([(v1 : Int), (i : Int), (V : Int)] : List Int), by rw [List.map_append]; exact hown2⟩
            obtain ⟨a9, c9, rfl, _⟩ := hoz.shape
            have HOZ := Lib.hid hoz
            clear hoz
            replace HR := Lib.hid (row_grown HR.out HM.out.ro (by decide) hgrow)
            replace HM := Lib.hid (HM.out.rows hgrow HOZ.out)
            refine hK.out _ _ HR.out (fun hHeld2 => ?_)
            clear hK hHeld hown hown2 hgrow HL HOZ
            have hHeld := hHeld2
            clear hHeld2
            simp only [Act.put, List.setIfInBounds_toArray, List.set_cons_zero, List.set_cons_succ]
            refine takeL_do (i := 14) (v := (.pointer (some ⟨w.heap.size + 1, 0, none⟩))) rfl (by kernel_rfl) (by kernel_rfl) (by kernel_rfl) (by kernel_rfl) (fun _ _ _ h => h) (by rfl) ?_ (by assumption) ?_
            · intro w hSw
              skip
              go_simp
            simp only [Act.put, List.setIfInBounds_toArray, List.set_cons_zero, List.set_cons_succ]
            obtain ⟨⟨o0, o1, o2⟩, z0, z1, z2⟩ := rowN3 HR.out
            have l0 := HR.out.lt
            obtain ⟨WZ, hWZ⟩ : ∃ WZ, WZ = Z9.setCell ⟨w.heap.size + 1, 0, none⟩ (.slice a9 (rn + 1) c9) := ⟨_, rfl⟩
            have HPX : Hid (PDx w sb (rn + 1) 0 hn WZ) := by
              refine ⟨(.slice a9 (rn + 1) c9), (.slice sa 0 sc), (.slice ha hn hc), ?_, ?_⟩
              · rw [hWZ]; exact HM.out.set HR.out (by omega) _
              · rw [hWZ]; exact rowN_put HR.out 0 _ (by simp)
            have HWZ := Lib.hid hWZ
            clear hWZ
            refine takeL_last rfl (by kernel_rfl) (by kernel_rfl) (fun K2 hK => ?_)
            go_simp
            rw [← HWZ.out]
            refine hK.out _ _ ?_
            clear hK hHeld HWZ o0 o1 o2 z0 z1 z2 l0 HM HR
            go_wp2_with fail
            go_meet
            exact HPX
        · obtain ⟨Z10, hZ10⟩ : ∃ Z10, Z10 = Z.alloc (.cells #[.int .i64 1, .int .i64 1, .int .i64 1, .int .i64 0, .int .i64 2] 2) := ⟨_, rfl⟩
          have hb : Below Z.heap.size Z Z10 := by rw [hZ10]; exact nbel_alloc _ _
          obtain ⟨gq, hgq⟩ : ∃ gq, gq = Z.heap.size := ⟨_, rfl⟩
          have HQ : Hid (Z10.rowIs gq 2 5 (rowN [.int .i64 1, .int .i64 1, .int .i64 1, .int .i64 0, .int .i64 2])) := by show World.rowIs _ _ _ _ _; rw [hZ10, hgq]; exact rowN_alloc _ _ _
          have HQL : Hid (w.heap.size ≤ gq) := by show _ ≤ _; rw [hgq]; exact HM.out.src.2.size
          replace HM := Lib.hid (HM.out.below hb)
          replace HR := Lib.hid (nrow_below HR.out hb)
          go_simp
          rw [← hZ10, ← hgq]
          refine hK.out _ _ HR.out (fun hHeld2 => ?_)
          clear hK hHeld
          have hHeld := hHeld2
          clear hHeld2
          clear hb hZ10 hgq
          refine takeL_call (i := 4) rfl (by kernel_rfl) (fun K2 hK => ?_)
          go_simp
          refine (n_any sb i _ HM.out.src.1 (by omega)).mono ?_
          rintro e Z11 ⟨⟨v1, rfl, v10, v11, _⟩, hD⟩
          have v1b : 0 ≤ v1 := by omega
          clear v10 v11
          replace HM := Lib.hid (HM.out.draw hD)
          replace HR := Lib.hid (row_chg HR.out (by have := HM.out.sbl; omega) hD.2)
          replace HQ := Lib.hid (row_chg HQ.out (by have := HM.out.sbl; have := HQL.out; omega) hD.2)
          clear hD
          go_wp2_with fail
          refine hK.out _ _ HR.out (fun hHeld2 => ?_)
          clear hK hHeld
          have hHeld := hHeld2
          clear hHeld2
          refine takeL_call (i := 8) rfl (by kernel_rfl) (fun K2 hK => ?_)
          go_simp
          refine (n_any sb 5 _ HM.out.src.1 (by omega)).mono ?_
          rintro e Z12 ⟨⟨v2, rfl, v20, v21, _⟩, hD⟩
          have v2b : 0 ≤ v2 ∧ v2 < 5 := by have := v21 (by omega); omega
          clear v20 v21
          replace HM := Lib.hid (HM.out.draw hD)
          replace HR := Lib.hid (row_chg HR.out (by have := HM.out.sbl; omega) hD.2)
          replace HQ := Lib.hid (row_chg HQ.out (by have := HM.out.sbl; have := HQL.out; omega) hD.2)
          clear hD
          go_wp2_with fail
          refine hK.out _ _ HR.out (fun hHeld2 => ?_)
          clear hK hHeld
          have hHeld := hHeld2
          clear hHeld2
          refine takeL_do (i := 9) (v := (.pointer (some ⟨gq, v2.toNat, none⟩))) rfl (by kernel_rfl) (by kernel_rfl) (by kernel_rfl) (by kernel_rfl) (fun _ _ _ h => h) (by rfl) ?_ (by assumption) ?_
          · intro w hSw
            skip
            go_simp
            try (intro hq; exfalso; omega)
          simp only [Act.put, List.setIfInBounds_toArray, List.set_cons_zero, List.set_cons_succ]
          refine takeL_call (i := 10) rfl (by kernel_rfl) (fun K2 hK => ?_)
          obtain ⟨V, hV⟩ : ∃ V : Int, Z12.cell? ⟨gq, v2.toNat, none⟩ = some (.int .i64 V) := by
            obtain ⟨⟨c0, c1, c2, c3, c4⟩, _⟩ := rowN5 HQ.out
            have h5 : v2.toNat = 0 ∨ v2.toNat = 1 ∨ v2.toNat = 2 ∨ v2.toNat = 3 ∨ v2.toNat = 4 := by omega
            rcases h5 with h | h | h | h | h <;> rw [h]
            · exact ⟨_, c0⟩
            · exact ⟨_, c1⟩
            · exact ⟨_, c2⟩
            · exact ⟨_, c3⟩
            · exact ⟨_, c4⟩
          go_simp
          refine hK.out _ _ HR.out (fun hHeld2 => ?_)
          clear hK hHeld
          have hHeld := hHeld2
          clear hHeld2
          clear hV HQ HQL
          refine takeL_do (i := 11) (v := (.agg #[.int .i64 v1, .int .i64 i, .int .i64 V])) rfl (by kernel_rfl) (by kernel_rfl) (by kernel_rfl) (by kernel_rfl) (fun _ _ _ h => h) (by rfl) ?_ (by assumption) ?_
          · intro w hSw
            skip
            go_simp
          simp only [Act.put, List.setIfInBounds_toArray, List.set_cons_zero, List.set_cons_succ]
          refine takeL_call (i := 12) rfl (by kernel_rfl) (fun K2 hK => ?_)
          obtain ⟨Z13, hZ13⟩ : ∃ Z13, Z13 = Z12.alloc (.cells #[.int .i64 v1, .int .i64 i, .int .i64 V] 32) := ⟨_, rfl⟩
          have hb : Below Z12.heap.size Z12 Z13 := by rw [hZ13]; exact nbel_alloc _ _
          obtain ⟨gs, hgs⟩ : ∃ gs, gs = Z12.heap.size := ⟨_, rfl⟩
          have HL : Hid (Z13.rowIs gs 32 3 (rowN [.int .i64 v1, .int .i64 i, .int .i64 V])) := by show World.rowIs _ _ _ _ _; rw [hZ13, hgs]; exact rowN_alloc _ _ _
          replace HM := Lib.hid (HM.out.below hb)
          replace HR := Lib.hid (nrow_below HR.out hb)
          go_simp
          rw [← hZ13, ← hgs]
          refine hK.out _ _ HR.out (fun hHeld2 => ?_)
          clear hK hHeld
          have hHeld := hHeld2
          clear hHeld2
          clear hb hZ13 hgs
          refine takeL_call (i := 13) rfl (by kernel_rfl) (fun K2 hK => ?_)
          obtain ⟨zs, hown⟩ := HM.out.ro
          refine dyap rfl (.tmp 32) (.tmp 43) 23 rfl (w.heap.size) 32 j0 (.agg #[.int .i64 0, .int .i64 0, .int .i64 0]) 3 24 Try.underlying23 hj0 hj1 hj2 hj3 rfl (by decide) (.slice ra rn rc) rn _ rfl hown ⟨gs, 0, none⟩ 1 1 [.int .i64 v1, .int .i64 i, .int .i64 V] rfl rfl ?_ ?_ (by unfold maxLen; omega) (by omega) (by have := HM.out.src.2.size; omega) ?_
          · obtain ⟨⟨c0, c1, c2⟩, _⟩ := rowN3 HL.out
            intro j u hj
            match j, hj with
            | 0, hj => simp at hj; subst hj; simpa [Addr.add] using c0
            | 1, hj => simp at hj; subst hj; simpa [Addr.add] using c1
            | 2, hj => simp at hj; subst hj; simpa [Addr.add] using c2
          · intro u hu
            simp at hu
            first | (subst hu; rfl) | (rcases hu with rfl | rfl | rfl <;> rfl)
          intro v' Z14 hown2 hgrow
          have hoz : OwZ 32 3 (w.heap.size) v' (rn + 1) Z14 := ⟨zs ++ ([(v1 : Int), (i : Int), (V : Int)] : List Int), by rw [List.map_append]; exact hown2⟩
          obtain ⟨a9, c9, rfl, _⟩ := hoz.shape
          have HOZ := Lib.hid hoz
          clear hoz
          replace HR := Lib.hid (row_grown HR.out HM.out.ro (by decide) hgrow)
          replace HM := Lib.hid (HM.out.rows hgrow HOZ.out)
          refine hK.out _ _ HR.out (fun hHeld2 => ?_)
          clear hK hHeld hown hown2 hgrow HL HOZ
          have hHeld := hHeld2
          clear hHeld2
          simp only [Act.put, List.setIfInBounds_toArray, List.set_cons_zero, List.set_cons_succ]
          refine takeL_do (i := 14) (v := (.pointer (some ⟨w.heap.size + 1, 0, none⟩))) rfl (by kernel_rfl) (by kernel_rfl) (by kernel_rfl) (by kernel_rfl) (fun _ _ _ h => h) (by rfl) ?_ (by assumption) ?_
          · intro w hSw
            skip
            go_simp
          simp only [Act.put, List.setIfInBounds_toArray, List.set_cons_zero, List.set_cons_succ]
          obtain ⟨⟨o0, o1, o2⟩, z0, z1, z2⟩ := rowN3 HR.out
          have l0 := HR.out.lt
          obtain ⟨WZ, hWZ⟩ : ∃ WZ, WZ = Z14.setCell ⟨w.heap.size + 1, 0, none⟩ (.slice a9 (rn + 1) c9) := ⟨_, rfl⟩
          have HPX : Hid (PDx w sb (rn + 1) 0 hn WZ) := by
            refine ⟨(.slice a9 (rn + 1) c9), (.slice sa 0 sc), (.slice ha hn hc), ?_, ?_⟩
            · rw [hWZ]; exact HM.out.set HR.out (by omega) _
            · rw [hWZ]; exact rowN_put HR.out 0 _ (by simp)
          have HWZ := Lib.hid hWZ
          clear hWZ
          refine takeL_last rfl (by kernel_rfl) (by kernel_rfl) (fun K2 hK => ?_)
          go_simp
          rw [← HWZ.out]
          refine hK.out _ _ ?_
          clear hK hHeld HWZ o0 o1 o2 z0 z1 z2 l0 HM HR
          go_wp2_with fail
          go_meet
          exact HPX
      case rest =>
      have HP9 := hcut
      clear hcut HM HR
      obtain ⟨W9, hW9⟩ : ∃ W9, W9 = wc := ⟨_, rfl⟩
      rw [← hW9] at HP9 ⊢
      clear hW9
      go_wp2_with fail
      refine (one_any sb 2 _ HP9.out.src (by omega)).mono ?_
      rintro e wa ⟨⟨b2, rfl⟩, hD⟩
      replace HP9 := Lib.hid (HP9.out.draw hD)
      clear hD
      cases b2 with
      | false =>
        go_wp2_with fail
        go_roundw
        case rel => exact ⟨i + 1, rn + 1, by go_num, by omega, by omega, by omega, by rw [← hhn]; exact HP9⟩
        case measure => simp [intOf]; omega
      | true =>
        go_wp2_with fail
        refine (n_any sb N _ HP9.out.src (by omega)).mono ?_
        rintro e wb ⟨⟨q, rfl, qb0, qb1, _⟩, hD⟩
        have hqN : q < (N : Int) := qb1 (by omega)
        replace HP9 := Lib.hid (HP9.out.draw hD)
        clear hD qb1
        by_cases hqi : q = (i : Int)
        · have hqi' : (q != (i : Int)) = false := by simp [hqi]
          go_wp2_with fail
          go_roundw
          case rel => exact ⟨i + 1, rn + 1, by go_num, by omega, by omega, by omega, by rw [← hhn]; exact HP9⟩
          case measure => simp [intOf]; omega
        have hqi' : (q != (i : Int)) = true := by simp [hqi]
        obtain ⟨rk, hrk⟩ : ∃ rk, rk = rn + 1 := ⟨_, rfl⟩
        rw [← hrk] at HP9
        have hrkb : rk + 1 ≤ 2 * i := by omega
        clear hrk
        obtain ⟨rv, sv, hv, hM, hR⟩ := HP9.out
        obtain ⟨ra, rc, rfl, _⟩ := hM.ro.shape
        obtain ⟨sa, sc, rfl, _⟩ := hM.so.shape
        obtain ⟨ha, hc, rfl, _⟩ := hM.ho.shape
        have HM := Lib.hid hM
        have HR := Lib.hid hR
        obtain ⟨WW, hWW⟩ : ∃ WW, WW = wb := ⟨_, rfl⟩
        rw [← hWW] at HM HR ⊢
        clear HP9 hM hR hWW hqi
        go_wp2_with fail
        refine region_L (fun V => V.rowIs (w.heap.size + 1) 26 3 (rowN [(.slice ra rk rc), (.slice sa 0 sc), (.slice ha hn hc)])) 13 (by kernel_rfl) (nrow_below HR.out (Below.refl _ _).drew) (fun hHeld => ?_)
        obtain ⟨Z, hZ⟩ : ∃ Z, Z = WW.drew := ⟨_, rfl⟩
        replace HM : Hid (PM w sb (.slice ra rk rc) (.slice sa 0 sc) (.slice ha hn hc) rk 0 hn Z) := by show PM _ _ _ _ _ _ _ _ _; rw [hZ]; exact HM.out.below (Below.refl _ _).drew
        replace HR : Hid (Z.rowIs (w.heap.size + 1) 26 3 (rowN [(.slice ra rk rc), (.slice sa 0 sc), (.slice ha hn hc)])) := by show World.rowIs _ _ _ _ _; rw [hZ]; exact nrow_below HR.out (Below.refl _ _).drew
        rw [← hZ] at hHeld ⊢
        clear hZ
        refine takeL_do (i := 0) (v := (.pointer (some ⟨w.heap.size + 1, 0, none⟩))) rfl (by kernel_rfl) (by kernel_rfl) (by kernel_rfl) (by kernel_rfl) (fun _ _ _ h => h) (by rfl) ?_ (by assumption) ?_
        · intro w hSw
          skip
          go_simp
        simp only [Act.put, List.setIfInBounds_toArray, List.set_cons_zero, List.set_cons_succ]
        refine takeL_do (i := 1) (v := (.slice ra rk rc)) rfl (by kernel_rfl) (by kernel_rfl) (by kernel_rfl) (by kernel_rfl) (fun _ _ _ h => h) (by rfl) ?_ (by assumption) ?_
        · intro w hSw
          obtain ⟨⟨x0, x1, x2⟩, _⟩ := rowN3 hSw
          go_simp
        simp only [Act.put, List.setIfInBounds_toArray, List.set_cons_zero, List.set_cons_succ]
        refine takeL_do (i := 2) (v := (.int .i64 i)) rfl (by kernel_rfl) (by kernel_rfl) (by kernel_rfl) (by kernel_rfl) (fun _ _ _ h => h) (by rfl) ?_ (by assumption) ?_
        · intro w hSw
          skip
          go_simp
        simp only [Act.put, List.setIfInBounds_toArray, List.set_cons_zero, List.set_cons_succ]
        refine takeL_do (i := 3) (v := (.int .i64 q)) rfl (by kernel_rfl) (by kernel_rfl) (by kernel_rfl) (by kernel_rfl) (fun _ _ _ h => h) (by rfl) ?_ (by assumption) ?_
        · intro w hSw
          skip
          go_simp
        simp only [Act.put, List.setIfInBounds_toArray, List.set_cons_zero, List.set_cons_succ]
        refine takeL_do (i := 5) (v := (.pointer (some ⟨sb, 0, none⟩))) rfl (by kernel_rfl) (by kernel_rfl) (by kernel_rfl) (by kernel_rfl) (fun _ _ _ h => h) (by rfl) ?_ (by assumption) ?_
        · intro w hSw
          skip
          go_simp
        simp only [Act.put, List.setIfInBounds_toArray, List.set_cons_zero, List.set_cons_succ]
        refine L_ready (rs := [4, 6]) (by kernel_rfl) (by simp) (AllL.cons (i := 4) rfl (fun K2 hK => ?_) (AllL.cons (i := 6) rfl (fun K2 hK => ?_) AllL.nil))
        · obtain ⟨Z15, hZ15⟩ : ∃ Z15, Z15 = Z.alloc (.cells #[.int .i64 1, .int .i64 1, .int .i64 1, .int .i64 0, .int .i64 2] 2) := ⟨_, rfl⟩
          have hb : Below Z.heap.size Z Z15 := by rw [hZ15]; exact nbel_alloc _ _
          obtain ⟨gq, hgq⟩ : ∃ gq, gq = Z.heap.size := ⟨_, rfl⟩
          have HQ : Hid (Z15.rowIs gq 2 5 (rowN [.int .i64 1, .int .i64 1, .int .i64 1, .int .i64 0, .int .i64 2])) := by show World.rowIs _ _ _ _ _; rw [hZ15, hgq]; exact rowN_alloc _ _ _
          have HQL : Hid (w.heap.size ≤ gq) := by show _ ≤ _; rw [hgq]; exact HM.out.src.2.size
          replace HM := Lib.hid (HM.out.below hb)
          replace HR := Lib.hid (nrow_below HR.out hb)
          go_simp
          rw [← hZ15, ← hgq]
          refine hK.out _ _ HR.out (fun hHeld2 => ?_)
          clear hK hHeld
          have hHeld := hHeld2
          clear hHeld2
          clear hb hZ15 hgq
          refine takeL_call (i := 6) rfl (by kernel_rfl) (fun K2 hK => ?_)
          go_simp
          refine (n_any sb 5 _ HM.out.src.1 (by omega)).mono ?_
          rintro e Z16 ⟨⟨v2, rfl, v20, v21, _⟩, hD⟩
          have v2b : 0 ≤ v2 ∧ v2 < 5 := by have := v21 (by omega); omega
          clear v20 v21
          replace HM := Lib.hid (HM.out.draw hD)
          replace HR := Lib.hid (row_chg HR.out (by have := HM.out.sbl; omega) hD.2)
          replace HQ := Lib.hid (row_chg HQ.out (by have := HM.out.sbl; have := HQL.out; omega) hD.2)
          clear hD
          go_wp2_with fail
          refine hK.out _ _ HR.out (fun hHeld2 => ?_)
          clear hK hHeld
          have hHeld := hHeld2
          clear hHeld2
          refine takeL_do (i := 7) (v := (.pointer (some ⟨gq, v2.toNat, none⟩))) rfl (by kernel_rfl) (by kernel_rfl) (by kernel_rfl) (by kernel_rfl) (fun _ _ _ h => h) (by rfl) ?_ (by assumption) ?_
          · intro w hSw
            skip
            go_simp
            try (intro hq; exfalso; omega)
          simp only [Act.put, List.setIfInBounds_toArray, List.set_cons_zero, List.set_cons_succ]
          refine takeL_call (i := 8) rfl (by kernel_rfl) (fun K2 hK => ?_)
          obtain ⟨V, hV⟩ : ∃ V : Int, Z16.cell? ⟨gq, v2.toNat, none⟩ = some (.int .i64 V) := by
            obtain ⟨⟨c0, c1, c2, c3, c4⟩, _⟩ := rowN5 HQ.out
            have h5 : v2.toNat = 0 ∨ v2.toNat = 1 ∨ v2.toNat = 2 ∨ v2.toNat = 3 ∨ v2.toNat = 4 := by omega
            rcases h5 with h | h | h | h | h <;> rw [h]
            · exact ⟨_, c0⟩
            · exact ⟨_, c1⟩
            · exact ⟨_, c2⟩
            · exact ⟨_, c3⟩
            · exact ⟨_, c4⟩
          go_simp
          refine hK.out _ _ HR.out (fun hHeld2 => ?_)
          clear hK hHeld
          have hHeld := hHeld2
          clear hHeld2
          clear hV HQ HQL
          refine takeL_do (i := 9) (v := (.agg #[.int .i64 i, .int .i64 q, .int .i64 V])) rfl (by kernel_rfl) (by kernel_rfl) (by kernel_rfl) (by kernel_rfl) (fun _ _ _ h => h) (by rfl) ?_ (by assumption) ?_
          · intro w hSw
            skip
            go_simp
          simp only [Act.put, List.setIfInBounds_toArray, List.set_cons_zero, List.set_cons_succ]
          refine takeL_call (i := 10) rfl (by kernel_rfl) (fun K2 hK => ?_)
          obtain ⟨Z19, hZ19⟩ : ∃ Z19, Z19 = Z16.alloc (.cells #[.int .i64 i, .int .i64 q, .int .i64 V] 32) := ⟨_, rfl⟩
          have hb : Below Z16.heap.size Z16 Z19 := by rw [hZ19]; exact nbel_alloc _ _
          obtain ⟨gs, hgs⟩ : ∃ gs, gs = Z16.heap.size := ⟨_, rfl⟩
          have HL : Hid (Z19.rowIs gs 32 3 (rowN [.int .i64 i, .int .i64 q, .int .i64 V])) := by show World.rowIs _ _ _ _ _; rw [hZ19, hgs]; exact rowN_alloc _ _ _
          replace HM := Lib.hid (HM.out.below hb)
          replace HR := Lib.hid (nrow_below HR.out hb)
          go_simp
          rw [← hZ19, ← hgs]
          refine hK.out _ _ HR.out (fun hHeld2 => ?_)
          clear hK hHeld
          have hHeld := hHeld2
          clear hHeld2
          clear hb hZ19 hgs
          refine takeL_call (i := 11) rfl (by kernel_rfl) (fun K2 hK => ?_)
          obtain ⟨zs, hown⟩ := HM.out.ro
          refine dyap rfl (.tmp 55) (.tmp 64) 23 rfl (w.heap.size) 32 j0 (.agg #[.int .i64 0, .int .i64 0, .int .i64 0]) 3 24 Try.underlying23 hj0 hj1 hj2 hj3 rfl (by decide) (.slice ra rk rc) rk _ rfl hown ⟨gs, 0, none⟩ 1 1 [.int .i64 i, .int .i64 q, .int .i64 V] rfl rfl ?_ ?_ (by unfold maxLen; omega) (by omega) (by have := HM.out.src.2.size; omega) ?_
          · obtain ⟨⟨c0, c1, c2⟩, _⟩ := rowN3 HL.out
            intro j u hj
            match j, hj with
            | 0, hj => simp at hj; subst hj; simpa [Addr.add] using c0
            | 1, hj => simp at hj; subst hj; simpa [Addr.add] using c1
            | 2, hj => simp at hj; subst hj; simpa [Addr.add] using c2
          · intro u hu
            simp at hu
            first | (subst hu; rfl) | (rcases hu with rfl | rfl | rfl <;> rfl)
          intro v' Z20 hown2 hgrow
          have hoz : OwZ 32 3 (w.heap.size) v' (rk + 1) Z20 := ⟨zs ++ ([(i : Int), (q : Int), (V : Int)] : List Int), by rw [List.map_append]; exact hown2⟩
          obtain ⟨a9, c9, rfl, _⟩ := hoz.shape
          have HOZ := Lib.hid hoz
          clear hoz
          replace HR := Lib.hid (row_grown HR.out HM.out.ro (by decide) hgrow)
          replace HM := Lib.hid (HM.out.rows hgrow HOZ.out)
          refine hK.out _ _ HR.out (fun hHeld2 => ?_)
          clear hK hHeld hown hown2 hgrow HL HOZ
          have hHeld := hHeld2
          clear hHeld2
          simp only [Act.put, List.setIfInBounds_toArray, List.set_cons_zero, List.set_cons_succ]
          refine takeL_do (i := 12) (v := (.pointer (some ⟨w.heap.size + 1, 0, none⟩))) rfl (by kernel_rfl) (by kernel_rfl) (by kernel_rfl) (by kernel_rfl) (fun _ _ _ h => h) (by rfl) ?_ (by assumption) ?_
          · intro w hSw
            skip
            go_simp
          simp only [Act.put, List.setIfInBounds_toArray, List.set_cons_zero, List.set_cons_succ]
          obtain ⟨⟨o0, o1, o2⟩, z0, z1, z2⟩ := rowN3 HR.out
          have l0 := HR.out.lt
          obtain ⟨WZ, hWZ⟩ : ∃ WZ, WZ = Z20.setCell ⟨w.heap.size + 1, 0, none⟩ (.slice a9 (rk + 1) c9) := ⟨_, rfl⟩
          have HPX : Hid (PDx w sb (rk + 1) 0 hn WZ) := by
            refine ⟨(.slice a9 (rk + 1) c9), (.slice sa 0 sc), (.slice ha hn hc), ?_, ?_⟩
            · rw [hWZ]; exact HM.out.set HR.out (by omega) _
            · rw [hWZ]; exact rowN_put HR.out 0 _ (by simp)
          have HWZ := Lib.hid hWZ
          clear hWZ
          refine takeL_last rfl (by kernel_rfl) (by kernel_rfl) (fun K2 hK => ?_)
          go_simp
          rw [← HWZ.out]
          refine hK.out _ _ ?_
          clear hK hHeld HWZ o0 o1 o2 z0 z1 z2 l0 HM HR
          go_wp2_with fail
          go_roundw
          case rel => exact ⟨i + 1, rk + 1, by go_num, by omega, by omega, by omega, by rw [← hhn]; exact HPX⟩
          case measure => simp [intOf]; omega
        · go_simp
          refine (n_any sb 5 _ HM.out.src.1 (by omega)).mono ?_
          rintro e Z17 ⟨⟨v2, rfl, v20, v21, _⟩, hD⟩
          have v2b : 0 ≤ v2 ∧ v2 < 5 := by have := v21 (by omega); omega
          clear v20 v21
          replace HM := Lib.hid (HM.out.draw hD)
          replace HR := Lib.hid (row_chg HR.out (by have := HM.out.sbl; omega) hD.2)
          clear hD
          go_wp2_with fail
          refine hK.out _ _ HR.out (fun hHeld2 => ?_)
          clear hK hHeld
          have hHeld := hHeld2
          clear hHeld2
          refine takeL_call (i := 4) rfl (by kernel_rfl) (fun K2 hK => ?_)
          obtain ⟨Z18, hZ18⟩ : ∃ Z18, Z18 = Z17.alloc (.cells #[.int .i64 1, .int .i64 1, .int .i64 1, .int .i64 0, .int .i64 2] 2) := ⟨_, rfl⟩
          have hb : Below Z17.heap.size Z17 Z18 := by rw [hZ18]; exact nbel_alloc _ _
          obtain ⟨gq, hgq⟩ : ∃ gq, gq = Z17.heap.size := ⟨_, rfl⟩
          have HQ : Hid (Z18.rowIs gq 2 5 (rowN [.int .i64 1, .int .i64 1, .int .i64 1, .int .i64 0, .int .i64 2])) := by show World.rowIs _ _ _ _ _; rw [hZ18, hgq]; exact rowN_alloc _ _ _
          have HQL : Hid (w.heap.size ≤ gq) := by show _ ≤ _; rw [hgq]; exact HM.out.src.2.size
          replace HM := Lib.hid (HM.out.below hb)
          replace HR := Lib.hid (nrow_below HR.out hb)
          go_simp
          rw [← hZ18, ← hgq]
          refine hK.out _ _ HR.out (fun hHeld2 => ?_)
          clear hK hHeld
          have hHeld := hHeld2
          clear hHeld2
          clear hb hZ18 hgq
          refine takeL_do (i := 7) (v := (.pointer (some ⟨gq, v2.toNat, none⟩))) rfl (by kernel_rfl) (by kernel_rfl) (by kernel_rfl) (by kernel_rfl) (fun _ _ _ h => h) (by rfl) ?_ (by assumption) ?_
          · intro w hSw
            skip
            go_simp
            try (intro hq; exfalso; omega)
          simp only [Act.put, List.setIfInBounds_toArray, List.set_cons_zero, List.set_cons_succ]
          refine takeL_call (i := 8) rfl (by kernel_rfl) (fun K2 hK => ?_)
          obtain ⟨V, hV⟩ : ∃ V : Int, Z18.cell? ⟨gq, v2.toNat, none⟩ = some (.int .i64 V) := by
            obtain ⟨⟨c0, c1, c2, c3, c4⟩, _⟩ := rowN5 HQ.out
            have h5 : v2.toNat = 0 ∨ v2.toNat = 1 ∨ v2.toNat = 2 ∨ v2.toNat = 3 ∨ v2.toNat = 4 := by omega
            rcases h5 with h | h | h | h | h <;> rw [h]
            · exact ⟨_, c0⟩
            · exact ⟨_, c1⟩
            · exact ⟨_, c2⟩
            · exact ⟨_, c3⟩
            · exact ⟨_, c4⟩
          go_simp
          refine hK.out _ _ HR.out (fun hHeld2 => ?_)
          clear hK hHeld
          have hHeld := hHeld2
          clear hHeld2
          clear hV HQ HQL
          refine takeL_do (i := 9) (v := (.agg #[.int .i64 i, .int .i64 q, .int .i64 V])) rfl (by kernel_rfl) (by kernel_rfl) (by kernel_rfl) (by kernel_rfl) (fun _ _ _ h => h) (by rfl) ?_ (by assumption) ?_
          · intro w hSw
            skip
            go_simp
          simp only [Act.put, List.setIfInBounds_toArray, List.set_cons_zero, List.set_cons_succ]
          refine takeL_call (i := 10) rfl (by kernel_rfl) (fun K2 hK => ?_)
          obtain ⟨Z21, hZ21⟩ : ∃ Z21, Z21 = Z18.alloc (.cells #[.int .i64 i, .int .i64 q, .int .i64 V] 32) := ⟨_, rfl⟩
          have hb : Below Z18.heap.size Z18 Z21 := by rw [hZ21]; exact nbel_alloc _ _
          obtain ⟨gs, hgs⟩ : ∃ gs, gs = Z18.heap.size := ⟨_, rfl⟩
          have HL : Hid (Z21.rowIs gs 32 3 (rowN [.int .i64 i, .int .i64 q, .int .i64 V])) := by show World.rowIs _ _ _ _ _; rw [hZ21, hgs]; exact rowN_alloc _ _ _
          replace HM := Lib.hid (HM.out.below hb)
          replace HR := Lib.hid (nrow_below HR.out hb)
          go_simp
          rw [← hZ21, ← hgs]
          refine hK.out _ _ HR.out (fun hHeld2 => ?_)
          clear hK hHeld
          have hHeld := hHeld2
          clear hHeld2
          clear hb hZ21 hgs
          refine takeL_call (i := 11) rfl (by kernel_rfl) (fun K2 hK => ?_)
          obtain ⟨zs, hown⟩ := HM.out.ro
          refine dyap rfl (.tmp 55) (.tmp 64) 23 rfl (w.heap.size) 32 j0 (.agg #[.int .i64 0, .int .i64 0, .int .i64 0]) 3 24 Try.underlying23 hj0 hj1 hj2 hj3 rfl (by decide) (.slice ra rk rc) rk _ rfl hown ⟨gs, 0, none⟩ 1 1 [.int .i64 i, .int .i64 q, .int .i64 V] rfl rfl ?_ ?_ (by unfold maxLen; omega) (by omega) (by have := HM.out.src.2.size; omega) ?_
          · obtain ⟨⟨c0, c1, c2⟩, _⟩ := rowN3 HL.out
            intro j u hj
            match j, hj with
            | 0, hj => simp at hj; subst hj; simpa [Addr.add] using c0
            | 1, hj => simp at hj; subst hj; simpa [Addr.add] using c1
            | 2, hj => simp at hj; subst hj; simpa [Addr.add] using c2
          · intro u hu
            simp at hu
            first | (subst hu; rfl) | (rcases hu with rfl | rfl | rfl <;> rfl)
          intro v' Z22 hown2 hgrow
          have hoz : OwZ 32 3 (w.heap.size) v' (rk + 1) Z22 := ⟨zs ++ ([(i : Int), (q : Int), (V : Int)] : List Int), by rw [List.map_append]; exact hown2⟩
          obtain ⟨a9, c9, rfl, _⟩ := hoz.shape
          have HOZ := Lib.hid hoz
          clear hoz
          replace HR := Lib.hid (row_grown HR.out HM.out.ro (by decide) hgrow)
          replace HM := Lib.hid (HM.out.rows hgrow HOZ.out)
          refine hK.out _ _ HR.out (fun hHeld2 => ?_)
          clear hK hHeld hown hown2 hgrow HL HOZ
          have hHeld := hHeld2
          clear hHeld2
          simp only [Act.put, List.setIfInBounds_toArray, List.set_cons_zero, List.set_cons_succ]
          refine takeL_do (i := 12) (v := (.pointer (some ⟨w.heap.size + 1, 0, none⟩))) rfl (by kernel_rfl) (by kernel_rfl) (by kernel_rfl) (by kernel_rfl) (fun _ _ _ h => h) (by rfl) ?_ (by assumption) ?_
          · intro w hSw
            skip
            go_simp
          simp only [Act.put, List.setIfInBounds_toArray, List.set_cons_zero, List.set_cons_succ]
          obtain ⟨⟨o0, o1, o2⟩, z0, z1, z2⟩ := rowN3 HR.out
          have l0 := HR.out.lt
          obtain ⟨WZ, hWZ⟩ : ∃ WZ, WZ = Z22.setCell ⟨w.heap.size + 1, 0, none⟩ (.slice a9 (rk + 1) c9) := ⟨_, rfl⟩
          have HPX : Hid (PDx w sb (rk + 1) 0 hn WZ) := by
            refine ⟨(.slice a9 (rk + 1) c9), (.slice sa 0 sc), (.slice ha hn hc), ?_, ?_⟩
            · rw [hWZ]; exact HM.out.set HR.out (by omega) _
            · rw [hWZ]; exact rowN_put HR.out 0 _ (by simp)
          have HWZ := Lib.hid hWZ
          clear hWZ
          refine takeL_last rfl (by kernel_rfl) (by kernel_rfl) (fun K2 hK => ?_)
          go_simp
          rw [← HWZ.out]
          refine hK.out _ _ ?_
          clear hK hHeld HWZ o0 o1 o2 z0 z1 z2 l0 HM HR
          go_wp2_with fail
          go_roundw
          case rel => exact ⟨i + 1, rk + 1, by go_num, by omega, by omega, by omega, by rw [← hhn]; exact HPX⟩
          case measure => simp [intOf]; omega
    · obtain rfl : i = N := by omega
      have hrn2 : rn ≤ 100 := by omega
      have hnb : 2 ≤ hn ∧ hn ≤ 41 := by omega
      obtain ⟨rv, sv, hv, hM, hR⟩ := hP.out
      rw [← hhn] at hM
      obtain ⟨ra, rc, rfl, _⟩ := hM.ro.shape
      obtain ⟨sa, sc, rfl, _⟩ := hM.so.shape
      obtain ⟨ha, hc, rfl, _⟩ := hM.ho.shape
      have HM := Lib.hid hM
      have HR := Lib.hid hR
      clear hP hM hR hhn
      go_wp2_with fail
      refine (drising_any sb i i (by omega) (by omega) _ HM.out.src.1).mono ?_
      rintro e w6 ⟨vs, rfl, zs, hzl, hown, hD, _⟩
      obtain ⟨sn, hsn⟩ : ∃ sn, sn = zs.length := ⟨_, rfl⟩
      have hsnb : sn ≤ 41 := by omega
      have HSO : Hid (OwZ 2 1 wr.heap.size vs sn w6) := ⟨zs, by rw [hsn]; exact hown⟩
      have HHB : Hid (∀ k, (Value.slice ha hn hc).ownBlock = some k → k < wr.heap.size) := fun k e => (HM.out.ho.lt e).2
      have HZ6 : Hid (w.heap.size ≤ wr.heap.size ∧ wr.heap.size ≤ w6.heap.size) := ⟨HM.out.src.2.size, hD.2.size⟩
      replace HM := Lib.hid (HM.out.draw hD)
      replace HR := Lib.hid (row_chg HR.out (by omega) hD.2)
      clear hown hD hzl hsn
      obtain ⟨sa2, sc2, rfl, _⟩ := HSO.out.shape
      obtain ⟨⟨y0, y1, y2⟩, f0, f1, f2⟩ := rowN3 HR.out
      have hl0 := HR.out.lt
      obtain ⟨W7, hW7⟩ : ∃ W7, W7 = w6.setCell ⟨w.heap.size + 1, 1, none⟩ (.slice sa2 sn sc2) := ⟨_, rfl⟩
      have HM7 : Hid (PM w sb (.slice ra rn rc) (.slice sa2 sn sc2) (.slice ha hn hc) rn sn hn W7) := by
        show PM _ _ _ _ _ _ _ _ _
        rw [hW7]; exact (HM.out.anew HZ6.out.1 HZ6.out.2 HSO.out HHB.out).set HR.out (by omega) _
      have HR7 : Hid (W7.rowIs (w.heap.size + 1) 26 3 (rowN [.slice ra rn rc, .slice sa2 sn sc2, .slice ha hn hc])) := by show World.rowIs _ _ _ _ _; rw [hW7]; exact rowN_put HR.out 1 _ (by simp)
      have HW7 := Lib.hid hW7
      obtain ⟨⟨t0, t1, t2⟩, g0, g1, g2⟩ := rowN3 HR7.out
      clear hW7
      rw [HW7.out] at t0 t1 t2
      go_upto_region 15 with fail
      rw [← HW7.out]
      have HP7 : Hid (PDx w sb rn sn hn W7) := ⟨_, _, _, HM7.out, HR7.out⟩
      clear HW7 t0 t1 t2 g0 g1 g2 y0 y1 y2 f0 f1 f2 hl0 HM HR HSO HHB HZ6
      go_cut [80] from 72 to 79 (fun bv V => ∃ bb : Bool, bv = .bool bb ∧ Hid (PDx w sb rn sn hn V))
      case first =>
        obtain ⟨⟨t0, t1, t2⟩, g0, g1, g2⟩ := rowN3 HR7.out
        by_cases h0 : sn = 0
        · have h0' : ((sn : Int) == 0) = true := by simp [h0]
          clear h0
          go_wp2_with fail
          refine (one_any sb 8 _ HP7.out.src (by omega)).mono ?_
          rintro e w8 ⟨⟨b3, rfl⟩, hD⟩
          have HP8 := Lib.hid (HP7.out.draw hD)
          clear hD
          go_wp2_with fail
          go_meet
          case rel => exact ⟨_, rfl, HP8⟩
        · have h0' : ((sn : Int) == 0) = false := by simp [h0]
          clear h0
          go_wp2_with fail
          go_meet
          case rel => exact ⟨_, rfl, HP7⟩
      case rest =>
      obtain ⟨b4, rfl, HP8⟩ := hcut
      obtain ⟨W8, hW8⟩ : ∃ W8, W8 = wc := ⟨_, rfl⟩
      rw [← hW8] at HP8 ⊢
      clear hW8 HM7 HR7 HP7
      go_upto_if 80 with fail
      go_cut [] from 81 to 84 (fun V => ∃ sn : Nat, sn ≤ 41 ∧ Hid (PDx w sb rn sn hn V))
      case first =>
        cases b4 with
        | false =>
          go_wp2_with fail
          go_meet
          exact ⟨sn, hsnb, HP8⟩
        | true =>
          go_wp2_with fail
          refine (n_any sb 2 _ HP8.out.src (by omega)).mono ?_
          rintro e w9 ⟨⟨x, rfl, x0, x1, _⟩, hD⟩
          replace HP8 := Lib.hid (HP8.out.draw hD)
          clear hD
          obtain ⟨rv, sv, hv, hM, hR⟩ := HP8.out
          obtain ⟨W10, hW10⟩ : ∃ W10, W10 = w9.alloc (.cells #[.int .i64 x] 2) := ⟨_, rfl⟩
          have hb : Below w9.heap.size w9 W10 := by rw [hW10]; exact nbel_alloc _ _
          have hM2 := hM.below hb
          have hR2 := nrow_below hR hb
          have hso : OwZ 2 1 w9.heap.size (.slice (some ⟨w9.heap.size, 0, none⟩) 1 1) 1 W10 := by rw [hW10]; exact OwZ.made 2 1 w9 [x] rfl (Nat.le_refl _)
          have hpx : PDx w sb rn 1 hn (W10.setCell ⟨w.heap.size + 1, 1, none⟩ (.slice (some ⟨w9.heap.size, 0, none⟩) 1 1)) := ⟨rv, _, hv, (hM2.anew hM.src.2.size hb.size hso (fun k e => (hM.ho.lt e).2)).set hR2 (by omega) _, rowN_put hR2 1 _ (by simp)⟩
          have HPX := Lib.hid hpx
          obtain ⟨⟨t0, t1, t2⟩, g0, g1, g2⟩ := rowN3 hR2
          have hl0 := hR2.lt
          rw [hW10] at HPX t0 t1 t2 g0 g1 g2 hl0
          clear hM2 hR2 hso hpx hb hM hR HP8 hW10
          go_wp2_with fail
          go_meet
          exact ⟨1, by omega, HPX⟩
      case rest =>
      clear HP8 hsnb
      obtain ⟨sn, hsnb, HP9⟩ := hcut
      obtain ⟨W9, hW9⟩ : ∃ W9, W9 = wc := ⟨_, rfl⟩
      rw [← hW9] at HP9 ⊢
      clear hW9
      go_wp2_with fail
      refine (one_any sb 20 _ HP9.out.src (by omega)).mono ?_
      rintro e w10 ⟨⟨b5, rfl⟩, hD⟩
      replace HP9 := Lib.hid (HP9.out.draw hD)
      clear hD
      cases b5 with
      | false =>
        obtain ⟨rv, sv, hv, hM, hR⟩ := HP9.out
        obtain ⟨ra, rc, rfl, _⟩ := hM.ro.shape
        obtain ⟨sa, sc, rfl, _⟩ := hM.so.shape
        obtain ⟨ha, hc, rfl, _⟩ := hM.ho.shape
        have HM := Lib.hid hM
        have HR := Lib.hid hR
        clear hM hR HP9
        obtain ⟨⟨y0, y1, y2⟩, _⟩ := rowN3 HR.out
        obtain ⟨⟨e0, e1, e2⟩, k0, k1, k2⟩ := rowN3 HM.out.res
        have hol := HM.out.res.lt
        go_wp2_with fail
        have zt := HM.out.told (by omega) (by omega) (by omega) rfl
        have zr := rowN_put (rowN_put (rowN_put HM.out.res 0 (.slice ra (rn) rc) (by simp)) 1 (.slice sa (sn) sc) (by simp)) 2 (.slice ha hn hc) (by simp)
        generalize (((w10.setCell ⟨w.heap.size, 0, none⟩ (.slice ra (rn) rc)).setCell ⟨w.heap.size, 1, none⟩ (.slice sa (sn) sc)).setCell ⟨w.heap.size, 2, none⟩ (.slice ha hn hc)) = V9 at zt zr ⊢
        obtain ⟨⟨c0, c1, c2⟩, _⟩ := rowN3 zr
        exact bodyPost_ret (v := .agg #[(.slice ra (rn) rc), (.slice sa (sn) sc), (.slice ha hn hc)]) (by simp only [results, Try.results36]; simp [go_sem, c0, c1, c2]) rfl zt
      | true =>
        go_wp2_with fail
        refine (n_any sb 4 _ HP9.out.src (by omega)).mono ?_
        rintro e w11 ⟨⟨x, rfl, xb0, xb1, _⟩, hD⟩
        replace HP9 := Lib.hid (HP9.out.draw hD)
        clear hD xb1
        obtain ⟨rv, sv, hv, hM, hR⟩ := HP9.out
        obtain ⟨ra, rc, rfl, _⟩ := hM.ro.shape
        obtain ⟨sa, sc, rfl, _⟩ := hM.so.shape
        obtain ⟨ha, hc, rfl, _⟩ := hM.ho.shape
        have HM := Lib.hid hM
        have HR := Lib.hid hR
        clear hM hR HP9
        obtain ⟨WW, hWW⟩ : ∃ WW, WW = w11 := ⟨_, rfl⟩
        rw [← hWW] at HM HR ⊢
        clear hWW
        by_cases hx0 : x = 0
        · have hx0' : (x == 0) = true := by simp [hx0]
          clear hx0
          go_wp2_with fail
          refine region_L (fun V => V.rowIs (w.heap.size + 1) 26 3 (rowN [(.slice ra (rn) rc), (.slice sa (sn) sc), (.slice ha hn hc)])) 9 (by kernel_rfl) (nrow_below HR.out (Below.refl _ _).drew) (fun hHeld => ?_)
          obtain ⟨Z, hZ⟩ : ∃ Z, Z = WW.drew := ⟨_, rfl⟩
          replace HM : Hid (PM w sb (.slice ra (rn) rc) (.slice sa (sn) sc) (.slice ha hn hc) rn sn hn Z) := by show PM _ _ _ _ _ _ _ _ _; rw [hZ]; exact HM.out.below (Below.refl _ _).drew
          replace HR : Hid (Z.rowIs (w.heap.size + 1) 26 3 (rowN [(.slice ra (rn) rc), (.slice sa (sn) sc), (.slice ha hn hc)])) := by show World.rowIs _ _ _ _ _; rw [hZ]; exact nrow_below HR.out (Below.refl _ _).drew
          rw [← hZ] at hHeld ⊢
          clear hZ
          refine takeL_do (i := 0) (v := (.pointer (some ⟨w.heap.size + 1, 1, none⟩))) rfl (by kernel_rfl) (by kernel_rfl) (by kernel_rfl) (by kernel_rfl) (fun _ _ _ h => h) (by rfl) ?_ (by assumption) ?_
          · intro w hSw
            skip
            go_simp
          simp only [Act.put, List.setIfInBounds_toArray, List.set_cons_zero, List.set_cons_succ]
          refine takeL_do (i := 1) (v := (.slice sa (sn) sc)) rfl (by kernel_rfl) (by kernel_rfl) (by kernel_rfl) (by kernel_rfl) (fun _ _ _ h => h) (by rfl) ?_ (by assumption) ?_
          · intro w hSw
            obtain ⟨⟨x0, x1, x2⟩, _⟩ := rowN3 hSw
            go_simp
          simp only [Act.put, List.setIfInBounds_toArray, List.set_cons_zero, List.set_cons_succ]
          refine takeL_do (i := 2) (v := (.pointer (some ⟨sb, 0, none⟩))) rfl (by kernel_rfl) (by kernel_rfl) (by kernel_rfl) (by kernel_rfl) (fun _ _ _ h => h) (by rfl) ?_ (by assumption) ?_
          · intro w hSw
            skip
            go_simp
          simp only [Act.put, List.setIfInBounds_toArray, List.set_cons_zero, List.set_cons_succ]
          refine takeL_do (i := 3) (v := (.int .i64 i)) rfl (by kernel_rfl) (by kernel_rfl) (by kernel_rfl) (by kernel_rfl) (fun _ _ _ h => h) (by rfl) ?_ (by assumption) ?_
          · intro w hSw
            skip
            go_simp
          simp only [Act.put, List.setIfInBounds_toArray, List.set_cons_zero, List.set_cons_succ]
          refine takeL_do (i := 4) (v := (.int .i64 ((i : Int) + 1))) rfl (by kernel_rfl) (by kernel_rfl) (by kernel_rfl) (by kernel_rfl) (fun _ _ _ h => h) (by rfl) ?_ (by assumption) ?_
          · intro w hSw
            skip
            go_simp
            try exact dywr (by omega) (by omega)
          simp only [Act.put, List.setIfInBounds_toArray, List.set_cons_zero, List.set_cons_succ]
          refine takeL_call (i := 5) rfl (by kernel_rfl) (fun K2 hK => ?_)
          go_simp
          refine (n_any sb ((i : Int) + 1) _ HM.out.src.1 (by omega)).mono ?_
          rintro e Z23 ⟨⟨v1, rfl, v10, v11, _⟩, hD⟩
          have v1b : 0 ≤ v1 := by omega
          clear v10 v11
          replace HM := Lib.hid (HM.out.draw hD)
          replace HR := Lib.hid (row_chg HR.out (by have := HM.out.sbl; omega) hD.2)
          clear hD
          go_wp2_with fail
          refine hK.out _ _ HR.out (fun hHeld2 => ?_)
          clear hK hHeld
          have hHeld := hHeld2
          clear hHeld2
          refine takeL_call (i := 6) rfl (by kernel_rfl) (fun K2 hK => ?_)
          obtain ⟨Z24, hZ24⟩ : ∃ Z24, Z24 = Z23.alloc (.cells #[.int .i64 v1] 2) := ⟨_, rfl⟩
          have hb : Below Z23.heap.size Z23 Z24 := by rw [hZ24]; exact nbel_alloc _ _
          obtain ⟨gs, hgs⟩ : ∃ gs, gs = Z23.heap.size := ⟨_, rfl⟩
          have HL : Hid (Z24.cell? ⟨gs, 0, none⟩ = some (.int .i64 v1)) := by
            show _ = _
            rw [hZ24, hgs]
            exact (rowN_alloc Z23 [.int .i64 v1] 2).cell (i := 0) (by simp)
          replace HM := Lib.hid (HM.out.below hb)
          replace HR := Lib.hid (nrow_below HR.out hb)
          go_simp
          rw [← hZ24, ← hgs]
          refine hK.out _ _ HR.out (fun hHeld2 => ?_)
          clear hK hHeld
          have hHeld := hHeld2
          clear hHeld2
          clear hb hZ24 hgs
          refine takeL_call (i := 7) rfl (by kernel_rfl) (fun K2 hK => ?_)
          obtain ⟨bs, hb1, hb0, ⟨zs, hown⟩, hb3⟩ := HM.out.sb2
          have HB1 := Lib.hid hb1
          have HB0 := Lib.hid hb0
          have HB3 := Lib.hid hb3
          refine dyap rfl (.tmp 105) (.tmp 110) 24 rfl (bs) 2 i0 (.int .i64 0) 1 8 Try.underlying24 hi0 hi1 hi2 hi3 rfl (by decide) (.slice sa (sn) sc) sn _ rfl hown ⟨gs, 0, none⟩ 1 1 [.int .i64 v1] rfl rfl ?_ ?_ (by unfold maxLen; omega) (by omega) HB0.out ?_
          · have c0 := HL.out
            intro j u hj
            match j, hj with
            | 0, hj => simp at hj; subst hj; simpa [Addr.add] using c0
          · intro u hu
            simp at hu
            first | (subst hu; rfl) | (rcases hu with rfl | rfl | rfl <;> rfl)
          intro v' Z25 hown2 hgrow
          have hoz : OwZ 2 1 (bs) v' (sn + 1) Z25 := ⟨zs ++ ([(v1 : Int)] : List Int), by rw [List.map_append]; exact hown2⟩
          obtain ⟨a9, c9, rfl, _⟩ := hoz.shape
          have HOZ := Lib.hid hoz
          clear hoz
          replace HR := Lib.hid (row_grown HR.out HM.out.so (by decide) hgrow)
          replace HM := Lib.hid (HM.out.sources hgrow HB1.out HB0.out HOZ.out HB3.out)
          refine hK.out _ _ HR.out (fun hHeld2 => ?_)
          clear hK hHeld hown hown2 hgrow HL HOZ HB1 HB0 HB3 hb1 hb0 hb3
          have hHeld := hHeld2
          clear hHeld2
          simp only [Act.put, List.setIfInBounds_toArray, List.set_cons_zero, List.set_cons_succ]
          refine takeL_do (i := 8) (v := (.pointer (some ⟨w.heap.size + 1, 1, none⟩))) rfl (by kernel_rfl) (by kernel_rfl) (by kernel_rfl) (by kernel_rfl) (fun _ _ _ h => h) (by rfl) ?_ (by assumption) ?_
          · intro w hSw
            skip
            go_simp
          simp only [Act.put, List.setIfInBounds_toArray, List.set_cons_zero, List.set_cons_succ]
          obtain ⟨⟨o0, o1, o2⟩, z0, z1, z2⟩ := rowN3 HR.out
          have l0 := HR.out.lt
          obtain ⟨WZ, hWZ⟩ : ∃ WZ, WZ = Z25.setCell ⟨w.heap.size + 1, 1, none⟩ (.slice a9 (sn + 1) c9) := ⟨_, rfl⟩
          have HPX : Hid (PDx w sb rn (sn + 1) hn WZ) := by
            refine ⟨(.slice ra (rn) rc), (.slice a9 (sn + 1) c9), (.slice ha hn hc), ?_, ?_⟩
            · rw [hWZ]; exact HM.out.set HR.out (by omega) _
            · rw [hWZ]; exact rowN_put HR.out 1 _ (by simp)
          have HWZ := Lib.hid hWZ
          clear hWZ
          refine takeL_last rfl (by kernel_rfl) (by kernel_rfl) (fun K2 hK => ?_)
          go_simp
          rw [← HWZ.out]
          refine hK.out _ _ ?_
          clear hK hHeld HWZ o0 o1 o2 z0 z1 z2 l0 HM HR
          obtain ⟨rv, sv, hv, hM, hR⟩ := HPX.out
          obtain ⟨ra, rc, rfl, _⟩ := hM.ro.shape
          obtain ⟨sa, sc, rfl, _⟩ := hM.so.shape
          obtain ⟨ha, hc, rfl, _⟩ := hM.ho.shape
          have HM := Lib.hid hM
          have HR := Lib.hid hR
          clear hM hR HPX
          obtain ⟨⟨y0, y1, y2⟩, _⟩ := rowN3 HR.out
          obtain ⟨⟨e0, e1, e2⟩, k0, k1, k2⟩ := rowN3 HM.out.res
          have hol := HM.out.res.lt
          go_wp2_with fail
          have zt := HM.out.told (by omega) (by omega) (by omega) rfl
          have zr := rowN_put (rowN_put (rowN_put HM.out.res 0 (.slice ra (rn) rc) (by simp)) 1 (.slice sa (sn + 1) sc) (by simp)) 2 (.slice ha hn hc) (by simp)
          generalize (((WZ.setCell ⟨w.heap.size, 0, none⟩ (.slice ra (rn) rc)).setCell ⟨w.heap.size, 1, none⟩ (.slice sa (sn + 1) sc)).setCell ⟨w.heap.size, 2, none⟩ (.slice ha hn hc)) = V9 at zt zr ⊢
          obtain ⟨⟨c0, c1, c2⟩, _⟩ := rowN3 zr
          exact bodyPost_ret (v := .agg #[(.slice ra (rn) rc), (.slice sa (sn + 1) sc), (.slice ha hn hc)]) (by simp only [results, Try.results36]; simp [go_sem, c0, c1, c2]) rfl zt
        have hx0' : (x == 0) = false := by simp [hx0]
        by_cases hx1 : x = 1
        · have hx1' : (x == 1) = true := by simp [hx1]
          clear hx0 hx1
          go_wp2_with fail
          refine region_L (fun V => V.rowIs (w.heap.size + 1) 26 3 (rowN [(.slice ra (rn) rc), (.slice sa (sn) sc), (.slice ha hn hc)])) 8 (by kernel_rfl) (nrow_below HR.out (Below.refl _ _).drew) (fun hHeld => ?_)
          obtain ⟨Z, hZ⟩ : ∃ Z, Z = WW.drew := ⟨_, rfl⟩
          replace HM : Hid (PM w sb (.slice ra (rn) rc) (.slice sa (sn) sc) (.slice ha hn hc) rn sn hn Z) := by show PM _ _ _ _ _ _ _ _ _; rw [hZ]; exact HM.out.below (Below.refl _ _).drew
          replace HR : Hid (Z.rowIs (w.heap.size + 1) 26 3 (rowN [(.slice ra (rn) rc), (.slice sa (sn) sc), (.slice ha hn hc)])) := by show World.rowIs _ _ _ _ _; rw [hZ]; exact nrow_below HR.out (Below.refl _ _).drew
          rw [← hZ] at hHeld ⊢
          clear hZ
          obtain ⟨hbk, ehb⟩ : ∃ hbk, ha = some ⟨hbk, 0, none⟩ := by
            obtain ⟨a, c, f, e, h1, h2, h3⟩ := HM.out.ho.at_
            injection e with e1 e2 e3
            subst e1
            rcases h1 with h1 | ⟨b, e, _⟩
            · omega
            · exact ⟨b, e⟩
          have hn0 : (0 : Int) < (hn : Int) := by omega
          refine takeL_do (i := 0) (v := (.pointer (some ⟨w.heap.size + 1, 2, none⟩))) rfl (by kernel_rfl) (by kernel_rfl) (by kernel_rfl) (by kernel_rfl) (fun _ _ _ h => h) (by rfl) ?_ (by assumption) ?_
          · intro w hSw
            skip
            go_simp
          simp only [Act.put, List.setIfInBounds_toArray, List.set_cons_zero, List.set_cons_succ]
          refine takeL_do (i := 1) (v := (.slice ha hn hc)) rfl (by kernel_rfl) (by kernel_rfl) (by kernel_rfl) (by kernel_rfl) (fun _ _ _ h => h) (by rfl) ?_ (by assumption) ?_
          · intro w hSw
            obtain ⟨⟨x0, x1, x2⟩, _⟩ := rowN3 hSw
            go_simp
          simp only [Act.put, List.setIfInBounds_toArray, List.set_cons_zero, List.set_cons_succ]
          refine takeL_do (i := 3) (v := (.pointer (some ⟨sb, 0, none⟩))) rfl (by kernel_rfl) (by kernel_rfl) (by kernel_rfl) (by kernel_rfl) (fun _ _ _ h => h) (by rfl) ?_ (by assumption) ?_
          · intro w hSw
            skip
            go_simp
          simp only [Act.put, List.setIfInBounds_toArray, List.set_cons_zero, List.set_cons_succ]
          refine L_ready (rs := [2, 4]) (by kernel_rfl) (by simp) (AllL.cons (i := 2) rfl (fun K2 hK => ?_) (AllL.cons (i := 4) rfl (fun K2 hK => ?_) AllL.nil))
          · obtain ⟨Z26, hZ26⟩ : ∃ Z26, Z26 = Z.alloc (.cells #[.int .i64 (-1), .int .i64 1000000, .int .i64 1000001] 2) := ⟨_, rfl⟩
            have hb : Below Z.heap.size Z Z26 := by rw [hZ26]; exact nbel_alloc _ _
            obtain ⟨gq, hgq⟩ : ∃ gq, gq = Z.heap.size := ⟨_, rfl⟩
            have HQ : Hid (Z26.rowIs gq 2 3 (rowN [.int .i64 (-1), .int .i64 1000000, .int .i64 1000001])) := by show World.rowIs _ _ _ _ _; rw [hZ26, hgq]; exact rowN_alloc _ _ _
            have HQL : Hid (w.heap.size ≤ gq) := by show _ ≤ _; rw [hgq]; exact HM.out.src.2.size
            replace HM := Lib.hid (HM.out.below hb)
            replace HR := Lib.hid (nrow_below HR.out hb)
            go_simp
            rw [← hZ26, ← hgq]
            refine hK.out _ _ HR.out (fun hHeld2 => ?_)
            clear hK hHeld
            have hHeld := hHeld2
            clear hHeld2
            clear hb hZ26 hgq
            refine takeL_call (i := 4) rfl (by kernel_rfl) (fun K2 hK => ?_)
            go_simp
            refine (n_any sb 3 _ HM.out.src.1 (by omega)).mono ?_
            rintro e Z27 ⟨⟨v2, rfl, v20, v21, _⟩, hD⟩
            have v2b : 0 ≤ v2 ∧ v2 < 3 := by have := v21 (by omega); omega
            clear v20 v21
            replace HM := Lib.hid (HM.out.draw hD)
            replace HR := Lib.hid (row_chg HR.out (by have := HM.out.sbl; omega) hD.2)
            replace HQ := Lib.hid (row_chg HQ.out (by have := HM.out.sbl; have := HQL.out; omega) hD.2)
            clear hD
            go_wp2_with fail
            refine hK.out _ _ HR.out (fun hHeld2 => ?_)
            clear hK hHeld
            have hHeld := hHeld2
            clear hHeld2
            refine takeL_do (i := 5) (v := (.pointer (some ⟨gq, v2.toNat, none⟩))) rfl (by kernel_rfl) (by kernel_rfl) (by kernel_rfl) (by kernel_rfl) (fun _ _ _ h => h) (by rfl) ?_ (by assumption) ?_
            · intro w hSw
              skip
              go_simp
              try (intro hq; exfalso; omega)
            simp only [Act.put, List.setIfInBounds_toArray, List.set_cons_zero, List.set_cons_succ]
            refine takeL_call (i := 6) rfl (by kernel_rfl) (fun K2 hK => ?_)
            obtain ⟨V, hV⟩ : ∃ V : Int, Z27.cell? ⟨gq, v2.toNat, none⟩ = some (.int .i64 V) := by
              obtain ⟨⟨c0, c1, c2⟩, _⟩ := rowN3 HQ.out
              have h5 : v2.toNat = 0 ∨ v2.toNat = 1 ∨ v2.toNat = 2 := by omega
              rcases h5 with h | h | h <;> rw [h]
              · exact ⟨_, c0⟩
              · exact ⟨_, c1⟩
              · exact ⟨_, c2⟩
            go_simp
            refine hK.out _ _ HR.out (fun hHeld2 => ?_)
            clear hK hHeld
            have hHeld := hHeld2
            clear hHeld2
            clear hV HQ HQL
            refine takeL_do (i := 7) (v := (.pointer (some ⟨hbk, 0, none⟩))) rfl (by kernel_rfl) (by kernel_rfl) (by kernel_rfl) (by kernel_rfl) (fun _ _ _ h => h) (by rfl) ?_ (by assumption) ?_
            · intro w hSw
              subst ehb
              go_simp
              try (intro hq; exfalso; omega)
            simp only [Act.put, List.setIfInBounds_toArray, List.set_cons_zero, List.set_cons_succ]
            obtain ⟨hcl, hfz⟩ : (∃ u, Z27.cell? ⟨hbk, 0, none⟩ = some u) ∧ Z27.frozen? ⟨hbk, 0, none⟩ = false := OwZ.head HM.out.ho (by omega) ehb
            obtain ⟨u0, hu0⟩ := hcl
            have l0 : hbk < Z27.heap.size := World.block_lt_of_cell? _ _ hu0
            obtain ⟨WZ, hWZ⟩ : ∃ WZ, WZ = Z27.setCell ⟨hbk, 0, none⟩ (.int .i64 V) := ⟨_, rfl⟩
            have HPX : Hid (PDx w sb rn sn hn WZ) := by
              refine ⟨(.slice ra (rn) rc), (.slice sa (sn) sc), (.slice ha hn hc), ?_, ?_⟩
              · rw [hWZ]; exact HM.out.home0 (by omega) ehb V
              · rw [hWZ]; exact HR.out.of_block (Below.heap_setCell _ _ _ _ (fun e => HM.out.ho.ne_row HR.out (by decide) (by rw [ehb]; rfl) e.symm))
            have HWZ := Lib.hid hWZ
            clear hWZ
            refine takeL_last rfl (by kernel_rfl) (by kernel_rfl) (fun K2 hK => ?_)
            go_simp
            rw [← HWZ.out]
            refine hK.out _ _ ?_
            clear hK hHeld HWZ hu0 hfz l0 HM HR ehb
            obtain ⟨rv, sv, hv, hM, hR⟩ := HPX.out
            obtain ⟨ra, rc, rfl, _⟩ := hM.ro.shape
            obtain ⟨sa, sc, rfl, _⟩ := hM.so.shape
            obtain ⟨ha, hc, rfl, _⟩ := hM.ho.shape
            have HM := Lib.hid hM
            have HR := Lib.hid hR
            clear hM hR HPX
            obtain ⟨⟨y0, y1, y2⟩, _⟩ := rowN3 HR.out
            obtain ⟨⟨e0, e1, e2⟩, k0, k1, k2⟩ := rowN3 HM.out.res
            have hol := HM.out.res.lt
            go_wp2_with fail
            have zt := HM.out.told (by omega) (by omega) (by omega) rfl
            have zr := rowN_put (rowN_put (rowN_put HM.out.res 0 (.slice ra (rn) rc) (by simp)) 1 (.slice sa (sn) sc) (by simp)) 2 (.slice ha hn hc) (by simp)
            generalize (((WZ.setCell ⟨w.heap.size, 0, none⟩ (.slice ra (rn) rc)).setCell ⟨w.heap.size, 1, none⟩ (.slice sa (sn) sc)).setCell ⟨w.heap.size, 2, none⟩ (.slice ha hn hc)) = V9 at zt zr ⊢
            obtain ⟨⟨c0, c1, c2⟩, _⟩ := rowN3 zr
            exact bodyPost_ret (v := .agg #[(.slice ra (rn) rc), (.slice sa (sn) sc), (.slice ha hn hc)]) (by simp only [results, Try.results36]; simp [go_sem, c0, c1, c2]) rfl zt
          · go_simp
            refine (n_any sb 3 _ HM.out.src.1 (by omega)).mono ?_
            rintro e Z28 ⟨⟨v2, rfl, v20, v21, _⟩, hD⟩
            have v2b : 0 ≤ v2 ∧ v2 < 3 := by have := v21 (by omega); omega
            clear v20 v21
            replace HM := Lib.hid (HM.out.draw hD)
            replace HR := Lib.hid (row_chg HR.out (by have := HM.out.sbl; omega) hD.2)
            clear hD
            go_wp2_with fail
            refine hK.out _ _ HR.out (fun hHeld2 => ?_)
            clear hK hHeld
            have hHeld := hHeld2
            clear hHeld2
            refine takeL_call (i := 2) rfl (by kernel_rfl) (fun K2 hK => ?_)
            obtain ⟨Z29, hZ29⟩ : ∃ Z29, Z29 = Z28.alloc (.cells #[.int .i64 (-1), .int .i64 1000000, .int .i64 1000001] 2) := ⟨_, rfl⟩
            have hb : Below Z28.heap.size Z28 Z29 := by rw [hZ29]; exact nbel_alloc _ _
            obtain ⟨gq, hgq⟩ : ∃ gq, gq = Z28.heap.size := ⟨_, rfl⟩
            have HQ : Hid (Z29.rowIs gq 2 3 (rowN [.int .i64 (-1), .int .i64 1000000, .int .i64 1000001])) := by show World.rowIs _ _ _ _ _; rw [hZ29, hgq]; exact rowN_alloc _ _ _
            have HQL : Hid (w.heap.size ≤ gq) := by show _ ≤ _; rw [hgq]; exact HM.out.src.2.size
            replace HM := Lib.hid (HM.out.below hb)
            replace HR := Lib.hid (nrow_below HR.out hb)
            go_simp
            rw [← hZ29, ← hgq]
            refine hK.out _ _ HR.out (fun hHeld2 => ?_)
            clear hK hHeld
            have hHeld := hHeld2
            clear hHeld2
            clear hb hZ29 hgq
            refine takeL_do (i := 5) (v := (.pointer (some ⟨gq, v2.toNat, none⟩))) rfl (by kernel_rfl) (by kernel_rfl) (by kernel_rfl) (by kernel_rfl) (fun _ _ _ h => h) (by rfl) ?_ (by assumption) ?_
            · intro w hSw
              skip
              go_simp
              try (intro hq; exfalso; omega)
            simp only [Act.put, List.setIfInBounds_toArray, List.set_cons_zero, List.set_cons_succ]
            refine takeL_call (i := 6) rfl (by kernel_rfl) (fun K2 hK => ?_)
            obtain ⟨V, hV⟩ : ∃ V : Int, Z29.cell? ⟨gq, v2.toNat, none⟩ = some (.int .i64 V) := by
              obtain ⟨⟨c0, c1, c2⟩, _⟩ := rowN3 HQ.out
              have h5 : v2.toNat = 0 ∨ v2.toNat = 1 ∨ v2.toNat = 2 := by omega
              rcases h5 with h | h | h <;> rw [h]
              · exact ⟨_, c0⟩
              · exact ⟨_, c1⟩
              · exact ⟨_, c2⟩
            go_simp
            refine hK.out _ _ HR.out (fun hHeld2 => ?_)
            clear hK hHeld
            have hHeld := hHeld2
            clear hHeld2
            clear hV HQ HQL
            refine takeL_do (i := 7) (v := (.pointer (some ⟨hbk, 0, none⟩))) rfl (by kernel_rfl) (by kernel_rfl) (by kernel_rfl) (by kernel_rfl) (fun _ _ _ h => h) (by rfl) ?_ (by assumption) ?_
            · intro w hSw
              subst ehb
              go_simp
              try (intro hq; exfalso; omega)
            simp only [Act.put, List.setIfInBounds_toArray, List.set_cons_zero, List.set_cons_succ]
            obtain ⟨hcl, hfz⟩ : (∃ u, Z29.cell? ⟨hbk, 0, none⟩ = some u) ∧ Z29.frozen? ⟨hbk, 0, none⟩ = false := OwZ.head HM.out.ho (by omega) ehb
            obtain ⟨u0, hu0⟩ := hcl
            have l0 : hbk < Z29.heap.size := World.block_lt_of_cell? _ _ hu0
            obtain ⟨WZ, hWZ⟩ : ∃ WZ, WZ = Z29.setCell ⟨hbk, 0, none⟩ (.int .i64 V) := ⟨_, rfl⟩
            have HPX : Hid (PDx w sb rn sn hn WZ) := by
              refine ⟨(.slice ra (rn) rc), (.slice sa (sn) sc), (.slice ha hn hc), ?_, ?_⟩
              · rw [hWZ]; exact HM.out.home0 (by omega) ehb V
              · rw [hWZ]; exact HR.out.of_block (Below.heap_setCell _ _ _ _ (fun e => HM.out.ho.ne_row HR.out (by decide) (by rw [ehb]; rfl) e.symm))
            have HWZ := Lib.hid hWZ
            clear hWZ
            refine takeL_last rfl (by kernel_rfl) (by kernel_rfl) (fun K2 hK => ?_)
            go_simp
            rw [← HWZ.out]
            refine hK.out _ _ ?_
            clear hK hHeld HWZ hu0 hfz l0 HM HR ehb
            obtain ⟨rv, sv, hv, hM, hR⟩ := HPX.out
            obtain ⟨ra, rc, rfl, _⟩ := hM.ro.shape
            obtain ⟨sa, sc, rfl, _⟩ := hM.so.shape
            obtain ⟨ha, hc, rfl, _⟩ := hM.ho.shape
            have HM := Lib.hid hM
            have HR := Lib.hid hR
            clear hM hR HPX
            obtain ⟨⟨y0, y1, y2⟩, _⟩ := rowN3 HR.out
            obtain ⟨⟨e0, e1, e2⟩, k0, k1, k2⟩ := rowN3 HM.out.res
            have hol := HM.out.res.lt
            go_wp2_with fail
            have zt := HM.out.told (by omega) (by omega) (by omega) rfl
            have zr := rowN_put (rowN_put (rowN_put HM.out.res 0 (.slice ra (rn) rc) (by simp)) 1 (.slice sa (sn) sc) (by simp)) 2 (.slice ha hn hc) (by simp)
            generalize (((WZ.setCell ⟨w.heap.size, 0, none⟩ (.slice ra (rn) rc)).setCell ⟨w.heap.size, 1, none⟩ (.slice sa (sn) sc)).setCell ⟨w.heap.size, 2, none⟩ (.slice ha hn hc)) = V9 at zt zr ⊢
            obtain ⟨⟨c0, c1, c2⟩, _⟩ := rowN3 zr
            exact bodyPost_ret (v := .agg #[(.slice ra (rn) rc), (.slice sa (sn) sc), (.slice ha hn hc)]) (by simp only [results, Try.results36]; simp [go_sem, c0, c1, c2]) rfl zt
        have hx1' : (x == 1) = false := by simp [hx1]
        by_cases hx2 : x = 2
        · have hx2' : (x == 2) = true := by simp [hx2]
          clear hx0 hx1 hx2
          go_wp2_with fail
          refine region_L (fun V => V.rowIs (w.heap.size + 1) 26 3 (rowN [(.slice ra (rn) rc), (.slice sa (sn) sc), (.slice ha hn hc)])) 16 (by kernel_rfl) (nrow_below HR.out (Below.refl _ _).drew) (fun hHeld => ?_)
          obtain ⟨Z, hZ⟩ : ∃ Z, Z = WW.drew := ⟨_, rfl⟩
          replace HM : Hid (PM w sb (.slice ra (rn) rc) (.slice sa (sn) sc) (.slice ha hn hc) rn sn hn Z) := by show PM _ _ _ _ _ _ _ _ _; rw [hZ]; exact HM.out.below (Below.refl _ _).drew
          replace HR : Hid (Z.rowIs (w.heap.size + 1) 26 3 (rowN [(.slice ra (rn) rc), (.slice sa (sn) sc), (.slice ha hn hc)])) := by show World.rowIs _ _ _ _ _; rw [hZ]; exact nrow_below HR.out (Below.refl _ _).drew
          rw [← hZ] at hHeld ⊢
          clear hZ
          refine takeL_do (i := 0) (v := (.pointer (some ⟨w.heap.size + 1, 0, none⟩))) rfl (by kernel_rfl) (by kernel_rfl) (by kernel_rfl) (by kernel_rfl) (fun _ _ _ h => h) (by rfl) ?_ (by assumption) ?_
          · intro w hSw
            skip
            go_simp
          simp only [Act.put, List.setIfInBounds_toArray, List.set_cons_zero, List.set_cons_succ]
          refine takeL_do (i := 1) (v := (.slice ra (rn) rc)) rfl (by kernel_rfl) (by kernel_rfl) (by kernel_rfl) (by kernel_rfl) (fun _ _ _ h => h) (by rfl) ?_ (by assumption) ?_
          · intro w hSw
            obtain ⟨⟨x0, x1, x2⟩, _⟩ := rowN3 hSw
            go_simp
          simp only [Act.put, List.setIfInBounds_toArray, List.set_cons_zero, List.set_cons_succ]
          refine takeL_do (i := 2) (v := (.pointer (some ⟨sb, 0, none⟩))) rfl (by kernel_rfl) (by kernel_rfl) (by kernel_rfl) (by kernel_rfl) (fun _ _ _ h => h) (by rfl) ?_ (by assumption) ?_
          · intro w hSw
            skip
            go_simp
          simp only [Act.put, List.setIfInBounds_toArray, List.set_cons_zero, List.set_cons_succ]
          refine takeL_do (i := 3) (v := (.int .i64 i)) rfl (by kernel_rfl) (by kernel_rfl) (by kernel_rfl) (by kernel_rfl) (fun _ _ _ h => h) (by rfl) ?_ (by assumption) ?_
          · intro w hSw
            skip
            go_simp
          simp only [Act.put, List.setIfInBounds_toArray, List.set_cons_zero, List.set_cons_succ]
          refine takeL_do (i := 4) (v := (.int .i64 ((i : Int) + 1))) rfl (by kernel_rfl) (by kernel_rfl) (by kernel_rfl) (by kernel_rfl) (fun _ _ _ h => h) (by rfl) ?_ (by assumption) ?_
          · intro w hSw
            skip
            go_simp
            try exact dywr (by omega) (by omega)
          simp only [Act.put, List.setIfInBounds_toArray, List.set_cons_zero, List.set_cons_succ]
          refine takeL_do (i := 6) (v := (.pointer (some ⟨sb, 0, none⟩))) rfl (by kernel_rfl) (by kernel_rfl) (by kernel_rfl) (by kernel_rfl) (fun _ _ _ h => h) (by rfl) ?_ (by assumption) ?_
          · intro w hSw
            skip
            go_simp
          simp only [Act.put, List.setIfInBounds_toArray, List.set_cons_zero, List.set_cons_succ]
          refine takeL_do (i := 7) (v := (.int .i64 i)) rfl (by kernel_rfl) (by kernel_rfl) (by kernel_rfl) (by kernel_rfl) (fun _ _ _ h => h) (by rfl) ?_ (by assumption) ?_
          · intro w hSw
            skip
            go_simp
          simp only [Act.put, List.setIfInBounds_toArray, List.set_cons_zero, List.set_cons_succ]
          refine takeL_do (i := 9) (v := (.pointer (some ⟨sb, 0, none⟩))) rfl (by kernel_rfl) (by kernel_rfl) (by kernel_rfl) (by kernel_rfl) (fun _ _ _ h => h) (by rfl) ?_ (by assumption) ?_
          · intro w hSw
            skip
            go_simp
          simp only [Act.put, List.setIfInBounds_toArray, List.set_cons_zero, List.set_cons_succ]
          refine takeL_call (i := 5) rfl (by kernel_rfl) (fun K2 hK => ?_)
          go_simp
          refine (n_any sb ((i : Int) + 1) _ HM.out.src.1 (by omega)).mono ?_
          rintro e Z30 ⟨⟨v1, rfl, v10, v11, _⟩, hD⟩
          have v1b : 0 ≤ v1 := by omega
          clear v10 v11
          replace HM := Lib.hid (HM.out.draw hD)
          replace HR := Lib.hid (row_chg HR.out (by have := HM.out.sbl; omega) hD.2)
          clear hD
          go_wp2_with fail
          refine hK.out _ _ HR.out (fun hHeld2 => ?_)
          clear hK hHeld
          have hHeld := hHeld2
          clear hHeld2
          refine takeL_call (i := 8) rfl (by kernel_rfl) (fun K2 hK => ?_)
          go_simp
          refine (n_any sb i _ HM.out.src.1 (by omega)).mono ?_
          rintro e Z31 ⟨⟨v2, rfl, v20, v21, _⟩, hD⟩
          have v2b : 0 ≤ v2 := by omega
          clear v20 v21
          replace HM := Lib.hid (HM.out.draw hD)
          replace HR := Lib.hid (row_chg HR.out (by have := HM.out.sbl; omega) hD.2)
          clear hD
          go_wp2_with fail
          refine hK.out _ _ HR.out (fun hHeld2 => ?_)
          clear hK hHeld
          have hHeld := hHeld2
          clear hHeld2
          refine takeL_call (i := 10) rfl (by kernel_rfl) (fun K2 hK => ?_)
          go_simp
          refine (n_any sb 5 _ HM.out.src.1 (by omega)).mono ?_
          rintro e Z32 ⟨⟨v3, rfl, v30, v31, _⟩, hD⟩
          have v3b : 0 ≤ v3 ∧ v3 < 5 := by have := v31 (by omega); omega
          clear v30 v31
          replace HM := Lib.hid (HM.out.draw hD)
          replace HR := Lib.hid (row_chg HR.out (by have := HM.out.sbl; omega) hD.2)
          clear hD
          go_wp2_with fail
          refine hK.out _ _ HR.out (fun hHeld2 => ?_)
          clear hK hHeld
          have hHeld := hHeld2
          clear hHeld2
          refine takeL_do (i := 11) (v := (.int .i64 (v3 - 1))) rfl (by kernel_rfl) (by kernel_rfl) (by kernel_rfl) (by kernel_rfl) (fun _ _ _ h => h) (by rfl) ?_ (by assumption) ?_
          · intro w hSw
            skip
            go_simp
            try exact dywr (by omega) (by omega)
          simp only [Act.put, List.setIfInBounds_toArray, List.set_cons_zero, List.set_cons_succ]
          refine takeL_do (i := 12) (v := (.agg #[.int .i64 v1, .int .i64 v2, .int .i64 (v3 - 1)])) rfl (by kernel_rfl) (by kernel_rfl) (by kernel_rfl) (by kernel_rfl) (fun _ _ _ h => h) (by rfl) ?_ (by assumption) ?_
          · intro w hSw
            skip
            go_simp
          simp only [Act.put, List.setIfInBounds_toArray, List.set_cons_zero, List.set_cons_succ]
          refine takeL_call (i := 13) rfl (by kernel_rfl) (fun K2 hK => ?_)
          obtain ⟨Z33, hZ33⟩ : ∃ Z33, Z33 = Z32.alloc (.cells #[.int .i64 v1, .int .i64 v2, .int .i64 (v3 - 1)] 32) := ⟨_, rfl⟩
          have hb : Below Z32.heap.size Z32 Z33 := by rw [hZ33]; exact nbel_alloc _ _
          obtain ⟨gs, hgs⟩ : ∃ gs, gs = Z32.heap.size := ⟨_, rfl⟩
          have HL : Hid (Z33.rowIs gs 32 3 (rowN [.int .i64 v1, .int .i64 v2, .int .i64 (v3 - 1)])) := by show World.rowIs _ _ _ _ _; rw [hZ33, hgs]; exact rowN_alloc _ _ _
          replace HM := Lib.hid (HM.out.below hb)
          replace HR := Lib.hid (nrow_below HR.out hb)
          go_simp
          rw [← hZ33, ← hgs]
          refine hK.out _ _ HR.out (fun hHeld2 => ?_)
          clear hK hHeld
          have hHeld := hHeld2
          clear hHeld2
          clear hb hZ33 hgs
          refine takeL_call (i := 14) rfl (by kernel_rfl) (fun K2 hK => ?_)
          obtain ⟨zs, hown⟩ := HM.out.ro
          refine dyap rfl (.tmp 126) (.tmp 138) 23 rfl (w.heap.size) 32 j0 (.agg #[.int .i64 0, .int .i64 0, .int .i64 0]) 3 24 Try.underlying23 hj0 hj1 hj2 hj3 rfl (by decide) (.slice ra (rn) rc) rn _ rfl hown ⟨gs, 0, none⟩ 1 1 [.int .i64 v1, .int .i64 v2, .int .i64 (v3 - 1)] rfl rfl ?_ ?_ (by unfold maxLen; omega) (by omega) (by have := HM.out.src.2.size; omega) ?_
          · obtain ⟨⟨c0, c1, c2⟩, _⟩ := rowN3 HL.out
            intro j u hj
            match j, hj with
            | 0, hj => simp at hj; subst hj; simpa [Addr.add] using c0
            | 1, hj => simp at hj; subst hj; simpa [Addr.add] using c1
            | 2, hj => simp at hj; subst hj; simpa [Addr.add] using c2
          · intro u hu
            simp at hu
            first | (subst hu; rfl) | (rcases hu with rfl | rfl | rfl <;> rfl)
          intro v' Z34 hown2 hgrow
          have hoz : OwZ 32 3 (w.heap.size) v' (rn + 1) Z34 := ⟨zs ++ ([(v1 : Int), (v2 : Int), ((v3 - 1) : Int)] : List Int), by rw [List.map_append]; exact hown2⟩
          obtain ⟨a9, c9, rfl, _⟩ := hoz.shape
          have HOZ := Lib.hid hoz
          clear hoz
          replace HR := Lib.hid (row_grown HR.out HM.out.ro (by decide) hgrow)
          replace HM := Lib.hid (HM.out.rows hgrow HOZ.out)
          refine hK.out _ _ HR.out (fun hHeld2 => ?_)
          clear hK hHeld hown hown2 hgrow HL HOZ
          have hHeld := hHeld2
          clear hHeld2
          simp only [Act.put, List.setIfInBounds_toArray, List.set_cons_zero, List.set_cons_succ]
          refine takeL_do (i := 15) (v := (.pointer (some ⟨w.heap.size + 1, 0, none⟩))) rfl (by kernel_rfl) (by kernel_rfl) (by kernel_rfl) (by kernel_rfl) (fun _ _ _ h => h) (by rfl) ?_ (by assumption) ?_
          · intro w hSw
            skip
            go_simp
          simp only [Act.put, List.setIfInBounds_toArray, List.set_cons_zero, List.set_cons_succ]
          obtain ⟨⟨o0, o1, o2⟩, z0, z1, z2⟩ := rowN3 HR.out
          have l0 := HR.out.lt
          obtain ⟨WZ, hWZ⟩ : ∃ WZ, WZ = Z34.setCell ⟨w.heap.size + 1, 0, none⟩ (.slice a9 (rn + 1) c9) := ⟨_, rfl⟩
          have HPX : Hid (PDx w sb (rn + 1) sn hn WZ) := by
            refine ⟨(.slice a9 (rn + 1) c9), (.slice sa (sn) sc), (.slice ha hn hc), ?_, ?_⟩
            · rw [hWZ]; exact HM.out.set HR.out (by omega) _
            · rw [hWZ]; exact rowN_put HR.out 0 _ (by simp)
          have HWZ := Lib.hid hWZ
          clear hWZ
          refine takeL_last rfl (by kernel_rfl) (by kernel_rfl) (fun K2 hK => ?_)
          go_simp
          rw [← HWZ.out]
          refine hK.out _ _ ?_
          clear hK hHeld HWZ o0 o1 o2 z0 z1 z2 l0 HM HR
          obtain ⟨rv, sv, hv, hM, hR⟩ := HPX.out
          obtain ⟨ra, rc, rfl, _⟩ := hM.ro.shape
          obtain ⟨sa, sc, rfl, _⟩ := hM.so.shape
          obtain ⟨ha, hc, rfl, _⟩ := hM.ho.shape
          have HM := Lib.hid hM
          have HR := Lib.hid hR
          clear hM hR HPX
          obtain ⟨⟨y0, y1, y2⟩, _⟩ := rowN3 HR.out
          obtain ⟨⟨e0, e1, e2⟩, k0, k1, k2⟩ := rowN3 HM.out.res
          have hol := HM.out.res.lt
          go_wp2_with fail
          have zt := HM.out.told (by omega) (by omega) (by omega) rfl
          have zr := rowN_put (rowN_put (rowN_put HM.out.res 0 (.slice ra (rn + 1) rc) (by simp)) 1 (.slice sa (sn) sc) (by simp)) 2 (.slice ha hn hc) (by simp)
          generalize (((WZ.setCell ⟨w.heap.size, 0, none⟩ (.slice ra (rn + 1) rc)).setCell ⟨w.heap.size, 1, none⟩ (.slice sa (sn) sc)).setCell ⟨w.heap.size, 2, none⟩ (.slice ha hn hc)) = V9 at zt zr ⊢
          obtain ⟨⟨c0, c1, c2⟩, _⟩ := rowN3 zr
          exact bodyPost_ret (v := .agg #[(.slice ra (rn + 1) rc), (.slice sa (sn) sc), (.slice ha hn hc)]) (by simp only [results, Try.results36]; simp [go_sem, c0, c1, c2]) rfl zt
        have hx2' : (x == 2) = false := by simp [hx2]
        clear hx0 hx1 hx2
        have HPD : Hid (PDx w sb rn sn hn WW) := ⟨_, _, _, HM.out, HR.out⟩
        have HLA : Hid (lenAt (w.heap.size + 1) WW = rn) := lenAt_row HR.out
        clear HM HR
        go_wp2_with fail
        go_loopw [] (fun wr => ∃ rn : Nat, rn ≤ 101 ∧ Hid (PDx w sb rn sn hn wr) ∧ Hid (lenAt (w.heap.size + 1) wr = rn)) (fun wr => 200 - lenAt (w.heap.size + 1) wr)
        case atStart => exact ⟨rn, by omega, HPD, HLA⟩
        case round =>
          clear HPD HLA hrn2 hrn
          obtain ⟨rn, hrn2, hP, hLA⟩ := hrel
          obtain ⟨rv, sv, hv, hM, hR⟩ := hP.out
          obtain ⟨ra, rc, rfl, _⟩ := hM.ro.shape
          obtain ⟨sa, sc, rfl, _⟩ := hM.so.shape
          obtain ⟨ha, hc, rfl, _⟩ := hM.ho.shape
          have HM := Lib.hid hM
          have HR := Lib.hid hR
          clear hP hM hR
          go_wp2_with fail
          refine wp_region_held_drew (S := fun V => V.rowIs (w.heap.size + 1) 26 3 (rowN [(.slice ra rn rc), (.slice sa sn sc), (.slice ha hn hc)])) (by kernel_rfl) (nrow_below HR.out (Below.refl _ _).drew) (fun hHeld => ?_)
          obtain ⟨Z, hZ⟩ : ∃ Z, Z = wr.drew := ⟨_, rfl⟩
          replace HM : Hid (PM w sb (.slice ra rn rc) (.slice sa sn sc) (.slice ha hn hc) rn sn hn Z) := by show PM _ _ _ _ _ _ _ _ _; rw [hZ]; exact HM.out.below (Below.refl _ _).drew
          rw [← hZ] at hHeld ⊢
          clear hZ HR
          refine take_do (i := 0) (v := (.pointer (some ⟨w.heap.size + 1, 0, none⟩))) rfl (by kernel_rfl) (by kernel_rfl) (by kernel_rfl) (fun _ _ _ h => h) (by rfl) ?_ (by assumption) ?_
          · intro w hSw
            skip
            go_simp
          simp only [Act.put, List.setIfInBounds_toArray, List.set_cons_zero, List.set_cons_succ]
          refine take_do (i := 1) (v := (.slice ra rn rc)) rfl (by kernel_rfl) (by kernel_rfl) (by kernel_rfl) (fun _ _ _ h => h) (by rfl) ?_ (by assumption) ?_
          · intro w hSw
            obtain ⟨⟨x0, x1, x2⟩, _⟩ := rowN3 hSw
            go_simp
          simp only [Act.put, List.setIfInBounds_toArray, List.set_cons_zero, List.set_cons_succ]
          refine take_do (i := 2) (v := (.int .i64 rn)) rfl (by kernel_rfl) (by kernel_rfl) (by kernel_rfl) (fun _ _ _ h => h) (by rfl) ?_ (by assumption) ?_
          · intro w hSw
            skip
            go_simp
          simp only [Act.put, List.setIfInBounds_toArray, List.set_cons_zero, List.set_cons_succ]
          refine take_do (i := 3) (v := (.pointer (some ⟨sb, 0, none⟩))) rfl (by kernel_rfl) (by kernel_rfl) (by kernel_rfl) (fun _ _ _ h => h) (by rfl) ?_ (by assumption) ?_
          · intro w hSw
            skip
            go_simp
          simp only [Act.put, List.setIfInBounds_toArray, List.set_cons_zero, List.set_cons_succ]
          refine take_call (i := 4) rfl (by kernel_rfl) (fun K2 hK => ?_)
          go_simp
          refine (n_any sb 3 _ HM.out.src.1 (by omega)).mono ?_
          rintro e Y1 ⟨⟨v3, rfl, v30, v31, _⟩, hD⟩
          have v3b : 0 ≤ v3 ∧ v3 < 3 := by have := v31 (by omega); omega
          clear v30 v31
          replace HM := Lib.hid (HM.out.draw hD)
          have hR2 := row_chg hHeld (by have := HM.out.sbl; omega) hD.2
          clear hD
          go_wp2_with fail
          refine hK.out _ _ hR2 (fun hHeld2 => ?_)
          clear hK hHeld hR2
          have hHeld := hHeld2
          clear hHeld2
          refine take_do (i := 5) (v := (.int .i64 (99 + v3))) rfl (by kernel_rfl) (by kernel_rfl) (by kernel_rfl) (fun _ _ _ h => h) (by rfl) ?_ (by assumption) ?_
          · intro w hSw
            skip
            go_simp
            try exact dywr (by omega) (by omega)
          simp only [Act.put, List.setIfInBounds_toArray, List.set_cons_zero, List.set_cons_succ]
          refine take_do (i := 6) (v := (.bool (decide ((rn : Int) < 99 + v3)))) rfl (by kernel_rfl) (by kernel_rfl) (by kernel_rfl) (fun _ _ _ h => h) (by rfl) ?_ (by assumption) ?_
          · intro w hSw
            skip
            go_simp
          simp only [Act.put, List.setIfInBounds_toArray, List.set_cons_zero, List.set_cons_succ]
          refine wpAnyH_done (by kernel_rfl) ?_ _
          have HR := Lib.hid hHeld
          clear hHeld
          by_cases cq : (rn : Int) < 99 + v3
          · rw [decide_eq_true cq]
            obtain ⟨⟨y0, y1, y2⟩, f0, f1, f2⟩ := rowN3 HR.out
            have hl0 := HR.out.lt
            obtain ⟨zs, hown⟩ := HM.out.ro
            go_wp2_with (at_builtin; refine wpList_append_own _ rfl _ _ 23 rfl w.heap.size 32 j0 (.agg #[.int .i64 0, .int .i64 0, .int .i64 0]) 3 24 Try.underlying23 hj0 hj1 hj2 hj3 rfl (by decide) _ _ _ rfl (hown.alloc _) ⟨Y1.heap.size, 0, none⟩ 1 1 [.int .i64 0, .int .i64 1, .int .i64 1] rfl rfl ?c1 ?c2 ?c3 ?c4 ?c5 ?_)
            case c1 =>
              intro j u hj
              match j, hj with
              | 0, hj => simp at hj; subst hj; simp [Addr.add]
              | 1, hj => simp at hj; subst hj; simp [Addr.add]
              | 2, hj => simp at hj; subst hj; simp [Addr.add]
            case c2 => intro u hu; simp at hu; rcases hu with rfl | rfl <;> rfl
            case c3 => unfold maxLen; omega
            case c4 => omega
            case c5 => have := HM.out.src.2.size; simp; omega
            intro v' w12 hown2 hgrow hnil
            have hb12 : Below Y1.heap.size Y1 (Y1.alloc (.cells #[.int .i64 0, .int .i64 1, .int .i64 1] 32)) := nbel_alloc _ _
            have hoz : OwZ 32 3 w.heap.size v' (rn + 1) w12 := ⟨zs ++ [0, 1, 1], by rw [List.map_append]; exact hown2⟩
            obtain ⟨a9, c9, rfl, _⟩ := hoz.shape
            have hM2 := HM.out.below hb12
            have HR12 := Lib.hid (row_grown (nrow_below HR.out hb12) hM2.ro (by decide) hgrow)
            have HM12 := Lib.hid (hM2.rows hgrow hoz)
            clear hown hown2 hgrow hnil hb12 hoz hM2 HM HR y0 y1 y2 f0 f1 f2 hl0
            obtain ⟨⟨y0, y1, y2⟩, f0, f1, f2⟩ := rowN3 HR12.out
            have hl0 := HR12.out.lt
            have hpx : PDx w sb (rn + 1) sn hn (w12.setCell ⟨w.heap.size + 1, 0, none⟩ (.slice a9 (rn + 1) c9)) := ⟨_, _, _, HM12.out.set HR12.out (by omega) _, rowN_put HR12.out 0 _ (by simp)⟩
            have HPX := Lib.hid hpx
            have HLX : Hid (lenAt (w.heap.size + 1) (w12.setCell ⟨w.heap.size + 1, 0, none⟩ (.slice a9 (rn + 1) c9)) = rn + 1) := lenAt_row (rowN_put HR12.out 0 (.slice a9 (rn + 1) c9) (by simp))
            clear hpx HM12 HR12
            go_wp2_with fail
            go_roundw
            case rel => exact ⟨rn + 1, by omega, HPX, HLX⟩
            case measure => rw [hLA.out, HLX.out]; omega
          · rw [decide_eq_false cq]
            obtain ⟨⟨y0, y1, y2⟩, _⟩ := rowN3 HR.out
            obtain ⟨⟨e0, e1, e2⟩, k0, k1, k2⟩ := rowN3 HM.out.res
            have hol := HM.out.res.lt
            go_wp2_with fail
            have zt := HM.out.told (by omega) (by omega) (by omega) rfl
            have zr := rowN_put (rowN_put (rowN_put HM.out.res 0 (.slice ra (rn) rc) (by simp)) 1 (.slice sa (sn) sc) (by simp)) 2 (.slice ha hn hc) (by simp)
            generalize (((Y1.setCell ⟨w.heap.size, 0, none⟩ (.slice ra (rn) rc)).setCell ⟨w.heap.size, 1, none⟩ (.slice sa (sn) sc)).setCell ⟨w.heap.size, 2, none⟩ (.slice ha hn hc)) = V9 at zt zr ⊢
            obtain ⟨⟨c0, c1, c2⟩, _⟩ := rowN3 zr
            obtain ⟨⟨pn, pa, pk, pfa, pfk, pwa, pwk, z1, z2⟩, z3⟩ := zt
            exact bodyPost_ret (v := .agg #[(.slice ra (rn) rc), (.slice sa (sn) sc), (.slice ha hn hc)]) (by simp only [results, Try.results36]; simp [go_sem, c0, c1, c2]) rfl ⟨⟨pn, pa, pk, pfa, pfk, pwa, ⟨pwk, z1⟩, z2⟩, z3⟩
end Go.Proofs.Ytipmjobhegpdgaa
