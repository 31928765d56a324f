/-
  The draws of tubes.
-/
import Derived.Test.YtjmnehlgefpheaaDoorTbP3
import Derived.Test.YtjmnehlgefpheaaDoorSource
namespace Go.Proofs.YtjmnehlgefpheaaDoor
open Go.RowKit Go.Deep

theorem Chg.row {sb : Nat} {w w' : World} (h : Chg sb w w') {g : Nat} {t : TypeId} {m : Nat} {F : Nat → Value} (hr : w.rowIs g t m F) (hg : g ≠ sb) : w'.rowIs g t m F := hr.of_block (h.2.2.2.2 g hr.lt hg)
theorem Chg.own {sb B n s : Nat} {t : TypeId} {v : Value} {xs : List Value} {W W' : World} (hc : Chg sb W W') (h : W.ownsRow B t s v n xs) (hB : sb < B) : W'.ownsRow B t s v n xs :=
  own_only (P := fun k => k = sb) h ⟨hc.1, hc.2.1, hc.2.2.1, hc.2.2.2.1, fun k hk hne => hc.2.2.2.2 k hk hne⟩ (fun k e => by omega)
theorem twrap {x : Int} (h1 : -9223372036854775808 ≤ x) (h2 : x ≤ 9223372036854775807) : IntKind.i64.wrap x = x := by
  simp [IntKind.wrap, IntKind.bits, IntKind.signed]
  omega
theorem Src.low {sb B : Nat} {w w' : World} (h : Src sb w) (hb : Below B w w') (hB : sb < B) : Src sb w' := by
  obtain ⟨a, len, cap, at_, mix, size, ⟨c0, c1, c2, c3, f0, f1, f2, f3⟩, h1, h2, h3, h4, h5, h6⟩ := h
  refine ⟨a, len, cap, at_, mix, size, ⟨(hb.cell (p := ⟨sb, 0, none⟩) hB).trans c0, (hb.cell (p := ⟨sb, 1, none⟩) hB).trans c1, (hb.cell (p := ⟨sb, 2, none⟩) hB).trans c2, (hb.cell (p := ⟨sb, 3, none⟩) hB).trans c3, (hb.frozen (p := ⟨sb, 0, none⟩) hB).trans f0, (hb.frozen (p := ⟨sb, 1, none⟩) hB).trans f1, (hb.frozen (p := ⟨sb, 2, none⟩) hB).trans f2, (hb.frozen (p := ⟨sb, 3, none⟩) hB).trans f3⟩, h1, h2, h3, h4, h5, fun i hi => ?_⟩
  obtain ⟨cb, co, z, e, hne, hc, z0, z1⟩ := h6 i hi
  exact ⟨cb, co, z, e, hne, (hb.cell (p := ⟨cb, co + i, none⟩) (Nat.lt_trans hne hB)).trans hc, z0, z1⟩
theorem Chg.of_low {sb : Nat} {w W W' : World} {B : Nat} (h : Chg sb w W) (hb : Below B W W') (hB : w.heap.size ≤ B) : Chg sb w W' := ⟨hb.os.trans h.1, hb.tape.trans h.2.1, hb.output.trans h.2.2.1, Nat.le_trans h.2.2.2.1 hb.size, fun k hk hne => (hb.block k (by omega)).trans (h.2.2.2.2 k hk hne)⟩
/-- What stands while a tube is drawn. -/
structure DtS (sb s : Nat) (c : Int) (r : Int) (lv : Value) (l : List Tb.Pc) (w W : World) : Prop where
  src : Src sb W
  chg : Chg sb w W
  res : W.rowIs s 25 2 (rowN [.int .i64 0, .slice none 0 0])
  tub : W.rowIs (s + 1) 25 2 (rowN [.int .i64 r, lv])
  own : W.ownsRow (s + 2) 38 3 lv l.length (pv l)
  lo : sb < s
  r0 : -c ≤ r
  r1 : r ≤ 40 * l.length + c
theorem DtS.drew {sb s : Nat} {c r : Int} {lv : Value} {l : List Tb.Pc} {w W W' : World} (h : DtS sb s c r lv l w W) (hd : Drew sb W W') : DtS sb s c r lv l w W' :=
  ⟨hd.1, h.chg.trans hd.2, hd.2.row h.res (by have := h.lo; omega), hd.2.row h.tub (by have := h.lo; omega), hd.2.own h.own (by have := h.lo; omega), h.lo, h.r0, h.r1⟩
theorem DtS.below {sb s : Nat} {c r : Int} {lv : Value} {l : List Tb.Pc} {w W W' : World} (h : DtS sb s c r lv l w W) (hb : Below W.heap.size W W') : DtS sb s c r lv l w W' :=
  ⟨h.src.below hb, h.chg.trans (Chg.of_below hb), nrow_below h.res hb, nrow_below h.tub hb, own_below h.own hb, h.lo, h.r0, h.r1⟩
set_option maxRecDepth 100000 in
set_option maxHeartbeats 8000000 in
theorem l10Tube_any (sb : Nat) (w : World) (h : Src sb w) :
    Calls Tryd.prog 29 #[.pointer (some ⟨sb, 0, none⟩)] w fun e w' => (∃ (r : Int) (a : Option Addr) (l : List Tb.Pc) (c : Nat), e = .returned (tbV r a l.length c) ∧ OwL 38 w.heap.size (l.length * 3) a c (Tb.fl l) w' ∧ l.length ≤ 61 ∧ (-9223372036854775808 ≤ r ∧ r ≤ 9223372036854775807)) ∧ Drew sb w w' := by
  obtain ⟨i1, hi1, hy0, hy1, hy2⟩ := info_parts pinfo
  obtain ⟨W, hW⟩ : ∃ W, W = (w.alloc (.cells #[.int .i64 0, .slice none 0 0] 25)).alloc (.cells #[.int .i64 0, .slice none 0 0] 25) := ⟨_, rfl⟩
  have hb : Below w.heap.size w W := by rw [hW]; exact (nbel_alloc _ _).alloc (by simp) _
  have HS0 : Hid (DtS sb w.heap.size 0 0 (.slice none 0 0) [] w W) := ⟨h.below hb, Chg.of_below hb, by rw [hW]; exact nrow_below (rowN_alloc w _ _) (nbel_alloc _ _), by rw [hW]; exact rowN_alloc' (by simp) _ _, World.ownsRow_nil _ _ _ _, h.lt, by omega, by simp⟩
  obtain ⟨sa, slen, scap, sat, smix, size, hC, _, _, _, hz0, hz1, _⟩ := HS0.out.src
  have c3 := hC.2.2.2.1
  obtain ⟨q, hq⟩ : ∃ q, q = size.tdiv 2 := ⟨_, rfl⟩
  have hq2 : 0 ≤ q ∧ q ≤ 6 := by rw [hq, Int.tdiv_eq_ediv_of_nonneg hz0]; omega
  obtain ⟨hq0, hq1⟩ := hq2
  rw [hW] at c3
  have HQ := Lib.hid hq
  have hqr : size.tdiv 2 = q := hq.symm
  have HW := Lib.hid hW
  clear hW hb h hC hq
  go_enter Tryd.func29, Tryd.ntmps29
  go_wp2_with fail
  rw [← HW.out]
  clear HW c3
  refine (n_any sb _ _ HS0.out.src (by omega)).mono ?_
  rintro e w1 ⟨⟨v, rfl, v0, v1, v2⟩, hD⟩
  have HS1 := Lib.hid (HS0.out.drew hD)
  have hv : v ≤ 9 := by
    have := v1 (by omega)
    omega
  clear hD HS0 v1 v2 hqr
  go_wp2_with fail
  refine (one_any sb _ _ HS1.out.src (by omega)).mono ?_
  rintro e w2 ⟨⟨b, rfl⟩, hD⟩
  have HS2 := Lib.hid (HS1.out.drew hD)
  clear hD HS1
  rcases b with _ | _
  · obtain ⟨n, hn⟩ : ∃ n : Nat, (n : Int) = 1 + v := ⟨(1 + v).toNat, by omega⟩
    have hn61 : n ≤ 61 := by omega
    have HN := Lib.hid hn
    rw [← hn]
    clear hn
    go_wp2_with fail
    have hS2 := HS2
    clear HS2
    go_loopw [4] (fun nv wr => ∃ (k : Nat) (r : Int) (lv : Value) (l : List Tb.Pc), nv = .int .i64 k ∧ k + l.length ≤ 61 ∧ Hid (DtS sb w.heap.size 0 r lv l w wr)) (fun nv _ => (intOf nv).toNat)
    case atStart => exact ⟨n, 0, _, [], rfl, by simpa using hn61, hS2⟩
    case round =>
      obtain ⟨k, r, lv, l, rfl, hk, hS⟩ := hrel
      clear hS2
      by_cases hlt : 0 < k
      · have hltz : (0 : Int) < (k : Int) := by omega
        go_wp2_with fail
        refine (n_any sb _ _ hS.out.src (by omega)).mono ?_
        rintro e w3 ⟨⟨x1, rfl, xa, xb, xc⟩, hD⟩
        have HS3 := Lib.hid (hS.out.drew hD)
        have hx1 := xb (by omega)
        clear hD hS xb xc
        go_wp2_with fail
        refine (n_any sb _ _ HS3.out.src (by omega)).mono ?_
        rintro e w4 ⟨⟨x2, rfl, ya, yb, yc⟩, hD⟩
        have HS4 := Lib.hid (HS3.out.drew hD)
        have hx2 := yb (by omega)
        clear hD HS3 yb yc
        go_wp2_with fail
        refine (n_any sb _ _ HS4.out.src (by omega)).mono ?_
        rintro e w5 ⟨⟨x3, rfl, za, zb, zc⟩, hD⟩
        have HS5 := Lib.hid (HS4.out.drew hD)
        have hx3 := zb (by omega)
        clear hD HS4 zb zc
        obtain ⟨⟨t0, t1⟩, f0, f1⟩ := rowN2 HS5.out.tub
        have hs5 : w.heap.size + 2 ≤ w5.heap.size := by have := HS5.out.tub.lt; omega
        obtain ⟨V, hV⟩ : ∃ V, V = w5.alloc (.cells #[.int .i64 (1 + x1), .int .i64 x2, .int .i64 x3] 38) := ⟨_, rfl⟩
        have HSV : Hid (DtS sb w.heap.size 0 r lv l w V) := by show DtS _ _ _ _ _ _ _ _; rw [hV]; exact HS5.out.below (nbel_alloc _ _)
        have HVP : Hid (V.rowIs w5.heap.size 38 3 (rowN (pcL (⟨1 + x1, x2, x3⟩ : Tb.Pc)))) := by show World.rowIs _ _ _ _ _; rw [hV]; exact rowN_alloc w5 _ _
        have hsV : V.heap.size = w5.heap.size + 1 := by rw [hV]; simp
        obtain ⟨⟨t0', t1'⟩, _⟩ := rowN2 HSV.out.tub
        rw [hV] at t0' t1'
        have HV := Lib.hid hV
        have HOL5 : Hid (∀ k, lv.ownBlock = some k → k < w5.heap.size) := fun k e => (HS5.out.own.lt k e).2
        have HSV5 := Lib.hid hsV
        clear hV t0 t1 f0 f1 HS5 hsV
        go_wp2_with (at_builtin; refine wpList_append_own _ rfl _ _ 23 rfl (w.heap.size + 2) 38 i1 _ 3 24 Tryd.underlying23 hi1 hy0 hy1 hy2 rfl (by decide) _ _ _ rfl (by rw [← HV.out]; exact HSV.out.own.alloc _) ⟨w5.heap.size + 1, 0, none⟩ 1 1 (pcL (⟨1 + x1, x2, x3⟩ : Tb.Pc)) rfl rfl ?d1 ?d2 ?d3 ?d4 ?d5 ?_)
        case d1 =>
          intro j x hj
          match j, hj with
          | 0, hj => simp at hj; subst hj; simp [Addr.add]
          | 1, hj => simp at hj; subst hj; simp [Addr.add]
          | 2, hj => simp at hj; subst hj; simp [Addr.add]
        case d2 =>
          intro x hx
          simp at hx
          rcases hx with rfl | rfl | rfl <;> rfl
        case d3 => unfold maxLen; omega
        case d4 => omega
        case d5 => simp; omega
        rw [← HV.out]
        intro v5 W5 hown hgrow hnil
        have hsV := HSV5.out
        have hlo := HSV.out.lo
        have hrow : ∀ k, lv.ownBlock = some k → w.heap.size + 2 ≤ k := fun k e => (HSV.out.own.lt k e).1
        have hb5 : Below (w.heap.size + 2) V W5 := ((Below.refl _ V).alloc (by omega) _).grown hgrow (by simp; omega) hrow
        have ht5 : W5.rowIs (w.heap.size + 1) 25 2 (rowN [.int .i64 r, lv]) := HSV.out.tub.of_block (hb5.block _ (by omega))
        have hp5 : W5.rowIs w5.heap.size 38 3 (rowN (pcL (⟨1 + x1, x2, x3⟩ : Tb.Pc))) := by
          refine (nrow_below HVP.out (nbel_alloc V _)).of_block (hgrow.block _ (by simp; omega) (fun e => ?_))
          have := HOL5.out _ e.symm
          omega
        obtain ⟨av, nv, cv, ev5⟩ : ∃ a n c, v5 = .slice a n c := by
          rcases hown.2 with h | ⟨g, cp, _, e, _⟩
          · exact ⟨none, 0, 0, h.1⟩
          · exact ⟨_, _, _, e⟩
        have hv5 : W5.ownsRow (w.heap.size + 2) 38 3 v5 (l ++ [(⟨1 + x1, x2, x3⟩ : Tb.Pc)]).length (pv (l ++ [(⟨1 + x1, x2, x3⟩ : Tb.Pc)])) := by rw [pv_app, pv_one, List.length_append]; exact hown
        have HS6 : Hid (DtS sb w.heap.size 0 (r + (1 + x1)) v5 (l ++ [(⟨1 + x1, x2, x3⟩ : Tb.Pc)]) w ((W5.setCell ⟨w.heap.size + 1, 1, none⟩ v5).setCell ⟨w.heap.size + 1, 0, none⟩ (.int .i64 (r + (1 + x1))))) := by
          have zb : Below (w.heap.size + 1) W5 ((W5.setCell ⟨w.heap.size + 1, 1, none⟩ v5).setCell ⟨w.heap.size + 1, 0, none⟩ (.int .i64 (r + (1 + x1)))) := ((Below.refl _ _).setCell (p := ⟨w.heap.size + 1, 1, none⟩) (Nat.le_refl _) _).setCell (p := ⟨w.heap.size + 1, 0, none⟩) (Nat.le_refl _) _
          have hr0 := HSV.out.r0
          have hr1 := HSV.out.r1
          refine ⟨(HSV.out.src.low hb5 (by omega)).low zb (by omega), (HSV.out.chg.of_low hb5 (by omega)).of_low zb (by omega), (HSV.out.res.of_block (hb5.block _ (by omega))).of_block (zb.block _ (by omega)), rowN_put (rowN_put ht5 1 _ (by simp)) 0 _ (by simp), ownsRow_setCell_below (ownsRow_setCell_below hv5 (by show w.heap.size + 1 < _; omega) _) (by show w.heap.size + 1 < _; omega) _, hlo, by omega, by rw [List.length_append]; simp; omega⟩
        obtain ⟨⟨u0, u1⟩, g0, g1⟩ := rowN2 ht5
        obtain ⟨⟨b0, b1, b2⟩, _⟩ := rowN3 hp5
        have hl5 := ht5.lt
        have hr0 := HSV.out.r0
        have hr1 : r ≤ 10000 := by have := HSV.out.r1; omega
        have hne : w5.heap.size ≠ w.heap.size + 1 := by omega
        subst ev5
        clear hown hgrow hnil hrow hb5 ht5 hp5 hv5 t0' t1' HSV HVP
        go_wp2_with fail
        obtain ⟨k', rfl⟩ : ∃ k', k = k' + 1 := ⟨k - 1, by omega⟩
        go_roundw
        case rel => exact ⟨k', r + (1 + x1), _, l ++ [(⟨1 + x1, x2, x3⟩ : Tb.Pc)], by go_num, by rw [List.length_append]; simp; omega, HS6⟩
        case measure => simp [intOf]
      · obtain rfl : k = 0 := by omega
        go_wp2_with fail
        refine (one_any sb _ _ hS.out.src (by omega)).mono ?_
        rintro e w3 ⟨⟨b, rfl⟩, hD⟩
        have HS3 := Lib.hid (hS.out.drew hD)
        clear hD hS
        rcases b with _ | _
        · go_wp2_with fail
          refine (one_any sb _ _ HS3.out.src (by omega)).mono ?_
          rintro e w6 ⟨⟨b, rfl⟩, hD⟩
          have HS6 := Lib.hid (HS3.out.drew hD)
          clear hD HS3
          obtain ⟨⟨t0, t1⟩, f0, f1⟩ := rowN2 HS6.out.tub
          obtain ⟨⟨q0, q1⟩, g0, g1⟩ := rowN2 HS6.out.res
          have hlt := HS6.out.tub.lt
          have hqt := HS6.out.res.lt
          have hlo := HS6.out.lo
          obtain ⟨aV, cV, eV, howV⟩ := owl_of HS6.out.own
          subst eV
          have HOW := Lib.hid howV
          have hr0 := HS6.out.r0
          have hr1 := HS6.out.r1
          clear howV
          rcases b with _ | _
          · go_wp2_with fail
            have zr := rowN_put (rowN_put HS6.out.res 0 (.int .i64 r) (by simp)) 1 (.slice aV l.length cV) (by simp)
            have zb : Below w.heap.size w6 ((w6.setCell ⟨w.heap.size, 0, none⟩ (.int .i64 r)).setCell ⟨w.heap.size, 1, none⟩ (.slice aV l.length cV)) := ((Below.refl _ _).setCell (p := ⟨w.heap.size, 0, none⟩) (Nat.le_refl _) _).setCell (p := ⟨w.heap.size, 1, none⟩) (Nat.le_refl _) _
            have zk : ∀ k, k ≠ w.heap.size → ((w6.setCell ⟨w.heap.size, 0, none⟩ (.int .i64 r)).setCell ⟨w.heap.size, 1, none⟩ (.slice aV l.length cV)).heap[k]? = w6.heap[k]? := fun k hk => by rw [Below.heap_setCell _ _ _ _ (by show k ≠ w.heap.size; exact hk), Below.heap_setCell _ _ _ _ (by show k ≠ w.heap.size; exact hk)]
            generalize (w6.setCell ⟨w.heap.size, 0, none⟩ (.int .i64 r)).setCell ⟨w.heap.size, 1, none⟩ (.slice aV l.length cV) = Y at zr zb zk ⊢
            obtain ⟨⟨y0, y1⟩, _⟩ := rowN2 zr
            exact bodyPost_ret (v := tbV r aV l.length cV) (by simp only [results, Tryd.results29]; simp [go_sem, y0, y1]) rfl ⟨⟨r, aV, l, cV, rfl, (HOW.out.keep (fun k e _ => zk k (by have := (HOW.out.lt e).1; omega))).low (by omega), by omega, by omega, by omega⟩, HS6.out.src.low zb (by omega), HS6.out.chg.of_low zb (by omega)⟩
          · go_wp2_with fail
            have zr := rowN_put (rowN_put (nrow_set HS6.out.res (p := ⟨w.heap.size + 1, 1, none⟩) (by show w.heap.size ≠ w.heap.size + 1; omega) (.slice none 0 0)) 0 (.int .i64 r) (by simp)) 1 (.slice none 0 0) (by simp)
            have zb : Below w.heap.size w6 (((w6.setCell ⟨w.heap.size + 1, 1, none⟩ (.slice none 0 0)).setCell ⟨w.heap.size, 0, none⟩ (.int .i64 r)).setCell ⟨w.heap.size, 1, none⟩ (.slice none 0 0)) := (((Below.refl _ _).setCell (p := ⟨w.heap.size + 1, 1, none⟩) (by show w.heap.size ≤ w.heap.size + 1; omega) _).setCell (p := ⟨w.heap.size, 0, none⟩) (Nat.le_refl _) _).setCell (p := ⟨w.heap.size, 1, none⟩) (Nat.le_refl _) _
            generalize ((w6.setCell ⟨w.heap.size + 1, 1, none⟩ (.slice none 0 0)).setCell ⟨w.heap.size, 0, none⟩ (.int .i64 r)).setCell ⟨w.heap.size, 1, none⟩ (.slice none 0 0) = Y at zr zb ⊢
            obtain ⟨⟨y0, y1⟩, _⟩ := rowN2 zr
            exact bodyPost_ret (v := tbV r none 0 0) (by simp only [results, Tryd.results29]; simp [go_sem, y0, y1]) rfl ⟨⟨r, none, [], 0, rfl, Or.inl ⟨rfl, rfl, rfl⟩, by simp, by omega, by omega⟩, HS6.out.src.low zb (by omega), HS6.out.chg.of_low zb (by omega)⟩
        · go_wp2_with fail
          obtain ⟨⟨t0, t1⟩, f0, f1⟩ := rowN2 HS3.out.tub
          refine wp_region_held_drew (S := fun _ => True) (by kernel_rfl) trivial (fun hHeld => ?_)
          have HSZ : Hid (DtS sb w.heap.size 0 r lv l w w3.drew) := HS3.out.below (Below.refl _ _).drew
          clear t0 t1 f0 f1 HS3
          obtain ⟨Z, hZ⟩ : ∃ Z, Z = w3.drew := ⟨_, rfl⟩
          rw [← hZ] at HSZ ⊢
          clear hZ
          refine take_do (i := 0) (v := .pointer (some ⟨w.heap.size + 1, 0, none⟩)) rfl (by kernel_rfl) (by kernel_rfl) (by kernel_rfl) (fun _ _ _ h => h) (by rfl) ?_ trivial ?_
          · intro w hSw
            go_simp
          simp only [Act.put, List.setIfInBounds_toArray, List.set_cons_zero, List.set_cons_succ]
          refine take_do (i := 2) (v := .pointer (some ⟨sb, 0, none⟩)) rfl (by kernel_rfl) (by kernel_rfl) (by kernel_rfl) (fun _ _ _ h => h) (by rfl) ?_ trivial ?_
          · intro w hSw
            go_simp
          simp only [Act.put, List.setIfInBounds_toArray, List.set_cons_zero, List.set_cons_succ]
          refine wpAnyH_ready (rs := [1, 3]) (by kernel_rfl) (by simp) (AllReadyH.cons (at_drop (i := 1) rfl) (fun K2 hK => ?_) (AllReadyH.cons (at_drop (i := 3) rfl) (fun K2 hK => ?_) (AllReadyH.nil)))
          · obtain ⟨⟨t0, t1⟩, f0, f1⟩ := rowN2 HSZ.out.tub
            go_simp
            refine hK.out _ _ trivial (fun _ => ?_)
            clear hK t0 t1 f0 f1
            refine take_call (i := 3) rfl (by kernel_rfl) (fun K2 hK => ?_)
            go_simp
            refine (n_any sb _ _ HSZ.out.src (by omega)).mono ?_
            rintro e Z1 ⟨⟨y, rfl, ya, yb, yc⟩, hD⟩
            have HSN := Lib.hid (HSZ.out.drew hD)
            have hy := yb (by omega)
            clear hD HSZ yb yc
            have HSZ := HSN
            clear HSN
            go_wp2_with fail
            refine hK.out _ _ trivial (fun _ => ?_)
            clear hK
            refine take_do (i := 4) (v := .int .i64 (r + y)) rfl (by kernel_rfl) (by kernel_rfl) (by kernel_rfl) (fun _ _ _ h => h) (by rfl) ?_ trivial ?_
            · intro w hSw
              have hr0 := HSZ.out.r0
              have hr1 := HSZ.out.r1
              have h1 : r + y ≤ 100000 := by omega
              have h2 : -100000 ≤ r + y := by omega
              go_simp
              exact twrap (by omega) (by omega)
            simp only [Act.put, List.setIfInBounds_toArray, List.set_cons_zero, List.set_cons_succ]
            refine take_do (i := 5) (v := .int .i64 (r + y - 1)) rfl (by kernel_rfl) (by kernel_rfl) (by kernel_rfl) (fun _ _ _ h => h) (by rfl) ?_ trivial ?_
            · intro w hSw
              have hr0 := HSZ.out.r0
              have hr1 := HSZ.out.r1
              have h1 : r + y ≤ 100000 := by omega
              have h2 : -100000 ≤ r + y := by omega
              go_simp
              exact twrap (by omega) (by omega)
            simp only [Act.put, List.setIfInBounds_toArray, List.set_cons_zero, List.set_cons_succ]
            refine take_do (i := 6) (v := .pointer (some ⟨w.heap.size + 1, 0, none⟩)) rfl (by kernel_rfl) (by kernel_rfl) (by kernel_rfl) (fun _ _ _ h => h) (by rfl) ?_ trivial ?_
            · intro w hSw
              go_simp
            simp only [Act.put, List.setIfInBounds_toArray, List.set_cons_zero, List.set_cons_succ]
            refine take_call (i := 7) rfl (by kernel_rfl) (fun K2 hK => ?_)
            obtain ⟨⟨t0, t1⟩, f0, f1⟩ := rowN2 HSZ.out.tub
            have htl := HSZ.out.tub.lt
            have hlo9 := HSZ.out.lo
            have HSR : Hid (DtS sb w.heap.size 2 (r + y - 1) lv l w (Z1.setCell ⟨w.heap.size + 1, 0, none⟩ (.int .i64 (r + y - 1)))) := by
              have zb : Below (w.heap.size + 1) Z1 (Z1.setCell ⟨w.heap.size + 1, 0, none⟩ (.int .i64 (r + y - 1))) := (Below.refl _ _).setCell (p := ⟨w.heap.size + 1, 0, none⟩) (Nat.le_refl _) _
              have hr0 := HSZ.out.r0
              have hr1 := HSZ.out.r1
              exact ⟨HSZ.out.src.low zb (by omega), HSZ.out.chg.of_low zb (by omega), HSZ.out.res.of_block (zb.block _ (by omega)), rowN_put HSZ.out.tub 0 _ (by simp), ownsRow_setCell_below HSZ.out.own (by show w.heap.size + 1 < _; omega) _, HSZ.out.lo, by omega, by omega⟩
            go_simp
            refine hK.out _ _ trivial (fun _ => ?_)
            clear hK t0 t1 f0 f1 HSZ htl
            refine wpAnyH_done (by kernel_rfl) ?_ _
            go_wp2_with fail
            refine (one_any sb _ _ HSR.out.src (by omega)).mono ?_
            rintro e w6 ⟨⟨b, rfl⟩, hD⟩
            have HS6 := Lib.hid (HSR.out.drew hD)
            clear hD HSR
            obtain ⟨⟨t0, t1⟩, f0, f1⟩ := rowN2 HS6.out.tub
            obtain ⟨⟨q0, q1⟩, g0, g1⟩ := rowN2 HS6.out.res
            have hlt := HS6.out.tub.lt
            have hqt := HS6.out.res.lt
            have hlo := HS6.out.lo
            obtain ⟨aV, cV, eV, howV⟩ := owl_of HS6.out.own
            subst eV
            have HOW := Lib.hid howV
            have hr0 := HS6.out.r0
            have hr1 := HS6.out.r1
            clear howV
            rcases b with _ | _
            · go_wp2_with fail
              have zr := rowN_put (rowN_put HS6.out.res 0 (.int .i64 (r + y - 1)) (by simp)) 1 (.slice aV l.length cV) (by simp)
              have zb : Below w.heap.size w6 ((w6.setCell ⟨w.heap.size, 0, none⟩ (.int .i64 (r + y - 1))).setCell ⟨w.heap.size, 1, none⟩ (.slice aV l.length cV)) := ((Below.refl _ _).setCell (p := ⟨w.heap.size, 0, none⟩) (Nat.le_refl _) _).setCell (p := ⟨w.heap.size, 1, none⟩) (Nat.le_refl _) _
              have zk : ∀ k, k ≠ w.heap.size → ((w6.setCell ⟨w.heap.size, 0, none⟩ (.int .i64 (r + y - 1))).setCell ⟨w.heap.size, 1, none⟩ (.slice aV l.length cV)).heap[k]? = w6.heap[k]? := fun k hk => by rw [Below.heap_setCell _ _ _ _ (by show k ≠ w.heap.size; exact hk), Below.heap_setCell _ _ _ _ (by show k ≠ w.heap.size; exact hk)]
              generalize (w6.setCell ⟨w.heap.size, 0, none⟩ (.int .i64 (r + y - 1))).setCell ⟨w.heap.size, 1, none⟩ (.slice aV l.length cV) = Y at zr zb zk ⊢
              obtain ⟨⟨y0, y1⟩, _⟩ := rowN2 zr
              exact bodyPost_ret (v := tbV (r + y - 1) aV l.length cV) (by simp only [results, Tryd.results29]; simp [go_sem, y0, y1]) rfl ⟨⟨(r + y - 1), aV, l, cV, rfl, (HOW.out.keep (fun k e _ => zk k (by have := (HOW.out.lt e).1; omega))).low (by omega), by omega, by omega, by omega⟩, HS6.out.src.low zb (by omega), HS6.out.chg.of_low zb (by omega)⟩
            · go_wp2_with fail
              have zr := rowN_put (rowN_put (nrow_set HS6.out.res (p := ⟨w.heap.size + 1, 1, none⟩) (by show w.heap.size ≠ w.heap.size + 1; omega) (.slice none 0 0)) 0 (.int .i64 (r + y - 1)) (by simp)) 1 (.slice none 0 0) (by simp)
              have zb : Below w.heap.size w6 (((w6.setCell ⟨w.heap.size + 1, 1, none⟩ (.slice none 0 0)).setCell ⟨w.heap.size, 0, none⟩ (.int .i64 (r + y - 1))).setCell ⟨w.heap.size, 1, none⟩ (.slice none 0 0)) := (((Below.refl _ _).setCell (p := ⟨w.heap.size + 1, 1, none⟩) (by show w.heap.size ≤ w.heap.size + 1; omega) _).setCell (p := ⟨w.heap.size, 0, none⟩) (Nat.le_refl _) _).setCell (p := ⟨w.heap.size, 1, none⟩) (Nat.le_refl _) _
              generalize ((w6.setCell ⟨w.heap.size + 1, 1, none⟩ (.slice none 0 0)).setCell ⟨w.heap.size, 0, none⟩ (.int .i64 (r + y - 1))).setCell ⟨w.heap.size, 1, none⟩ (.slice none 0 0) = Y at zr zb ⊢
              obtain ⟨⟨y0, y1⟩, _⟩ := rowN2 zr
              exact bodyPost_ret (v := tbV (r + y - 1) none 0 0) (by simp only [results, Tryd.results29]; simp [go_sem, y0, y1]) rfl ⟨⟨(r + y - 1), none, [], 0, rfl, Or.inl ⟨rfl, rfl, rfl⟩, by simp, by omega, by omega⟩, HS6.out.src.low zb (by omega), HS6.out.chg.of_low zb (by omega)⟩
          · go_simp
            refine (n_any sb _ _ HSZ.out.src (by omega)).mono ?_
            rintro e Z1 ⟨⟨y, rfl, ya, yb, yc⟩, hD⟩
            have HSN := Lib.hid (HSZ.out.drew hD)
            have hy := yb (by omega)
            clear hD HSZ yb yc
            have HSZ := HSN
            clear HSN
            go_wp2_with fail
            refine hK.out _ _ trivial (fun _ => ?_)
            clear hK
            refine take_call (i := 1) rfl (by kernel_rfl) (fun K2 hK => ?_)
            obtain ⟨⟨t0, t1⟩, f0, f1⟩ := rowN2 HSZ.out.tub
            go_simp
            refine hK.out _ _ trivial (fun _ => ?_)
            clear hK t0 t1 f0 f1
            refine take_do (i := 4) (v := .int .i64 (r + y)) rfl (by kernel_rfl) (by kernel_rfl) (by kernel_rfl) (fun _ _ _ h => h) (by rfl) ?_ trivial ?_
            · intro w hSw
              have hr0 := HSZ.out.r0
              have hr1 := HSZ.out.r1
              have h1 : r + y ≤ 100000 := by omega
              have h2 : -100000 ≤ r + y := by omega
              go_simp
              exact twrap (by omega) (by omega)
            simp only [Act.put, List.setIfInBounds_toArray, List.set_cons_zero, List.set_cons_succ]
            refine take_do (i := 5) (v := .int .i64 (r + y - 1)) rfl (by kernel_rfl) (by kernel_rfl) (by kernel_rfl) (fun _ _ _ h => h) (by rfl) ?_ trivial ?_
            · intro w hSw
              have hr0 := HSZ.out.r0
              have hr1 := HSZ.out.r1
              have h1 : r + y ≤ 100000 := by omega
              have h2 : -100000 ≤ r + y := by omega
              go_simp
              exact twrap (by omega) (by omega)
            simp only [Act.put, List.setIfInBounds_toArray, List.set_cons_zero, List.set_cons_succ]
            refine take_do (i := 6) (v := .pointer (some ⟨w.heap.size + 1, 0, none⟩)) rfl (by kernel_rfl) (by kernel_rfl) (by kernel_rfl) (fun _ _ _ h => h) (by rfl) ?_ trivial ?_
            · intro w hSw
              go_simp
            simp only [Act.put, List.setIfInBounds_toArray, List.set_cons_zero, List.set_cons_succ]
            refine take_call (i := 7) rfl (by kernel_rfl) (fun K2 hK => ?_)
            obtain ⟨⟨t0, t1⟩, f0, f1⟩ := rowN2 HSZ.out.tub
            have htl := HSZ.out.tub.lt
            have hlo9 := HSZ.out.lo
            have HSR : Hid (DtS sb w.heap.size 2 (r + y - 1) lv l w (Z1.setCell ⟨w.heap.size + 1, 0, none⟩ (.int .i64 (r + y - 1)))) := by
              have zb : Below (w.heap.size + 1) Z1 (Z1.setCell ⟨w.heap.size + 1, 0, none⟩ (.int .i64 (r + y - 1))) := (Below.refl _ _).setCell (p := ⟨w.heap.size + 1, 0, none⟩) (Nat.le_refl _) _
              have hr0 := HSZ.out.r0
              have hr1 := HSZ.out.r1
              exact ⟨HSZ.out.src.low zb (by omega), HSZ.out.chg.of_low zb (by omega), HSZ.out.res.of_block (zb.block _ (by omega)), rowN_put HSZ.out.tub 0 _ (by simp), ownsRow_setCell_below HSZ.out.own (by show w.heap.size + 1 < _; omega) _, HSZ.out.lo, by omega, by omega⟩
            go_simp
            refine hK.out _ _ trivial (fun _ => ?_)
            clear hK t0 t1 f0 f1 HSZ htl
            refine wpAnyH_done (by kernel_rfl) ?_ _
            go_wp2_with fail
            refine (one_any sb _ _ HSR.out.src (by omega)).mono ?_
            rintro e w6 ⟨⟨b, rfl⟩, hD⟩
            have HS6 := Lib.hid (HSR.out.drew hD)
            clear hD HSR
            obtain ⟨⟨t0, t1⟩, f0, f1⟩ := rowN2 HS6.out.tub
            obtain ⟨⟨q0, q1⟩, g0, g1⟩ := rowN2 HS6.out.res
            have hlt := HS6.out.tub.lt
            have hqt := HS6.out.res.lt
            have hlo := HS6.out.lo
            obtain ⟨aV, cV, eV, howV⟩ := owl_of HS6.out.own
            subst eV
            have HOW := Lib.hid howV
            have hr0 := HS6.out.r0
            have hr1 := HS6.out.r1
            clear howV
            rcases b with _ | _
            · go_wp2_with fail
              have zr := rowN_put (rowN_put HS6.out.res 0 (.int .i64 (r + y - 1)) (by simp)) 1 (.slice aV l.length cV) (by simp)
              have zb : Below w.heap.size w6 ((w6.setCell ⟨w.heap.size, 0, none⟩ (.int .i64 (r + y - 1))).setCell ⟨w.heap.size, 1, none⟩ (.slice aV l.length cV)) := ((Below.refl _ _).setCell (p := ⟨w.heap.size, 0, none⟩) (Nat.le_refl _) _).setCell (p := ⟨w.heap.size, 1, none⟩) (Nat.le_refl _) _
              have zk : ∀ k, k ≠ w.heap.size → ((w6.setCell ⟨w.heap.size, 0, none⟩ (.int .i64 (r + y - 1))).setCell ⟨w.heap.size, 1, none⟩ (.slice aV l.length cV)).heap[k]? = w6.heap[k]? := fun k hk => by rw [Below.heap_setCell _ _ _ _ (by show k ≠ w.heap.size; exact hk), Below.heap_setCell _ _ _ _ (by show k ≠ w.heap.size; exact hk)]
              generalize (w6.setCell ⟨w.heap.size, 0, none⟩ (.int .i64 (r + y - 1))).setCell ⟨w.heap.size, 1, none⟩ (.slice aV l.length cV) = Y at zr zb zk ⊢
              obtain ⟨⟨y0, y1⟩, _⟩ := rowN2 zr
              exact bodyPost_ret (v := tbV (r + y - 1) aV l.length cV) (by simp only [results, Tryd.results29]; simp [go_sem, y0, y1]) rfl ⟨⟨(r + y - 1), aV, l, cV, rfl, (HOW.out.keep (fun k e _ => zk k (by have := (HOW.out.lt e).1; omega))).low (by omega), by omega, by omega, by omega⟩, HS6.out.src.low zb (by omega), HS6.out.chg.of_low zb (by omega)⟩
            · go_wp2_with fail
              have zr := rowN_put (rowN_put (nrow_set HS6.out.res (p := ⟨w.heap.size + 1, 1, none⟩) (by show w.heap.size ≠ w.heap.size + 1; omega) (.slice none 0 0)) 0 (.int .i64 (r + y - 1)) (by simp)) 1 (.slice none 0 0) (by simp)
              have zb : Below w.heap.size w6 (((w6.setCell ⟨w.heap.size + 1, 1, none⟩ (.slice none 0 0)).setCell ⟨w.heap.size, 0, none⟩ (.int .i64 (r + y - 1))).setCell ⟨w.heap.size, 1, none⟩ (.slice none 0 0)) := (((Below.refl _ _).setCell (p := ⟨w.heap.size + 1, 1, none⟩) (by show w.heap.size ≤ w.heap.size + 1; omega) _).setCell (p := ⟨w.heap.size, 0, none⟩) (Nat.le_refl _) _).setCell (p := ⟨w.heap.size, 1, none⟩) (Nat.le_refl _) _
              generalize ((w6.setCell ⟨w.heap.size + 1, 1, none⟩ (.slice none 0 0)).setCell ⟨w.heap.size, 0, none⟩ (.int .i64 (r + y - 1))).setCell ⟨w.heap.size, 1, none⟩ (.slice none 0 0) = Y at zr zb ⊢
              obtain ⟨⟨y0, y1⟩, _⟩ := rowN2 zr
              exact bodyPost_ret (v := tbV (r + y - 1) none 0 0) (by simp only [results, Tryd.results29]; simp [go_sem, y0, y1]) rfl ⟨⟨(r + y - 1), none, [], 0, rfl, Or.inl ⟨rfl, rfl, rfl⟩, by simp, by omega, by omega⟩, HS6.out.src.low zb (by omega), HS6.out.chg.of_low zb (by omega)⟩
  · go_wp2_with fail
    refine (n_any sb _ _ HS2.out.src (by omega)).mono ?_
    rintro e w3 ⟨⟨x, rfl, y0, y1, y2⟩, hD⟩
    have hS2 := Lib.hid (HS2.out.drew hD)
    have hx := y1 (by omega)
    obtain ⟨n, hn⟩ : ∃ n : Nat, (n : Int) = 58 + x := ⟨(58 + x).toNat, by omega⟩
    have hn61 : n ≤ 61 := by omega
    have HN := Lib.hid hn
    clear hD y1 y2 HS2
    have hnx : 58 + x = (n : Int) := hn.symm
    clear hn
    go_wp2_with fail
    clear hnx
    go_loopw [4] (fun nv wr => ∃ (k : Nat) (r : Int) (lv : Value) (l : List Tb.Pc), nv = .int .i64 k ∧ k + l.length ≤ 61 ∧ Hid (DtS sb w.heap.size 0 r lv l w wr)) (fun nv _ => (intOf nv).toNat)
    case atStart => exact ⟨n, 0, _, [], rfl, by simpa using hn61, hS2⟩
    case round =>
      obtain ⟨k, r, lv, l, rfl, hk, hS⟩ := hrel
      clear hS2
      by_cases hlt : 0 < k
      · have hltz : (0 : Int) < (k : Int) := by omega
        go_wp2_with fail
        refine (n_any sb _ _ hS.out.src (by omega)).mono ?_
        rintro e w3 ⟨⟨x1, rfl, xa, xb, xc⟩, hD⟩
        have HS3 := Lib.hid (hS.out.drew hD)
        have hx1 := xb (by omega)
        clear hD hS xb xc
        go_wp2_with fail
        refine (n_any sb _ _ HS3.out.src (by omega)).mono ?_
        rintro e w4 ⟨⟨x2, rfl, ya, yb, yc⟩, hD⟩
        have HS4 := Lib.hid (HS3.out.drew hD)
        have hx2 := yb (by omega)
        clear hD HS3 yb yc
        go_wp2_with fail
        refine (n_any sb _ _ HS4.out.src (by omega)).mono ?_
        rintro e w5 ⟨⟨x3, rfl, za, zb, zc⟩, hD⟩
        have HS5 := Lib.hid (HS4.out.drew hD)
        have hx3 := zb (by omega)
        clear hD HS4 zb zc
        obtain ⟨⟨t0, t1⟩, f0, f1⟩ := rowN2 HS5.out.tub
        have hs5 : w.heap.size + 2 ≤ w5.heap.size := by have := HS5.out.tub.lt; omega
        obtain ⟨V, hV⟩ : ∃ V, V = w5.alloc (.cells #[.int .i64 (1 + x1), .int .i64 x2, .int .i64 x3] 38) := ⟨_, rfl⟩
        have HSV : Hid (DtS sb w.heap.size 0 r lv l w V) := by show DtS _ _ _ _ _ _ _ _; rw [hV]; exact HS5.out.below (nbel_alloc _ _)
        have HVP : Hid (V.rowIs w5.heap.size 38 3 (rowN (pcL (⟨1 + x1, x2, x3⟩ : Tb.Pc)))) := by show World.rowIs _ _ _ _ _; rw [hV]; exact rowN_alloc w5 _ _
        have hsV : V.heap.size = w5.heap.size + 1 := by rw [hV]; simp
        obtain ⟨⟨t0', t1'⟩, _⟩ := rowN2 HSV.out.tub
        rw [hV] at t0' t1'
        have HV := Lib.hid hV
        have HOL5 : Hid (∀ k, lv.ownBlock = some k → k < w5.heap.size) := fun k e => (HS5.out.own.lt k e).2
        have HSV5 := Lib.hid hsV
        clear hV t0 t1 f0 f1 HS5 hsV
        go_wp2_with (at_builtin; refine wpList_append_own _ rfl _ _ 23 rfl (w.heap.size + 2) 38 i1 _ 3 24 Tryd.underlying23 hi1 hy0 hy1 hy2 rfl (by decide) _ _ _ rfl (by rw [← HV.out]; exact HSV.out.own.alloc _) ⟨w5.heap.size + 1, 0, none⟩ 1 1 (pcL (⟨1 + x1, x2, x3⟩ : Tb.Pc)) rfl rfl ?d1 ?d2 ?d3 ?d4 ?d5 ?_)
        case d1 =>
          intro j x hj
          match j, hj with
          | 0, hj => simp at hj; subst hj; simp [Addr.add]
          | 1, hj => simp at hj; subst hj; simp [Addr.add]
          | 2, hj => simp at hj; subst hj; simp [Addr.add]
        case d2 =>
          intro x hx
          simp at hx
          rcases hx with rfl | rfl | rfl <;> rfl
        case d3 => unfold maxLen; omega
        case d4 => omega
        case d5 => simp; omega
        rw [← HV.out]
        intro v5 W5 hown hgrow hnil
        have hsV := HSV5.out
        have hlo := HSV.out.lo
        have hrow : ∀ k, lv.ownBlock = some k → w.heap.size + 2 ≤ k := fun k e => (HSV.out.own.lt k e).1
        have hb5 : Below (w.heap.size + 2) V W5 := ((Below.refl _ V).alloc (by omega) _).grown hgrow (by simp; omega) hrow
        have ht5 : W5.rowIs (w.heap.size + 1) 25 2 (rowN [.int .i64 r, lv]) := HSV.out.tub.of_block (hb5.block _ (by omega))
        have hp5 : W5.rowIs w5.heap.size 38 3 (rowN (pcL (⟨1 + x1, x2, x3⟩ : Tb.Pc))) := by
          refine (nrow_below HVP.out (nbel_alloc V _)).of_block (hgrow.block _ (by simp; omega) (fun e => ?_))
          have := HOL5.out _ e.symm
          omega
        obtain ⟨av, nv, cv, ev5⟩ : ∃ a n c, v5 = .slice a n c := by
          rcases hown.2 with h | ⟨g, cp, _, e, _⟩
          · exact ⟨none, 0, 0, h.1⟩
          · exact ⟨_, _, _, e⟩
        have hv5 : W5.ownsRow (w.heap.size + 2) 38 3 v5 (l ++ [(⟨1 + x1, x2, x3⟩ : Tb.Pc)]).length (pv (l ++ [(⟨1 + x1, x2, x3⟩ : Tb.Pc)])) := by rw [pv_app, pv_one, List.length_append]; exact hown
        have HS6 : Hid (DtS sb w.heap.size 0 (r + (1 + x1)) v5 (l ++ [(⟨1 + x1, x2, x3⟩ : Tb.Pc)]) w ((W5.setCell ⟨w.heap.size + 1, 1, none⟩ v5).setCell ⟨w.heap.size + 1, 0, none⟩ (.int .i64 (r + (1 + x1))))) := by
          have zb : Below (w.heap.size + 1) W5 ((W5.setCell ⟨w.heap.size + 1, 1, none⟩ v5).setCell ⟨w.heap.size + 1, 0, none⟩ (.int .i64 (r + (1 + x1)))) := ((Below.refl _ _).setCell (p := ⟨w.heap.size + 1, 1, none⟩) (Nat.le_refl _) _).setCell (p := ⟨w.heap.size + 1, 0, none⟩) (Nat.le_refl _) _
          have hr0 := HSV.out.r0
          have hr1 := HSV.out.r1
          refine ⟨(HSV.out.src.low hb5 (by omega)).low zb (by omega), (HSV.out.chg.of_low hb5 (by omega)).of_low zb (by omega), (HSV.out.res.of_block (hb5.block _ (by omega))).of_block (zb.block _ (by omega)), rowN_put (rowN_put ht5 1 _ (by simp)) 0 _ (by simp), ownsRow_setCell_below (ownsRow_setCell_below hv5 (by show w.heap.size + 1 < _; omega) _) (by show w.heap.size + 1 < _; omega) _, hlo, by omega, by rw [List.length_append]; simp; omega⟩
        obtain ⟨⟨u0, u1⟩, g0, g1⟩ := rowN2 ht5
        obtain ⟨⟨b0, b1, b2⟩, _⟩ := rowN3 hp5
        have hl5 := ht5.lt
        have hr0 := HSV.out.r0
        have hr1 : r ≤ 10000 := by have := HSV.out.r1; omega
        have hne : w5.heap.size ≠ w.heap.size + 1 := by omega
        subst ev5
        clear hown hgrow hnil hrow hb5 ht5 hp5 hv5 t0' t1' HSV HVP
        go_wp2_with fail
        obtain ⟨k', rfl⟩ : ∃ k', k = k' + 1 := ⟨k - 1, by omega⟩
        go_roundw
        case rel => exact ⟨k', r + (1 + x1), _, l ++ [(⟨1 + x1, x2, x3⟩ : Tb.Pc)], by go_num, by rw [List.length_append]; simp; omega, HS6⟩
        case measure => simp [intOf]
      · obtain rfl : k = 0 := by omega
        go_wp2_with fail
        refine (one_any sb _ _ hS.out.src (by omega)).mono ?_
        rintro e w3 ⟨⟨b, rfl⟩, hD⟩
        have HS3 := Lib.hid (hS.out.drew hD)
        clear hD hS
        rcases b with _ | _
        · go_wp2_with fail
          refine (one_any sb _ _ HS3.out.src (by omega)).mono ?_
          rintro e w6 ⟨⟨b, rfl⟩, hD⟩
          have HS6 := Lib.hid (HS3.out.drew hD)
          clear hD HS3
          obtain ⟨⟨t0, t1⟩, f0, f1⟩ := rowN2 HS6.out.tub
          obtain ⟨⟨q0, q1⟩, g0, g1⟩ := rowN2 HS6.out.res
          have hlt := HS6.out.tub.lt
          have hqt := HS6.out.res.lt
          have hlo := HS6.out.lo
          obtain ⟨aV, cV, eV, howV⟩ := owl_of HS6.out.own
          subst eV
          have HOW := Lib.hid howV
          have hr0 := HS6.out.r0
          have hr1 := HS6.out.r1
          clear howV
          rcases b with _ | _
          · go_wp2_with fail
            have zr := rowN_put (rowN_put HS6.out.res 0 (.int .i64 r) (by simp)) 1 (.slice aV l.length cV) (by simp)
            have zb : Below w.heap.size w6 ((w6.setCell ⟨w.heap.size, 0, none⟩ (.int .i64 r)).setCell ⟨w.heap.size, 1, none⟩ (.slice aV l.length cV)) := ((Below.refl _ _).setCell (p := ⟨w.heap.size, 0, none⟩) (Nat.le_refl _) _).setCell (p := ⟨w.heap.size, 1, none⟩) (Nat.le_refl _) _
            have zk : ∀ k, k ≠ w.heap.size → ((w6.setCell ⟨w.heap.size, 0, none⟩ (.int .i64 r)).setCell ⟨w.heap.size, 1, none⟩ (.slice aV l.length cV)).heap[k]? = w6.heap[k]? := fun k hk => by rw [Below.heap_setCell _ _ _ _ (by show k ≠ w.heap.size; exact hk), Below.heap_setCell _ _ _ _ (by show k ≠ w.heap.size; exact hk)]
            generalize (w6.setCell ⟨w.heap.size, 0, none⟩ (.int .i64 r)).setCell ⟨w.heap.size, 1, none⟩ (.slice aV l.length cV) = Y at zr zb zk ⊢
            obtain ⟨⟨y0, y1⟩, _⟩ := rowN2 zr
            exact bodyPost_ret (v := tbV r aV l.length cV) (by simp only [results, Tryd.results29]; simp [go_sem, y0, y1]) rfl ⟨⟨r, aV, l, cV, rfl, (HOW.out.keep (fun k e _ => zk k (by have := (HOW.out.lt e).1; omega))).low (by omega), by omega, by omega, by omega⟩, HS6.out.src.low zb (by omega), HS6.out.chg.of_low zb (by omega)⟩
          · go_wp2_with fail
            have zr := rowN_put (rowN_put (nrow_set HS6.out.res (p := ⟨w.heap.size + 1, 1, none⟩) (by show w.heap.size ≠ w.heap.size + 1; omega) (.slice none 0 0)) 0 (.int .i64 r) (by simp)) 1 (.slice none 0 0) (by simp)
            have zb : Below w.heap.size w6 (((w6.setCell ⟨w.heap.size + 1, 1, none⟩ (.slice none 0 0)).setCell ⟨w.heap.size, 0, none⟩ (.int .i64 r)).setCell ⟨w.heap.size, 1, none⟩ (.slice none 0 0)) := (((Below.refl _ _).setCell (p := ⟨w.heap.size + 1, 1, none⟩) (by show w.heap.size ≤ w.heap.size + 1; omega) _).setCell (p := ⟨w.heap.size, 0, none⟩) (Nat.le_refl _) _).setCell (p := ⟨w.heap.size, 1, none⟩) (Nat.le_refl _) _
            generalize ((w6.setCell ⟨w.heap.size + 1, 1, none⟩ (.slice none 0 0)).setCell ⟨w.heap.size, 0, none⟩ (.int .i64 r)).setCell ⟨w.heap.size, 1, none⟩ (.slice none 0 0) = Y at zr zb ⊢
            obtain ⟨⟨y0, y1⟩, _⟩ := rowN2 zr
            exact bodyPost_ret (v := tbV r none 0 0) (by simp only [results, Tryd.results29]; simp [go_sem, y0, y1]) rfl ⟨⟨r, none, [], 0, rfl, Or.inl ⟨rfl, rfl, rfl⟩, by simp, by omega, by omega⟩, HS6.out.src.low zb (by omega), HS6.out.chg.of_low zb (by omega)⟩
        · go_wp2_with fail
          obtain ⟨⟨t0, t1⟩, f0, f1⟩ := rowN2 HS3.out.tub
          refine wp_region_held_drew (S := fun _ => True) (by kernel_rfl) trivial (fun hHeld => ?_)
          have HSZ : Hid (DtS sb w.heap.size 0 r lv l w w3.drew) := HS3.out.below (Below.refl _ _).drew
          clear t0 t1 f0 f1 HS3
          obtain ⟨Z, hZ⟩ : ∃ Z, Z = w3.drew := ⟨_, rfl⟩
          rw [← hZ] at HSZ ⊢
          clear hZ
          refine take_do (i := 0) (v := .pointer (some ⟨w.heap.size + 1, 0, none⟩)) rfl (by kernel_rfl) (by kernel_rfl) (by kernel_rfl) (fun _ _ _ h => h) (by rfl) ?_ trivial ?_
          · intro w hSw
            go_simp
          simp only [Act.put, List.setIfInBounds_toArray, List.set_cons_zero, List.set_cons_succ]
          refine take_do (i := 2) (v := .pointer (some ⟨sb, 0, none⟩)) rfl (by kernel_rfl) (by kernel_rfl) (by kernel_rfl) (fun _ _ _ h => h) (by rfl) ?_ trivial ?_
          · intro w hSw
            go_simp
          simp only [Act.put, List.setIfInBounds_toArray, List.set_cons_zero, List.set_cons_succ]
          refine wpAnyH_ready (rs := [1, 3]) (by kernel_rfl) (by simp) (AllReadyH.cons (at_drop (i := 1) rfl) (fun K2 hK => ?_) (AllReadyH.cons (at_drop (i := 3) rfl) (fun K2 hK => ?_) (AllReadyH.nil)))
          · obtain ⟨⟨t0, t1⟩, f0, f1⟩ := rowN2 HSZ.out.tub
            go_simp
            refine hK.out _ _ trivial (fun _ => ?_)
            clear hK t0 t1 f0 f1
            refine take_call (i := 3) rfl (by kernel_rfl) (fun K2 hK => ?_)
            go_simp
            refine (n_any sb _ _ HSZ.out.src (by omega)).mono ?_
            rintro e Z1 ⟨⟨y, rfl, ya, yb, yc⟩, hD⟩
            have HSN := Lib.hid (HSZ.out.drew hD)
            have hy := yb (by omega)
            clear hD HSZ yb yc
            have HSZ := HSN
            clear HSN
            go_wp2_with fail
            refine hK.out _ _ trivial (fun _ => ?_)
            clear hK
            refine take_do (i := 4) (v := .int .i64 (r + y)) rfl (by kernel_rfl) (by kernel_rfl) (by kernel_rfl) (fun _ _ _ h => h) (by rfl) ?_ trivial ?_
            · intro w hSw
              have hr0 := HSZ.out.r0
              have hr1 := HSZ.out.r1
              have h1 : r + y ≤ 100000 := by omega
              have h2 : -100000 ≤ r + y := by omega
              go_simp
              exact twrap (by omega) (by omega)
            simp only [Act.put, List.setIfInBounds_toArray, List.set_cons_zero, List.set_cons_succ]
            refine take_do (i := 5) (v := .int .i64 (r + y - 1)) rfl (by kernel_rfl) (by kernel_rfl) (by kernel_rfl) (fun _ _ _ h => h) (by rfl) ?_ trivial ?_
            · intro w hSw
              have hr0 := HSZ.out.r0
              have hr1 := HSZ.out.r1
              have h1 : r + y ≤ 100000 := by omega
              have h2 : -100000 ≤ r + y := by omega
              go_simp
              exact twrap (by omega) (by omega)
            simp only [Act.put, List.setIfInBounds_toArray, List.set_cons_zero, List.set_cons_succ]
            refine take_do (i := 6) (v := .pointer (some ⟨w.heap.size + 1, 0, none⟩)) rfl (by kernel_rfl) (by kernel_rfl) (by kernel_rfl) (fun _ _ _ h => h) (by rfl) ?_ trivial ?_
            · intro w hSw
              go_simp
            simp only [Act.put, List.setIfInBounds_toArray, List.set_cons_zero, List.set_cons_succ]
            refine take_call (i := 7) rfl (by kernel_rfl) (fun K2 hK => ?_)
            obtain ⟨⟨t0, t1⟩, f0, f1⟩ := rowN2 HSZ.out.tub
            have htl := HSZ.out.tub.lt
            have hlo9 := HSZ.out.lo
            have HSR : Hid (DtS sb w.heap.size 2 (r + y - 1) lv l w (Z1.setCell ⟨w.heap.size + 1, 0, none⟩ (.int .i64 (r + y - 1)))) := by
              have zb : Below (w.heap.size + 1) Z1 (Z1.setCell ⟨w.heap.size + 1, 0, none⟩ (.int .i64 (r + y - 1))) := (Below.refl _ _).setCell (p := ⟨w.heap.size + 1, 0, none⟩) (Nat.le_refl _) _
              have hr0 := HSZ.out.r0
              have hr1 := HSZ.out.r1
              exact ⟨HSZ.out.src.low zb (by omega), HSZ.out.chg.of_low zb (by omega), HSZ.out.res.of_block (zb.block _ (by omega)), rowN_put HSZ.out.tub 0 _ (by simp), ownsRow_setCell_below HSZ.out.own (by show w.heap.size + 1 < _; omega) _, HSZ.out.lo, by omega, by omega⟩
            go_simp
            refine hK.out _ _ trivial (fun _ => ?_)
            clear hK t0 t1 f0 f1 HSZ htl
            refine wpAnyH_done (by kernel_rfl) ?_ _
            go_wp2_with fail
            refine (one_any sb _ _ HSR.out.src (by omega)).mono ?_
            rintro e w6 ⟨⟨b, rfl⟩, hD⟩
            have HS6 := Lib.hid (HSR.out.drew hD)
            clear hD HSR
            obtain ⟨⟨t0, t1⟩, f0, f1⟩ := rowN2 HS6.out.tub
            obtain ⟨⟨q0, q1⟩, g0, g1⟩ := rowN2 HS6.out.res
            have hlt := HS6.out.tub.lt
            have hqt := HS6.out.res.lt
            have hlo := HS6.out.lo
            obtain ⟨aV, cV, eV, howV⟩ := owl_of HS6.out.own
            subst eV
            have HOW := Lib.hid howV
            have hr0 := HS6.out.r0
            have hr1 := HS6.out.r1
            clear howV
            rcases b with _ | _
            · go_wp2_with fail
              have zr := rowN_put (rowN_put HS6.out.res 0 (.int .i64 (r + y - 1)) (by simp)) 1 (.slice aV l.length cV) (by simp)
              have zb : Below w.heap.size w6 ((w6.setCell ⟨w.heap.size, 0, none⟩ (.int .i64 (r + y - 1))).setCell ⟨w.heap.size, 1, none⟩ (.slice aV l.length cV)) := ((Below.refl _ _).setCell (p := ⟨w.heap.size, 0, none⟩) (Nat.le_refl _) _).setCell (p := ⟨w.heap.size, 1, none⟩) (Nat.le_refl _) _
              have zk : ∀ k, k ≠ w.heap.size → ((w6.setCell ⟨w.heap.size, 0, none⟩ (.int .i64 (r + y - 1))).setCell ⟨w.heap.size, 1, none⟩ (.slice aV l.length cV)).heap[k]? = w6.heap[k]? := fun k hk => by rw [Below.heap_setCell _ _ _ _ (by show k ≠ w.heap.size; exact hk), Below.heap_setCell _ _ _ _ (by show k ≠ w.heap.size; exact hk)]
              generalize (w6.setCell ⟨w.heap.size, 0, none⟩ (.int .i64 (r + y - 1))).setCell ⟨w.heap.size, 1, none⟩ (.slice aV l.length cV) = Y at zr zb zk ⊢
              obtain ⟨⟨y0, y1⟩, _⟩ := rowN2 zr
              exact bodyPost_ret (v := tbV (r + y - 1) aV l.length cV) (by simp only [results, Tryd.results29]; simp [go_sem, y0, y1]) rfl ⟨⟨(r + y - 1), aV, l, cV, rfl, (HOW.out.keep (fun k e _ => zk k (by have := (HOW.out.lt e).1; omega))).low (by omega), by omega, by omega, by omega⟩, HS6.out.src.low zb (by omega), HS6.out.chg.of_low zb (by omega)⟩
            · go_wp2_with fail
              have zr := rowN_put (rowN_put (nrow_set HS6.out.res (p := ⟨w.heap.size + 1, 1, none⟩) (by show w.heap.size ≠ w.heap.size + 1; omega) (.slice none 0 0)) 0 (.int .i64 (r + y - 1)) (by simp)) 1 (.slice none 0 0) (by simp)
              have zb : Below w.heap.size w6 (((w6.setCell ⟨w.heap.size + 1, 1, none⟩ (.slice none 0 0)).setCell ⟨w.heap.size, 0, none⟩ (.int .i64 (r + y - 1))).setCell ⟨w.heap.size, 1, none⟩ (.slice none 0 0)) := (((Below.refl _ _).setCell (p := ⟨w.heap.size + 1, 1, none⟩) (by show w.heap.size ≤ w.heap.size + 1; omega) _).setCell (p := ⟨w.heap.size, 0, none⟩) (Nat.le_refl _) _).setCell (p := ⟨w.heap.size, 1, none⟩) (Nat.le_refl _) _
              generalize ((w6.setCell ⟨w.heap.size + 1, 1, none⟩ (.slice none 0 0)).setCell ⟨w.heap.size, 0, none⟩ (.int .i64 (r + y - 1))).setCell ⟨w.heap.size, 1, none⟩ (.slice none 0 0) = Y at zr zb ⊢
              obtain ⟨⟨y0, y1⟩, _⟩ := rowN2 zr
              exact bodyPost_ret (v := tbV (r + y - 1) none 0 0) (by simp only [results, Tryd.results29]; simp [go_sem, y0, y1]) rfl ⟨⟨(r + y - 1), none, [], 0, rfl, Or.inl ⟨rfl, rfl, rfl⟩, by simp, by omega, by omega⟩, HS6.out.src.low zb (by omega), HS6.out.chg.of_low zb (by omega)⟩
          · go_simp
            refine (n_any sb _ _ HSZ.out.src (by omega)).mono ?_
            rintro e Z1 ⟨⟨y, rfl, ya, yb, yc⟩, hD⟩
            have HSN := Lib.hid (HSZ.out.drew hD)
            have hy := yb (by omega)
            clear hD HSZ yb yc
            have HSZ := HSN
            clear HSN
            go_wp2_with fail
            refine hK.out _ _ trivial (fun _ => ?_)
            clear hK
            refine take_call (i := 1) rfl (by kernel_rfl) (fun K2 hK => ?_)
            obtain ⟨⟨t0, t1⟩, f0, f1⟩ := rowN2 HSZ.out.tub
            go_simp
            refine hK.out _ _ trivial (fun _ => ?_)
            clear hK t0 t1 f0 f1
            refine take_do (i := 4) (v := .int .i64 (r + y)) rfl (by kernel_rfl) (by kernel_rfl) (by kernel_rfl) (fun _ _ _ h => h) (by rfl) ?_ trivial ?_
            · intro w hSw
              have hr0 := HSZ.out.r0
              have hr1 := HSZ.out.r1
              have h1 : r + y ≤ 100000 := by omega
              have h2 : -100000 ≤ r + y := by omega
              go_simp
              exact twrap (by omega) (by omega)
            simp only [Act.put, List.setIfInBounds_toArray, List.set_cons_zero, List.set_cons_succ]
            refine take_do (i := 5) (v := .int .i64 (r + y - 1)) rfl (by kernel_rfl) (by kernel_rfl) (by kernel_rfl) (fun _ _ _ h => h) (by rfl) ?_ trivial ?_
            · intro w hSw
              have hr0 := HSZ.out.r0
              have hr1 := HSZ.out.r1
              have h1 : r + y ≤ 100000 := by omega
              have h2 : -100000 ≤ r + y := by omega
              go_simp
              exact twrap (by omega) (by omega)
            simp only [Act.put, List.setIfInBounds_toArray, List.set_cons_zero, List.set_cons_succ]
            refine take_do (i := 6) (v := .pointer (some ⟨w.heap.size + 1, 0, none⟩)) rfl (by kernel_rfl) (by kernel_rfl) (by kernel_rfl) (fun _ _ _ h => h) (by rfl) ?_ trivial ?_
            · intro w hSw
              go_simp
            simp only [Act.put, List.setIfInBounds_toArray, List.set_cons_zero, List.set_cons_succ]
            refine take_call (i := 7) rfl (by kernel_rfl) (fun K2 hK => ?_)
            obtain ⟨⟨t0, t1⟩, f0, f1⟩ := rowN2 HSZ.out.tub
            have htl := HSZ.out.tub.lt
            have hlo9 := HSZ.out.lo
            have HSR : Hid (DtS sb w.heap.size 2 (r + y - 1) lv l w (Z1.setCell ⟨w.heap.size + 1, 0, none⟩ (.int .i64 (r + y - 1)))) := by
              have zb : Below (w.heap.size + 1) Z1 (Z1.setCell ⟨w.heap.size + 1, 0, none⟩ (.int .i64 (r + y - 1))) := (Below.refl _ _).setCell (p := ⟨w.heap.size + 1, 0, none⟩) (Nat.le_refl _) _
              have hr0 := HSZ.out.r0
              have hr1 := HSZ.out.r1
              exact ⟨HSZ.out.src.low zb (by omega), HSZ.out.chg.of_low zb (by omega), HSZ.out.res.of_block (zb.block _ (by omega)), rowN_put HSZ.out.tub 0 _ (by simp), ownsRow_setCell_below HSZ.out.own (by show w.heap.size + 1 < _; omega) _, HSZ.out.lo, by omega, by omega⟩
            go_simp
            refine hK.out _ _ trivial (fun _ => ?_)
            clear hK t0 t1 f0 f1 HSZ htl
            refine wpAnyH_done (by kernel_rfl) ?_ _
            go_wp2_with fail
            refine (one_any sb _ _ HSR.out.src (by omega)).mono ?_
            rintro e w6 ⟨⟨b, rfl⟩, hD⟩
            have HS6 := Lib.hid (HSR.out.drew hD)
            clear hD HSR
            obtain ⟨⟨t0, t1⟩, f0, f1⟩ := rowN2 HS6.out.tub
            obtain ⟨⟨q0, q1⟩, g0, g1⟩ := rowN2 HS6.out.res
            have hlt := HS6.out.tub.lt
            have hqt := HS6.out.res.lt
            have hlo := HS6.out.lo
            obtain ⟨aV, cV, eV, howV⟩ := owl_of HS6.out.own
            subst eV
            have HOW := Lib.hid howV
            have hr0 := HS6.out.r0
            have hr1 := HS6.out.r1
            clear howV
            rcases b with _ | _
            · go_wp2_with fail
              have zr := rowN_put (rowN_put HS6.out.res 0 (.int .i64 (r + y - 1)) (by simp)) 1 (.slice aV l.length cV) (by simp)
              have zb : Below w.heap.size w6 ((w6.setCell ⟨w.heap.size, 0, none⟩ (.int .i64 (r + y - 1))).setCell ⟨w.heap.size, 1, none⟩ (.slice aV l.length cV)) := ((Below.refl _ _).setCell (p := ⟨w.heap.size, 0, none⟩) (Nat.le_refl _) _).setCell (p := ⟨w.heap.size, 1, none⟩) (Nat.le_refl _) _
              have zk : ∀ k, k ≠ w.heap.size → ((w6.setCell ⟨w.heap.size, 0, none⟩ (.int .i64 (r + y - 1))).setCell ⟨w.heap.size, 1, none⟩ (.slice aV l.length cV)).heap[k]? = w6.heap[k]? := fun k hk => by rw [Below.heap_setCell _ _ _ _ (by show k ≠ w.heap.size; exact hk), Below.heap_setCell _ _ _ _ (by show k ≠ w.heap.size; exact hk)]
              generalize (w6.setCell ⟨w.heap.size, 0, none⟩ (.int .i64 (r + y - 1))).setCell ⟨w.heap.size, 1, none⟩ (.slice aV l.length cV) = Y at zr zb zk ⊢
              obtain ⟨⟨y0, y1⟩, _⟩ := rowN2 zr
              exact bodyPost_ret (v := tbV (r + y - 1) aV l.length cV) (by simp only [results, Tryd.results29]; simp [go_sem, y0, y1]) rfl ⟨⟨(r + y - 1), aV, l, cV, rfl, (HOW.out.keep (fun k e _ => zk k (by have := (HOW.out.lt e).1; omega))).low (by omega), by omega, by omega, by omega⟩, HS6.out.src.low zb (by omega), HS6.out.chg.of_low zb (by omega)⟩
            · go_wp2_with fail
              have zr := rowN_put (rowN_put (nrow_set HS6.out.res (p := ⟨w.heap.size + 1, 1, none⟩) (by show w.heap.size ≠ w.heap.size + 1; omega) (.slice none 0 0)) 0 (.int .i64 (r + y - 1)) (by simp)) 1 (.slice none 0 0) (by simp)
              have zb : Below w.heap.size w6 (((w6.setCell ⟨w.heap.size + 1, 1, none⟩ (.slice none 0 0)).setCell ⟨w.heap.size, 0, none⟩ (.int .i64 (r + y - 1))).setCell ⟨w.heap.size, 1, none⟩ (.slice none 0 0)) := (((Below.refl _ _).setCell (p := ⟨w.heap.size + 1, 1, none⟩) (by show w.heap.size ≤ w.heap.size + 1; omega) _).setCell (p := ⟨w.heap.size, 0, none⟩) (Nat.le_refl _) _).setCell (p := ⟨w.heap.size, 1, none⟩) (Nat.le_refl _) _
              generalize ((w6.setCell ⟨w.heap.size + 1, 1, none⟩ (.slice none 0 0)).setCell ⟨w.heap.size, 0, none⟩ (.int .i64 (r + y - 1))).setCell ⟨w.heap.size, 1, none⟩ (.slice none 0 0) = Y at zr zb ⊢
              obtain ⟨⟨y0, y1⟩, _⟩ := rowN2 zr
              exact bodyPost_ret (v := tbV (r + y - 1) none 0 0) (by simp only [results, Tryd.results29]; simp [go_sem, y0, y1]) rfl ⟨⟨(r + y - 1), none, [], 0, rfl, Or.inl ⟨rfl, rfl, rfl⟩, by simp, by omega, by omega⟩, HS6.out.src.low zb (by omega), HS6.out.chg.of_low zb (by omega)⟩
set_option maxRecDepth 100000 in
set_option maxHeartbeats 4000000 in
theorem drawTR_any (a : Option Addr) (len cap : Nat) (w : World) (h : Bytes a len w) (hl : len ≤ 4194304) :
    Calls Tryd.prog 12 #[.slice a len cap] w fun e w' => (∃ (r : Int) (a : Option Addr) (l : List Tb.Pc) (c : Nat), e = .returned (tbV r a l.length c) ∧ OwL 38 w.heap.size (l.length * 3) a c (Tb.fl l) w' ∧ l.length ≤ 61 ∧ (-9223372036854775808 ≤ r ∧ r ≤ 9223372036854775807)) ∧ Below w.heap.size w w' := by
  obtain ⟨W, hW⟩ : ∃ W, W = w.alloc (.cells #[.int .i64 0, .slice none 0 0] 25) := ⟨_, rfl⟩
  have hb : Below w.heap.size w W := by rw [hW]; exact nbel_alloc _ _
  have HR : Hid (W.rowIs w.heap.size 25 2 (rowN [.int .i64 0, .slice none 0 0])) := by show World.rowIs _ _ _ _ _; rw [hW]; exact rowN_alloc w _ _
  have HY : Hid (Bytes a len W) := fun i hi => by
    obtain ⟨cb, co, y, e, hc, y0, y1⟩ := h i hi
    exact ⟨cb, co, y, e, (hb.cell (World.block_lt_of_cell? _ _ hc)).trans hc, y0, y1⟩
  have HB := Lib.hid hb
  have HW := Lib.hid hW
  clear hW hb h
  go_enter Tryd.func12, Tryd.ntmps12
  go_wp2_with fail
  rw [← HW.out]
  clear HW
  refine (source_any a len cap _ HY.out hl).mono ?_
  rintro e w1 ⟨rfl, hsrc, hb1⟩
  have HS := Lib.hid hsrc
  have HR1 := Lib.hid (nrow_below HR.out hb1)
  have HB1 : Hid (Below w.heap.size w w1) := HB.out.trans (hb1.mono HB.out.size)
  have HS1 := Lib.hid hb1.size
  clear hsrc hb1
  go_wp2_with fail
  refine (l10Tube_any _ _ HS.out).mono ?_
  rintro e w2 ⟨⟨r, aT, l, c, rfl, ho, hll, hr0, hr1⟩, hD⟩
  have hwl := HR.out.lt
  have HR2 := Lib.hid (hD.2.row HR1.out (by omega))
  have HB2 : Hid (Below w.heap.size w w2) := HB1.out.trans (hD.2.below (by omega) HB1.out.size)
  have HO := Lib.hid ho
  have hs1 := HS1.out
  clear hD ho
  obtain ⟨⟨t0, t1⟩, f0, f1⟩ := rowN2 HR2.out
  have htl := HR2.out.lt
  go_wp2_with fail
  have zr := rowN_put (rowN_put HR2.out 0 (.int .i64 r) (by simp)) 1 (.slice aT l.length c) (by simp)
  have zb : Below w.heap.size w ((w2.setCell ⟨w.heap.size, 0, none⟩ (.int .i64 r)).setCell ⟨w.heap.size, 1, none⟩ (.slice aT l.length c)) := (HB2.out.setCell (p := ⟨w.heap.size, 0, none⟩) (Nat.le_refl _) _).setCell (p := ⟨w.heap.size, 1, none⟩) (Nat.le_refl _) _
  have zk : ∀ k, k ≠ w.heap.size → ((w2.setCell ⟨w.heap.size, 0, none⟩ (.int .i64 r)).setCell ⟨w.heap.size, 1, none⟩ (.slice aT l.length c)).heap[k]? = w2.heap[k]? := fun k hk => by rw [Below.heap_setCell _ _ _ _ (by show k ≠ w.heap.size; exact hk), Below.heap_setCell _ _ _ _ (by show k ≠ w.heap.size; exact hk)]
  generalize (w2.setCell ⟨w.heap.size, 0, none⟩ (.int .i64 r)).setCell ⟨w.heap.size, 1, none⟩ (.slice aT l.length c) = Y at zr zb zk ⊢
  obtain ⟨⟨y0, y1⟩, _⟩ := rowN2 zr
  exact bodyPost_ret (v := tbV r aT l.length c) (by simp only [results, Tryd.results12]; simp [go_sem, y0, y1]) rfl ⟨⟨r, aT, l, c, rfl, (HO.out.keep (fun k e _ => zk k (by have := (HO.out.lt e).1; omega))).low (by omega), hll, hr0, hr1⟩, zb⟩
end Go.Proofs.YtjmnehlgefpheaaDoor
