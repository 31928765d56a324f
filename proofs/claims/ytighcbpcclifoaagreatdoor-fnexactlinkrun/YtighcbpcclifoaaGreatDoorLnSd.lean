/-
  StationSend: the program's and the model's.
-/
import Derived.Test.YtighcbpcclifoaaGreatDoorLnMath2
import Derived.Test.YtighcbpcclifoaaGreatDoorLnI2
import Derived.Test.YtighcbpcclifoaaGreatDoorLnS1
import Derived.Test.YtighcbpcclifoaaGreatDoorFrI2
import Derived.Test.YtighcbpcclifoaaGreatDoorDecW
import Derived.Test.YtighcbpcclifoaaGreatDoorTextB
import Derived.Test.YtighcbpcclifoaaGreatDoorReg
import Derived.Lib.ConvBytes
import Derived.Laws.IdiomStrings
namespace Go.Proofs.YtighcbpcclifoaaGreatDoor
open Go.RowKit Go.Deep

theorem lntab {w w' : World} (h : TabOk w) (hb : Below w.heap.size w w') : TabOk w' := Lib.tabBelow_of_tabIs h w' hb
theorem lown_bel {B n : Nat} {v : Value} {xs : List Value} {W W' : World} (h : W.ownsRow B 5 1 v n xs) (hb : Below W.heap.size W W') : W'.ownsRow B 5 1 v n xs := by
  refine ⟨h.1, ?_⟩
  rcases h.2 with h2 | ⟨g, cap, cur, e1, e2, e3, e4⟩
  · exact Or.inl h2
  · refine Or.inr ⟨g, cap, cur, e1, e2, ?_, e4⟩
    rw [hb.block g (by
      rcases Nat.lt_or_ge g W.heap.size with h | h
      · exact h
      · rw [Array.getElem?_eq_none h] at e3; cases e3)]
    exact e3
set_option maxRecDepth 100000 in
set_option maxHeartbeats 4000000 in
theorem frameOf_any (q v u : Int) (w : World) (ht : TabOk w) (h1 : -9223372036854775808 ≤ v) (h2 : v ≤ 9223372036854775807) :
    Calls Tryz.prog 118 #[.agg #[.int .i64 q, .int .i64 v], .int .i64 u] w fun e w' => e = .returned (.agg #[.int .i64 u, .int .i64 3, .int .i64 q, .string ⟨(Lib.itoa v).toArray⟩]) ∧ Below w.heap.size w w' := by
  obtain ⟨W, hW⟩ : ∃ W, W = (w.alloc (.cells #[.int .i64 q, .int .i64 v] 37)).alloc (.cells #[.int .i64 0, .int .i64 0, .int .i64 0, .string ⟨#[]⟩] 85) := ⟨_, rfl⟩
  have HB : Hid (Below w.heap.size w W) := by show Below _ _ _; rw [hW]; exact ((Below.refl _ _).alloc (Nat.le_refl _) _).alloc (by simp) _
  have HX : Hid (W.rowIs w.heap.size 37 2 (rowN [.int .i64 q, .int .i64 v])) := by show W.rowIs _ _ _ _; rw [hW]; exact nrow_below (rowN_alloc w _ _) (nbel_alloc _ _)
  have HY : Hid (W.rowIs (w.heap.size + 1) 85 4 (rowN [.int .i64 0, .int .i64 0, .int .i64 0, .string ⟨#[]⟩])) := by show W.rowIs _ _ _ _; rw [hW]; exact rowN_alloc' (by simp) _ _
  have HT := Lib.hid ht
  have HW := Lib.hid hW
  clear hW ht
  go_enter Tryz.func118, Tryz.ntmps118
  go_wp2_with fail
  rw [← HW.out]
  clear HW
  refine wp_region_held_drew (S := fun V => V.rowIs w.heap.size 37 2 (rowN [.int .i64 q, .int .i64 v]) ∧ (∃ l, l.length = 4 ∧ V.rowIs (w.heap.size + 1) 85 4 (rowN l)) ∧ Below w.heap.size w V) (by kernel_rfl) ⟨HX.out.of_block rfl, ⟨_, rfl, HY.out.of_block rfl⟩, HB.out.drew⟩ (fun hHeld => ?_)
  obtain ⟨Z, hZ⟩ : ∃ Z, Z = W.drew := ⟨_, rfl⟩
  have HYZ : Hid (Z.rowIs (w.heap.size + 1) 85 4 (rowN [.int .i64 0, .int .i64 0, .int .i64 0, .string ⟨#[]⟩])) := by show World.rowIs _ _ _ _ _; rw [hZ]; exact HY.out.of_block rfl
  rw [← hZ] at hHeld ⊢
  clear hZ HX HY HB
  refine take_do (i := 0) (v := (.int .i64 u)) rfl (by kernel_rfl) (by kernel_rfl) (by kernel_rfl) (fun _ _ _ h => h) (by rfl) ?_ (by assumption) ?_
  · intro w hSw
    go_simp
  simp only [Act.put, List.setIfInBounds_toArray, List.set_cons_zero, List.set_cons_succ]
  refine take_do (i := 1) (v := (.pointer (some ⟨w.heap.size, 0, none⟩))) rfl (by kernel_rfl) (by kernel_rfl) (by kernel_rfl) (fun _ _ _ h => h) (by rfl) ?_ (by assumption) ?_
  · intro w hSw
    go_simp
  simp only [Act.put, List.setIfInBounds_toArray, List.set_cons_zero, List.set_cons_succ]
  refine take_do (i := 2) (v := (.int .i64 q)) rfl (by kernel_rfl) (by kernel_rfl) (by kernel_rfl) (fun _ _ _ h => h) (by rfl) ?_ (by assumption) ?_
  · intro w hSw
    obtain ⟨⟨q0, q1⟩, _⟩ := rowN2 hSw.1
    go_simp
  simp only [Act.put, List.setIfInBounds_toArray, List.set_cons_zero, List.set_cons_succ]
  refine take_do (i := 3) (v := (.pointer (some ⟨w.heap.size, 1, none⟩))) rfl (by kernel_rfl) (by kernel_rfl) (by kernel_rfl) (fun _ _ _ h => h) (by rfl) ?_ (by assumption) ?_
  · intro w hSw
    go_simp
  simp only [Act.put, List.setIfInBounds_toArray, List.set_cons_zero, List.set_cons_succ]
  refine take_do (i := 4) (v := (.int .i64 v)) rfl (by kernel_rfl) (by kernel_rfl) (by kernel_rfl) (fun _ _ _ h => h) (by rfl) ?_ (by assumption) ?_
  · intro w hSw
    obtain ⟨⟨q0, q1⟩, _⟩ := rowN2 hSw.1
    go_simp
  simp only [Act.put, List.setIfInBounds_toArray, List.set_cons_zero, List.set_cons_succ]
  refine take_call (i := 5) rfl (by kernel_rfl) (fun K2 hK => ?_)
  go_simp
  refine (fmt_any v h1 h2 _ (lntab HT.out hHeld.2.2)).mono ?_
  rintro e Z2 ⟨rfl, hb⟩
  have HY2 := Lib.hid (nrow_below HYZ.out hb)
  have hq : (fun V => V.rowIs w.heap.size 37 2 (rowN [.int .i64 q, .int .i64 v]) ∧ (∃ l, l.length = 4 ∧ V.rowIs (w.heap.size + 1) 85 4 (rowN l)) ∧ Below w.heap.size w V) Z2 := ⟨nrow_below hHeld.1 hb, ⟨_, rfl, HY2.out⟩, hHeld.2.2.trans (hb.mono hHeld.2.2.size)⟩
  go_wp2_with fail
  refine hK.out _ _ hq (fun hHeld2 => ?_)
  clear hK hHeld hb hq HYZ
  have hHeld := hHeld2
  clear hHeld2
  refine take_do (i := 6) (v := (.agg #[.int .i64 u, .int .i64 3, .int .i64 q, .string ⟨(Lib.itoa v).toArray⟩])) rfl (by kernel_rfl) (by kernel_rfl) (by kernel_rfl) (fun _ _ _ h => h) (by rfl) ?_ (by assumption) ?_
  · intro w hSw
    go_simp
  simp only [Act.put, List.setIfInBounds_toArray, List.set_cons_zero, List.set_cons_succ]
  obtain ⟨⟨y0, y1, y2, y3⟩, g0, g1, g2, g3⟩ := rowN4 HY2.out
  have hl1 := HY2.out.lt
  have zr := Lib.hid (rowN_put (rowN_put (rowN_put (rowN_put HY2.out 0 (.int .i64 u) (by simp)) 1 (.int .i64 3) (by simp)) 2 (.int .i64 q) (by simp)) 3 (.string ⟨(Lib.itoa v).toArray⟩) (by simp))
  have zb := Lib.hid ((((hHeld.2.2.setCell (p := ⟨w.heap.size + 1, 0, none⟩) (by show w.heap.size ≤ w.heap.size + 1; omega) (.int .i64 u)).setCell (p := ⟨w.heap.size + 1, 1, none⟩) (by show w.heap.size ≤ w.heap.size + 1; omega) (.int .i64 3)).setCell (p := ⟨w.heap.size + 1, 2, none⟩) (by show w.heap.size ≤ w.heap.size + 1; omega) (.int .i64 q)).setCell (p := ⟨w.heap.size + 1, 3, none⟩) (by show w.heap.size ≤ w.heap.size + 1; omega) (.string ⟨(Lib.itoa v).toArray⟩))
  have zx := Lib.hid (nrow_set (nrow_set (nrow_set (nrow_set hHeld.1 (p := ⟨w.heap.size + 1, 0, none⟩) (by show w.heap.size ≠ w.heap.size + 1; omega) (.int .i64 u)) (p := ⟨w.heap.size + 1, 1, none⟩) (by show w.heap.size ≠ w.heap.size + 1; omega) (.int .i64 3)) (p := ⟨w.heap.size + 1, 2, none⟩) (by show w.heap.size ≠ w.heap.size + 1; omega) (.int .i64 q)) (p := ⟨w.heap.size + 1, 3, none⟩) (by show w.heap.size ≠ w.heap.size + 1; omega) (.string ⟨(Lib.itoa v).toArray⟩))
  refine take_call (i := 7) rfl (by kernel_rfl) (fun K2 hK => ?_)
  go_simp
  refine hK.out _ _ ⟨zx.out, ⟨_, rfl, zr.out⟩, zb.out⟩ (fun hHeld2 => ?_)
  clear hK hHeld hHeld2
  refine wpAnyH_done (by kernel_rfl) ?_ _
  go_wp2_with fail
  refine bodyPost_ret (v := .agg #[.int .i64 u, .int .i64 3, .int .i64 q, .string ⟨(Lib.itoa v).toArray⟩]) ?_ rfl ⟨rfl, zb.out⟩
  obtain ⟨⟨u0, u1, u2, u3⟩, _⟩ := rowN4 zr.out
  simp only [results, Tryz.results118]
  simp [go_sem, u0, u1, u2, u3]
set_option maxRecDepth 100000 in
set_option maxHeartbeats 4000000 in
theorem implSend_any (s : Ln.S) (a : Option Addr) (k : Nat) (w : World) (h : IsIn a (s.wait.length * 2) (Ln.fl s.wait) w) (hn : s.wait.length ≤ 1048576) (ht : TabOk w) :
    Calls Tryz.prog 101 #[stV s a k] w fun e w' => e = .returned (.string ⟨s.send.toArray⟩) ∧ Below w.heap.size w w' := by
  obtain ⟨i0, hi, hz0, hz1, hz2⟩ := info_parts info_by
  obtain ⟨W, hW⟩ : ∃ W, W = w.alloc (stO s a k) := ⟨_, rfl⟩
  have HB : Hid (Below w.heap.size w W) := by show Below _ _ _; rw [hW]; exact nbel_alloc _ _
  have HX : Hid (W.rowIs w.heap.size 28 7 (rowN (stL s a k))) := by show W.rowIs _ _ _ _; rw [hW]; exact rowN_alloc w (stL s a k) _
  have H := Lib.hid h
  have HN := Lib.hid hn
  have HT := Lib.hid ht
  have HW := Lib.hid hW
  clear hW h hn ht
  go_enter Tryz.func101, Tryz.ntmps101
  go_wp2_with fail
  rw [← HW.out]
  clear HW
  refine (implSRight_any s a k _ (H.out.below HB.out) (by have := HN.out; omega)).mono ?_
  rintro e w1 ⟨rfl, hb⟩
  replace HX := Lib.hid (nrow_below HX.out hb)
  replace HB : Hid (Below w.heap.size w w1) := HB.out.trans (hb.mono HB.out.size)
  clear hb
  obtain ⟨⟨x0, x1, x2, x3, x4, x5, x6⟩, _⟩ := rowN7 HX.out
  by_cases c1 : s.Right
  case neg =>
    rw [lB_ff c1]
    have HE : Hid (s.send = []) := Ln.S.send_no c1
    clear c1
    go_wp2_with fail
    go_ret
    exact ⟨by rw [HE.out]; rfl, HB.out⟩
  rw [lB_tt c1]
  have HE : Hid (s.send = Ln.texts s.unit s.wait) := Ln.S.send_yes c1
  have HF := Lib.hid c1.fine
  have h40 : s.wait.length ≤ 40 := c1.2.1
  clear c1
  obtain ⟨N, hN⟩ : ∃ N, N = s.wait.length := ⟨_, rfl⟩
  rw [← hN] at h40 x5
  have HNN := Lib.hid hN
  clear hN
  go_wp2_with fail
  clear x0 x1 x2 x3 x4 x5 x6
  go_loopw [3, 5, 12] (fun dv _ iv wr => ∃ (i : Nat) (l : List UInt8) (da : Option Addr) (dn dc : Nat), i ≤ N ∧ iv = .int .i64 i ∧ dv = .slice da dn dc ∧ Hid (dn = l.length) ∧ Hid (wr.ownsRow (w.heap.size + 1) 5 1 (.slice da dn dc) l.length (l.map u8c)) ∧ Hid (l = Ln.texts s.unit (s.wait.take i)) ∧ Hid (l.length ≤ 16 * i) ∧ Hid (wr.rowIs w.heap.size 28 7 (rowN (stL s a k))) ∧ Hid (Below w.heap.size w wr)) (fun _ _ iv _ => N - (intOf iv).toNat)
  case atStart => exact ⟨0, [], none, 0, 0, Nat.zero_le _, rfl, rfl, rfl, ⟨rfl, Or.inl ⟨rfl, rfl⟩⟩, rfl, Nat.le_refl _, HX, HB⟩
  case round =>
    obtain ⟨i, l, da, dn, dc, hiN, rfl, rfl, hdn, hO, hL, hLl, hX, hB⟩ := hrel
    clear HX HB
    by_cases hlt : i < N
    · have hltz : (i : Int) < (N : Int) := by omega
      have HIL : Hid (i < s.wait.length) := by show _ < _; rw [← HNN.out]; exact hlt
      obtain ⟨b, o, ea, c0, c1⟩ := (H.out.below hB.out).at2 HIL.out
      have hea := Lib.hid ea
      obtain ⟨x, hx⟩ : ∃ x, x = Ln.fl s.wait (i * 2) := ⟨_, rfl⟩
      obtain ⟨y, hy⟩ : ∃ y, y = Ln.fl s.wait (i * 2 + 1) := ⟨_, rfl⟩
      rw [← hx] at c0
      rw [← hy] at c1
      have HFN : Hid (Ln.Fine s.unit (x, y)) := by show Ln.Fine _ _; rw [hx, hy]; exact HF.out _ (Ln.at_mem HIL.out)
      have HTK : Hid (s.wait.take (i + 1) = s.wait.take i ++ [(x, y)]) := by show _ = _; rw [hx, hy]; exact Ln.take_snoc HIL.out
      clear hx hy
      subst ea
      obtain ⟨V, hV⟩ : ∃ V, V = wr.alloc (.cells #[.int .i64 x, .int .i64 y] 37) := ⟨_, rfl⟩
      have hbV : Below wr.heap.size wr V := by rw [hV]; exact nbel_alloc _ _
      have HXV := Lib.hid (nrow_below hX.out hbV)
      have HBV : Hid (Below w.heap.size w V) := hB.out.trans (hbV.mono hB.out.size)
      have HOV : Hid (V.ownsRow (w.heap.size + 1) 5 1 (.slice da dn dc) l.length (l.map u8c)) := by show World.ownsRow _ _ _ _ _ _ _; rw [hV]; exact hO.out.alloc _
      obtain ⟨⟨r0, r1, r2, r3, r4, r5, r6⟩, _⟩ := rowN7 HXV.out
      have HV := Lib.hid hV
      rw [hV] at r0
      clear hV hbV hX hB hO r1 r2 r3 r4 r5 r6
      go_wp2_with fail
      rw [← HV.out]
      clear HV r0 c0 c1
      refine (frameOf_any x y s.unit _ (lntab HT.out HBV.out) (by have := HFN.out.2.2.1; simp only at this; omega) (by have := HFN.out.2.2.2; simp only at this; omega)).mono ?_
      rintro e w2 ⟨rfl, hb2⟩
      have HX2 := Lib.hid (nrow_below HXV.out hb2)
      have HB2 : Hid (Below w.heap.size w w2) := HBV.out.trans (hb2.mono HBV.out.size)
      have HO2 : Hid (w2.ownsRow (w.heap.size + 1) 5 1 (.slice da dn dc) l.length (l.map u8c)) := lown_bel HOV.out hb2
      clear hb2 HXV HBV HOV
      go_wp2_with fail
      refine (implBytesOf s.unit 3 x ⟨(Lib.itoa y).toArray⟩ _ (by have := HFN.out.right; simpa [ByteArray.size] using this)).mono ?_
      rintro e w3 ⟨v3, rfl, ho3, hb3⟩
      obtain ⟨T3, hT3⟩ : ∃ T3, T3 = Ln.frm s.unit (x, y) := ⟨_, rfl⟩
      have ho4 : OwnBy w2.heap.size v3 T3 w3 := by rw [hT3]; exact ho3
      obtain ⟨g3, cp3, rfl, hg3, hcp3, hcell3⟩ := ho4.form
      have h16 : T3.length ≤ 16 := by rw [hT3]; exact Ln.frm_len HFN.out
      have hX3s := HX2.out.lt
      have HX3 := Lib.hid (nrow_below HX2.out hb3)
      have HB3 : Hid (Below w.heap.size w w3) := HB2.out.trans (hb3.mono HB2.out.size)
      have HO3 : Hid (w3.ownsRow (w.heap.size + 1) 5 1 (.slice da dn dc) l.length (l.map u8c)) := lown_bel HO2.out hb3
      have HC3 : Hid (∀ j u, (T3.map u8c)[j]? = some u → w3.cell? ((⟨g3, 0, none⟩ : Addr).add j) = some u) := fun j u hj => by
        have hjl : j < T3.length := by have := (List.getElem?_eq_some_iff.1 hj).1; simpa using this
        rw [List.getElem?_map, List.getElem?_eq_getElem hjl] at hj
        simp only [Option.map_some, Option.some.injEq] at hj
        subst hj
        rw [Addr.add_lit, Nat.zero_add]
        exact hcell3 j hjl
      have H1C : Hid (∀ u ∈ T3.map u8c, u.oneCell' = true) := fun u hu => by obtain ⟨c, _, rfl⟩ := List.mem_map.1 hu; rfl
      have HT3 := Lib.hid hT3
      have hll := hLl.out
      have hsz3 : w.heap.size + 1 ≤ w3.heap.size := by have := HX3.out.lt; omega
      obtain ⟨M3, hM3⟩ : ∃ M3, M3 = T3.length := ⟨_, rfl⟩
      have HM3 := Lib.hid hM3
      rw [← hM3] at h16 ⊢
      clear hb3 ho3 ho4 hcell3 hT3 hcp3 hg3 HX2 HB2 HO2 hX3s hM3
      go_wp2_with (at_builtin; refine wpList_append_own _ rfl _ _ 22 rfl (w.heap.size + 1) 5 i0 (.int .u8 0) 1 1 Tryz.underlying22 hi hz0 hz1 hz2 rfl (by decide) _ _ _ rfl HO3.out ⟨g3, 0, none⟩ M3 cp3 (T3.map u8c) rfl ?c1 ?c2 ?c3 ?c4 ?c5 ?c6 ?_)
      case c1 => rw [List.length_map, HM3.out]; omega
      case c2 => exact HC3.out
      case c3 => exact H1C.out
      case c4 => unfold maxLen; omega
      case c5 => omega
      case c6 => exact hsz3
      intro v4 w4 hown hgrow hnil
      have HB4 : Hid (Below w.heap.size w w4) := HB3.out.grown hgrow (by omega) (fun q hq => by have := (HO3.out.lt q hq).1; omega)
      have HX4 : Hid (w4.rowIs w.heap.size 28 7 (rowN (stL s (some ⟨b, o, none⟩) k))) := HX3.out.of_block (hgrow.block _ HX3.out.lt (fun e => by have := (HO3.out.lt _ e.symm).1; omega))
      have HO4 : Hid (w4.ownsRow (w.heap.size + 1) 5 1 v4 (l ++ T3).length ((l ++ T3).map u8c)) := by show World.ownsRow _ _ _ _ _ _ _; rw [List.length_append, List.map_append, ← HM3.out]; exact hown
      have HL4 : Hid (l ++ T3 = Ln.texts s.unit (s.wait.take (i + 1))) := by show _ = _; rw [HTK.out, Ln.texts_snoc, ← hL.out, HT3.out]
      have HLL4 : Hid ((l ++ T3).length ≤ 16 * (i + 1)) := by show _ ≤ _; rw [List.length_append, ← HM3.out]; omega
      clear hown hgrow hnil HB3 HX3 HO3 HC3 H1C
      obtain ⟨L4, hL4⟩ : ∃ L4, L4 = l ++ T3 := ⟨_, rfl⟩
      rw [← hL4] at HO4 HL4 HLL4
      clear hL4
      obtain ⟨da4, dn4, dc4, rfl, hdn4⟩ : ∃ da4 dn4 dc4, v4 = .slice da4 dn4 dc4 ∧ Hid (dn4 = L4.length) := by
        rcases HO4.out.2 with ⟨h, h2⟩ | ⟨g, cap, cur, h, _⟩
        · exact ⟨none, 0, 0, h, h2.symm⟩
        · exact ⟨_, _, _, h, rfl⟩
      go_wp2_with fail
      go_roundw
      case rel => exact ⟨i + 1, L4, da4, dn4, dc4, by omega, by go_num, rfl, hdn4, HO4, HL4, HLL4, HX4, HB4⟩
      case measure => simp [intOf]; omega
    · obtain rfl : i = N := by omega
      have HLE : Hid (s.send = l) := by show _ = _; rw [HE.out, hL.out, HNN.out, List.take_length]
      rcases hO.out.2 with ⟨h, h2⟩ | ⟨g, cap, cur, h, hg1, hg2, hg3, hg4, hg5, hg6⟩
      · cases h
        have hnil : l = [] := List.eq_nil_of_length_eq_zero h2
        subst hnil
        have hcv : ∀ W, (convert 22 9 (.slice none 0 0)).run Tryz.prog W = .ok (.string ⟨#[]⟩) W := fun W => by
          rw [run_convert_bytes_string W 22 9 5 none 0 0 Tryz.underlying22 Tryz.underlying5 Tryz.underlying9]
          simp [Conv.bytesToString]
          rfl
        go_wp2_with fail
        go_ret
        exact ⟨by rw [HLE.out]; rfl, hB.out⟩
      · cases h
        have hcv := run_convert_bytes_back (P := Tryz.prog) wr 22 9 5 ⟨g, 0, none⟩ dc l Tryz.underlying22 Tryz.underlying5 Tryz.underlying9 (fun j hj => by
          have c := hO.out.cells (g := g) rfl j (u8c l[j]) (by rw [List.getElem?_map, List.getElem?_eq_getElem hj]; rfl)
          exact c)
        clear hg2 hg3 hg4 hg5 hg6
        go_wp2_with fail
        go_ret
        exact ⟨by rw [HLE.out]; rfl, hB.out⟩
set_option maxRecDepth 100000 in
set_option maxHeartbeats 8000000 in
theorem specSend_any (s : Ln.S) (a : Option Addr) (k : Nat) (w : World) (h : IsIn a (s.wait.length * 2) (Ln.fl s.wait) w) (hn : s.wait.length ≤ 1048576) :
    Calls Tryz.prog 22 #[stV s a k] w fun e w' => e = .returned (.string ⟨s.send.toArray⟩) ∧ Below w.heap.size w w' := by
  obtain ⟨W, hW⟩ : ∃ W, W = w.alloc (stO s a k) := ⟨_, rfl⟩
  have HB : Hid (Below w.heap.size w W) := by show Below _ _ _; rw [hW]; exact nbel_alloc _ _
  have HX : Hid (W.rowIs w.heap.size 28 7 (rowN (stL s a k))) := by show W.rowIs _ _ _ _; rw [hW]; exact rowN_alloc w (stL s a k) _
  have H := Lib.hid h
  have HN := Lib.hid hn
  have HW := Lib.hid hW
  clear hW h hn
  go_enter Tryz.func22, Tryz.ntmps22
  go_wp2_with fail
  rw [← HW.out]
  clear HW
  refine (specSRight_any s a k _ (H.out.below HB.out) (by have := HN.out; omega)).mono ?_
  rintro e w1 ⟨rfl, hbg⟩
  have hb := hbg.bel
  replace HX := Lib.hid (nrow_below HX.out hb)
  replace HB : Hid (Below w.heap.size w w1) := HB.out.trans (hb.mono HB.out.size)
  clear hb hbg
  by_cases c1 : s.Right
  case neg =>
    rw [lB_ff c1]
    have HE : Hid (s.send = []) := Ln.S.send_no c1
    clear c1
    go_wp2_with fail
    go_ret
    exact ⟨by rw [HE.out]; rfl, HB.out⟩
  rw [lB_tt c1]
  have HE : Hid (s.send = Ln.texts s.unit s.wait) := Ln.S.send_yes c1
  have HF := Lib.hid c1.fine
  have h40 : s.wait.length ≤ 40 := c1.2.1
  clear c1
  obtain ⟨N, hN⟩ : ∃ N, N = s.wait.length := ⟨_, rfl⟩
  rw [← hN] at h40
  have HNN := Lib.hid hN
  clear hN
  go_wp2_with fail
  go_loopw [3, 4] (fun tv iv wr => ∃ (i : Nat) (l : List UInt8), i ≤ N ∧ iv = .int .i64 i ∧ tv = .string ⟨l.toArray⟩ ∧ Hid (l = Ln.texts s.unit (s.wait.take i)) ∧ Hid (l.length ≤ 16 * i) ∧ Hid (wr.rowIs w.heap.size 28 7 (rowN (stL s a k))) ∧ Hid (Below w.heap.size w wr)) (fun _ iv _ => N - (intOf iv).toNat)
  case atStart => exact ⟨0, [], Nat.zero_le _, rfl, rfl, rfl, Nat.le_refl _, HX, HB⟩
  case round =>
    obtain ⟨i, l, hiN, rfl, rfl, hL, hLl, hX, hB⟩ := hrel
    clear HX HB
    obtain ⟨⟨x0, x1, x2, x3, x4, x5, x6⟩, _⟩ := rowN7 hX.out
    rw [← HNN.out] at x5
    by_cases hlt : i < N
    · have hltz : (i : Int) < (N : Int) := by omega
      have HIL : Hid (i < s.wait.length) := by show _ < _; rw [← HNN.out]; exact hlt
      obtain ⟨b, o, ea, c0, c1⟩ := (H.out.below hB.out).at2 HIL.out
      obtain ⟨x, hx⟩ : ∃ x, x = Ln.fl s.wait (i * 2) := ⟨_, rfl⟩
      obtain ⟨y, hy⟩ : ∃ y, y = Ln.fl s.wait (i * 2 + 1) := ⟨_, rfl⟩
      rw [← hx] at c0
      rw [← hy] at c1
      have HFN : Hid (Ln.Fine s.unit (x, y)) := by show Ln.Fine _ _; rw [hx, hy]; exact HF.out _ (Ln.at_mem HIL.out)
      have HTK : Hid (s.wait.take (i + 1) = s.wait.take i ++ [(x, y)]) := by show _ = _; rw [hx, hy]; exact Ln.take_snoc HIL.out
      clear hx hy
      subst ea
      obtain ⟨T3, hT3⟩ : ∃ T3, T3 = Ln.frm s.unit (x, y) := ⟨_, rfl⟩
      have h16 : T3.length ≤ 16 := by rw [hT3]; exact Ln.frm_len HFN.out
      have hll := hLl.out
      have hl640 : l.length ≤ 640 := by omega
      have HT3 := Lib.hid hT3
      have HS0 : Hid ((fun V => V.rowIs w.heap.size 28 7 (rowN (stL s (some ⟨b, o, none⟩) k)) ∧ V.cell? ⟨b, o + i * 2, none⟩ = some (.int .i64 x) ∧ V.cell? ⟨b, o + i * 2 + 1, none⟩ = some (.int .i64 y) ∧ Below w.heap.size w V) wr.drew) := ⟨hX.out.of_block rfl, c0, c1, hB.out.drew⟩
      clear hT3 x0 x1 x2 x3 x4 x6 c0 c1 hX hB
      go_wp2_with fail
      refine wp_region_held_drew (S := fun V => V.rowIs w.heap.size 28 7 (rowN (stL s (some ⟨b, o, none⟩) k)) ∧ V.cell? ⟨b, o + i * 2, none⟩ = some (.int .i64 x) ∧ V.cell? ⟨b, o + i * 2 + 1, none⟩ = some (.int .i64 y) ∧ Below w.heap.size w V) (by kernel_rfl) HS0.out (fun hHeld => ?_)
      obtain ⟨Z, hZ⟩ : ∃ Z, Z = wr.drew := ⟨_, rfl⟩
      rw [← hZ] at hHeld ⊢
      clear hZ HS0 x5
      refine take_do (i := 0) (v := (.string ⟨l.toArray⟩)) rfl (by kernel_rfl) (by kernel_rfl) (by kernel_rfl) (fun _ _ _ h => h) (by rfl) ?_ (by assumption) ?_
      · intro w hSw
        go_simp
      simp only [Act.put, List.setIfInBounds_toArray, List.set_cons_zero, List.set_cons_succ]
      refine take_do (i := 1) (v := (.pointer (some ⟨w.heap.size, 0, none⟩))) rfl (by kernel_rfl) (by kernel_rfl) (by kernel_rfl) (fun _ _ _ h => h) (by rfl) ?_ (by assumption) ?_
      · intro w hSw
        go_simp
      simp only [Act.put, List.setIfInBounds_toArray, List.set_cons_zero, List.set_cons_succ]
      refine take_do (i := 2) (v := (.int .i64 s.unit)) rfl (by kernel_rfl) (by kernel_rfl) (by kernel_rfl) (fun _ _ _ h => h) (by rfl) ?_ (by assumption) ?_
      · intro w hSw
        obtain ⟨⟨r0, r1, r2, r3, r4, r5, r6⟩, _⟩ := rowN7 hSw.1
        rw [← HNN.out] at r5
        obtain ⟨_, q0, q1, _⟩ := hSw
        go_simp
      simp only [Act.put, List.setIfInBounds_toArray, List.set_cons_zero, List.set_cons_succ]
      refine take_do (i := 3) (v := (.pointer (some ⟨w.heap.size, 5, none⟩))) rfl (by kernel_rfl) (by kernel_rfl) (by kernel_rfl) (fun _ _ _ h => h) (by rfl) ?_ (by assumption) ?_
      · intro w hSw
        go_simp
      simp only [Act.put, List.setIfInBounds_toArray, List.set_cons_zero, List.set_cons_succ]
      refine take_do (i := 4) (v := (.slice (some ⟨b, o, none⟩) N k)) rfl (by kernel_rfl) (by kernel_rfl) (by kernel_rfl) (fun _ _ _ h => h) (by rfl) ?_ (by assumption) ?_
      · intro w hSw
        obtain ⟨⟨r0, r1, r2, r3, r4, r5, r6⟩, _⟩ := rowN7 hSw.1
        rw [← HNN.out] at r5
        obtain ⟨_, q0, q1, _⟩ := hSw
        go_simp
      simp only [Act.put, List.setIfInBounds_toArray, List.set_cons_zero, List.set_cons_succ]
      refine take_do (i := 5) (v := (.int .i64 i)) rfl (by kernel_rfl) (by kernel_rfl) (by kernel_rfl) (fun _ _ _ h => h) (by rfl) ?_ (by assumption) ?_
      · intro w hSw
        go_simp
      simp only [Act.put, List.setIfInBounds_toArray, List.set_cons_zero, List.set_cons_succ]
      refine take_do (i := 6) (v := (.pointer (some ⟨b, o + i * 2, none⟩))) rfl (by kernel_rfl) (by kernel_rfl) (by kernel_rfl) (fun _ _ _ h => h) (by rfl) ?_ (by assumption) ?_
      · intro w hSw
        go_simp
      simp only [Act.put, List.setIfInBounds_toArray, List.set_cons_zero, List.set_cons_succ]
      refine take_do (i := 7) (v := (.pointer (some ⟨b, o + i * 2, none⟩))) rfl (by kernel_rfl) (by kernel_rfl) (by kernel_rfl) (fun _ _ _ h => h) (by rfl) ?_ (by assumption) ?_
      · intro w hSw
        go_simp
      simp only [Act.put, List.setIfInBounds_toArray, List.set_cons_zero, List.set_cons_succ]
      refine take_do (i := 8) (v := (.int .i64 x)) rfl (by kernel_rfl) (by kernel_rfl) (by kernel_rfl) (fun _ _ _ h => h) (by rfl) ?_ (by assumption) ?_
      · intro w hSw
        obtain ⟨⟨r0, r1, r2, r3, r4, r5, r6⟩, _⟩ := rowN7 hSw.1
        rw [← HNN.out] at r5
        obtain ⟨_, q0, q1, _⟩ := hSw
        go_simp
      simp only [Act.put, List.setIfInBounds_toArray, List.set_cons_zero, List.set_cons_succ]
      refine take_do (i := 9) (v := (.pointer (some ⟨w.heap.size, 5, none⟩))) rfl (by kernel_rfl) (by kernel_rfl) (by kernel_rfl) (fun _ _ _ h => h) (by rfl) ?_ (by assumption) ?_
      · intro w hSw
        go_simp
      simp only [Act.put, List.setIfInBounds_toArray, List.set_cons_zero, List.set_cons_succ]
      refine take_do (i := 10) (v := (.slice (some ⟨b, o, none⟩) N k)) rfl (by kernel_rfl) (by kernel_rfl) (by kernel_rfl) (fun _ _ _ h => h) (by rfl) ?_ (by assumption) ?_
      · intro w hSw
        obtain ⟨⟨r0, r1, r2, r3, r4, r5, r6⟩, _⟩ := rowN7 hSw.1
        rw [← HNN.out] at r5
        obtain ⟨_, q0, q1, _⟩ := hSw
        go_simp
      simp only [Act.put, List.setIfInBounds_toArray, List.set_cons_zero, List.set_cons_succ]
      refine take_do (i := 11) (v := (.int .i64 i)) rfl (by kernel_rfl) (by kernel_rfl) (by kernel_rfl) (fun _ _ _ h => h) (by rfl) ?_ (by assumption) ?_
      · intro w hSw
        go_simp
      simp only [Act.put, List.setIfInBounds_toArray, List.set_cons_zero, List.set_cons_succ]
      refine take_do (i := 12) (v := (.pointer (some ⟨b, o + i * 2, none⟩))) rfl (by kernel_rfl) (by kernel_rfl) (by kernel_rfl) (fun _ _ _ h => h) (by rfl) ?_ (by assumption) ?_
      · intro w hSw
        go_simp
      simp only [Act.put, List.setIfInBounds_toArray, List.set_cons_zero, List.set_cons_succ]
      refine take_do (i := 13) (v := (.pointer (some ⟨b, o + i * 2 + 1, none⟩))) rfl (by kernel_rfl) (by kernel_rfl) (by kernel_rfl) (fun _ _ _ h => h) (by rfl) ?_ (by assumption) ?_
      · intro w hSw
        go_simp
      simp only [Act.put, List.setIfInBounds_toArray, List.set_cons_zero, List.set_cons_succ]
      refine take_do (i := 14) (v := (.int .i64 y)) rfl (by kernel_rfl) (by kernel_rfl) (by kernel_rfl) (fun _ _ _ h => h) (by rfl) ?_ (by assumption) ?_
      · intro w hSw
        obtain ⟨⟨r0, r1, r2, r3, r4, r5, r6⟩, _⟩ := rowN7 hSw.1
        rw [← HNN.out] at r5
        obtain ⟨_, q0, q1, _⟩ := hSw
        go_simp
      simp only [Act.put, List.setIfInBounds_toArray, List.set_cons_zero, List.set_cons_succ]
      refine take_call (i := 15) rfl (by kernel_rfl) (fun K2 hK => ?_)
      go_simp
      refine (specDec_wide y _ (by have := HFN.out.2.2.1; simp only at this; omega) (by have := HFN.out.2.2.2; simp only at this; omega)).mono ?_
      rintro e Z2 ⟨rfl, hb⟩
      go_wp2_with fail
      refine hK.out _ _ ⟨nrow_below hHeld.1 hb, (hb.cell (World.block_lt_of_cell? _ _ hHeld.2.1)).trans hHeld.2.1, (hb.cell (World.block_lt_of_cell? _ _ hHeld.2.2.1)).trans hHeld.2.2.1, hHeld.2.2.2.trans (hb.mono hHeld.2.2.2.size)⟩ (fun hHeld2 => ?_)
      clear hK hHeld hb
      have hHeld := hHeld2
      clear hHeld2
      refine take_do (i := 16) (v := (.agg #[.int .i64 s.unit, .int .i64 3, .int .i64 x, .string ⟨(Lib.itoa y).toArray⟩])) rfl (by kernel_rfl) (by kernel_rfl) (by kernel_rfl) (fun _ _ _ h => h) (by rfl) ?_ (by assumption) ?_
      · intro w hSw
        go_simp
      simp only [Act.put, List.setIfInBounds_toArray, List.set_cons_zero, List.set_cons_succ]
      refine take_call (i := 17) rfl (by kernel_rfl) (fun K2 hK => ?_)
      go_simp
      refine (specFrText_yes s.unit 3 x ⟨(Lib.itoa y).toArray⟩ _ (by have := HFN.out.right; simpa [ByteArray.size] using this)).mono ?_
      rintro e Z3 ⟨rfl, hb⟩
      have hT4 : Fr.text s.unit 3 x (⟨(Lib.itoa y).toArray⟩ : ByteArray).data.toList = T3 := HT3.out.symm
      rw [hT4]
      clear hT4
      go_wp2_with fail
      refine hK.out _ _ ⟨nrow_below hHeld.1 hb, (hb.cell (World.block_lt_of_cell? _ _ hHeld.2.1)).trans hHeld.2.1, (hb.cell (World.block_lt_of_cell? _ _ hHeld.2.2.1)).trans hHeld.2.2.1, hHeld.2.2.2.trans (hb.mono hHeld.2.2.2.size)⟩ (fun hHeld2 => ?_)
      clear hK hHeld hb
      have hHeld := hHeld2
      clear hHeld2
      refine take_do (i := 18) (v := (.string ⟨(l ++ T3).toArray⟩)) rfl (by kernel_rfl) (by kernel_rfl) (by kernel_rfl) (fun _ _ _ h => h) (by rfl) ?_ (by assumption) ?_
      · intro w hSw
        have hcat : (⟨l.toArray⟩ : ByteArray) ++ ⟨T3.toArray⟩ = ⟨(l ++ T3).toArray⟩ := by rw [M.ba_append]; simp
        have hlt3 : l.length + T3.length ≤ 9223372036854775807 := by omega
        go_simp
      simp only [Act.put, List.setIfInBounds_toArray, List.set_cons_zero, List.set_cons_succ]
      refine take_do (i := 19) (v := (.string ⟨(l ++ T3).toArray⟩)) rfl (by kernel_rfl) (by kernel_rfl) (by kernel_rfl) (fun _ _ _ h => h) (by rfl) ?_ (by assumption) ?_
      · intro w hSw
        go_simp
      simp only [Act.put, List.setIfInBounds_toArray, List.set_cons_zero, List.set_cons_succ]
      refine wpAnyH_done (by kernel_rfl) ?_ _
      have HX4 := Lib.hid hHeld.1
      have HB4 := Lib.hid hHeld.2.2.2
      have HL4 : Hid (l ++ T3 = Ln.texts s.unit (s.wait.take (i + 1))) := by show _ = _; rw [HTK.out, Ln.texts_snoc, ← hL.out, HT3.out]
      have HLL4 : Hid ((l ++ T3).length ≤ 16 * (i + 1)) := by show _ ≤ _; rw [List.length_append]; omega
      obtain ⟨L4, hL4⟩ : ∃ L4, L4 = l ++ T3 := ⟨_, rfl⟩
      rw [← hL4] at HL4 HLL4 ⊢
      clear hL4 hHeld
      go_wp2_with fail
      go_roundw
      case rel => exact ⟨i + 1, L4, by omega, by go_num, rfl, HL4, HLL4, HX4, HB4⟩
      case measure => simp [intOf]; omega
    · obtain rfl : i = N := by omega
      have HLE : Hid (s.send = l) := by show _ = _; rw [HE.out, hL.out, HNN.out, List.take_length]
      go_wp2_with fail
      go_ret
      exact ⟨by rw [HLE.out]; rfl, hB.out⟩
end Go.Proofs.YtighcbpcclifoaaGreatDoor
