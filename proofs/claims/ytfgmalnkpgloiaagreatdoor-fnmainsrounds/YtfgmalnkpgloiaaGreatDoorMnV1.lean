/-
  Falls, sums of loops, what is left over: the model's walk.
-/
import Derived.Test.YtfgmalnkpgloiaaGreatDoorMnRm
import Derived.Test.YtfgmalnkpgloiaaGreatDoorMnU1
namespace Go.Proofs.YtfgmalnkpgloiaaGreatDoor
open Go.RowKit Go.Deep

theorem smax_any (a b : Int) (w : World) : Calls Tryz.prog 49 #[.int .i64 a, .int .i64 b] w fun e w' => e = .returned (.int .i64 (max a b)) ∧ w' = w := by
  by_cases h : b < a
  · have HE : Hid (max a b = a) := by show _ = _; omega
    go_enter Tryz.func49, Tryz.ntmps49
    go_wp2_with fail
    go_ret
    exact ⟨by rw [HE.out]; rfl, rfl⟩
  · have HE : Hid (max a b = b) := by show _ = _; omega
    go_enter Tryz.func49, Tryz.ntmps49
    go_wp2_with fail
    go_ret
    exact ⟨by rw [HE.out]; rfl, rfl⟩
set_option maxHeartbeats 1000000 in
theorem sdrag_go (K f t d q : Int) (h1 : 1 ≤ K) (h2 : K ≤ 6) (d0 : 0 ≤ d) (d1 : d ≤ 1000) (q0 : 0 ≤ q) (q1 : q ≤ 100000) (w : World) :
    Calls Tryz.prog 79 #[.agg #[.int .i64 K, .int .i64 f, .int .i64 t, .int .i64 d, .int .i64 q]] w fun e w' => e = .returned (.int .i64 (if K = 4 then d + q else if K = 5 then 0 else d)) ∧ Below w.heap.size w w' := by
  have HB := Lib.hid (nbel_alloc w (.cells #[.int .i64 K, .int .i64 f, .int .i64 t, .int .i64 d, .int .i64 q] 36))
  have k16 : K = 1 ∨ K = 2 ∨ K = 3 ∨ K = 4 ∨ K = 5 ∨ K = 6 := by omega
  clear h1 h2
  rcases k16 with rfl | rfl | rfl | rfl | rfl | rfl
  all_goals
    simp only [show ¬ (1 : Int) = 4 by decide, show ¬ (1 : Int) = 5 by decide, show ¬ (2 : Int) = 4 by decide, show ¬ (2 : Int) = 5 by decide, show ¬ (3 : Int) = 4 by decide, show ¬ (3 : Int) = 5 by decide, show ¬ (5 : Int) = 4 by decide, show ¬ (6 : Int) = 4 by decide, show ¬ (6 : Int) = 5 by decide, if_true, if_false]
    go_enter Tryz.func79, Tryz.ntmps79
    go_wp2_with fail
    go_ret
    exact ⟨rfl, HB.out⟩
theorem sdrag_any (m : Mn.Mains) (i : Nat) (h : Mn.PipeOk m i) (w : World) :
    Calls Tryz.prog 79 #[pipeV m i] w fun e w' => e = .returned (.int .i64 (Mn.dragOf m i)) ∧ Below w.heap.size w w' := sdrag_go _ _ _ _ _ h.k1 h.k2 h.d0 h.d1 h.m0 h.m1 w
set_option maxRecDepth 100000 in
set_option maxHeartbeats 2000000 in
theorem sfall_any (m : Mn.Mains) (i : Nat) (h : Mn.PipeOk m i) (q : Int) (h1 : -100000 ≤ q) (h2 : q ≤ 100000) (w : World) :
    Calls Tryz.prog 63 #[pipeV m i, .int .i64 q] w fun e w' => e = .returned (.int .i64 (Mn.fall m i q)) ∧ Below w.heap.size w w' := by
  obtain ⟨W, hW⟩ : ∃ W, W = w.alloc (.cells #[.int .i64 (m.P (i * 5)), .int .i64 (m.P (i * 5 + 1)), .int .i64 (m.P (i * 5 + 2)), .int .i64 (m.P (i * 5 + 3)), .int .i64 (m.P (i * 5 + 4))] 36) := ⟨_, rfl⟩
  have R0 : Hid (W.rowIs w.heap.size 36 5 (rowN [.int .i64 (m.P (i * 5)), .int .i64 (m.P (i * 5 + 1)), .int .i64 (m.P (i * 5 + 2)), .int .i64 (m.P (i * 5 + 3)), .int .i64 (m.P (i * 5 + 4))])) := by show World.rowIs _ _ _ _ _; rw [hW]; exact rowN_alloc w _ _
  have B0 : Hid (Below w.heap.size w W) := by show Below _ _ _; rw [hW]; exact nbel_alloc _ _
  have HW := Lib.hid hW
  have HP := Lib.hid h
  have fp := Mn.fall_parts h h1 h2
  obtain ⟨⟨p1, p2⟩, p3, p4⟩ := fp
  have m0 := h.m0
  have m1 := h.m1
  clear hW h
  go_enter Tryz.func63, Tryz.ntmps63
  go_wp2_with fail
  rw [← HW.out]
  refine (sdrag_any m i HP.out _).mono ?_
  rintro e w1 ⟨rfl, hb⟩
  have R1 := Lib.hid (nrow_below R0.out hb)
  have B1 : Hid (Below w.heap.size w w1) := B0.out.trans (hb.mono B0.out.size)
  obtain ⟨D, hD⟩ : ∃ D, D = Mn.dragOf m i := ⟨_, rfl⟩
  rw [← hD] at p1 p2 p3 p4 ⊢
  have HD := Lib.hid hD
  clear hb R0 B0 hD
  go_wp2_with fail
  refine (specAbs q _ (by omega) (by omega)).mono ?_
  rintro e w2 ⟨rfl, e2⟩
  subst w2
  obtain ⟨⟨r0, r1, r2, r3, r4⟩, _⟩ := rowN5 R1.out
  by_cases k2 : m.P (i * 5) = 2
  · have k2' : (m.P (i * 5) == 2) = true := by simp [k2]
    have HE : Hid (Mn.fall m i q = D * q * (q.natAbs : Int) - m.P (i * 5 + 4)) := by show _ = _; unfold Mn.fall; rw [← HD.out, if_pos k2]
    clear k2
    go_wp2_with fail
    go_ret
    exact ⟨by rw [HE.out]; rfl, B1.out⟩
  · have k2' : (m.P (i * 5) == 2) = false := by simp [k2]
    have HE : Hid (Mn.fall m i q = D * q * (q.natAbs : Int)) := by show _ = _; unfold Mn.fall; rw [← HD.out, if_neg k2]; omega
    clear k2
    go_wp2_with fail
    go_ret
    exact ⟨by rw [HE.out]; rfl, B1.out⟩
set_option maxRecDepth 100000 in
set_option maxHeartbeats 8000000 in
theorem ssum_any (m : Mn.Mains) (pa : Option Addr) (pk : Nat) (la : Option Addr) (lk : Nat) (wa : Option Addr) (wk : Nat) (fa : Option Addr) (fc : Nat) (f : Nat → Int) (xa : Option Addr) (n xc : Nat) (L : Nat → Int) (w : World) (h : MnAt m pa la wa w) (hf : IsAt fa m.pn f w) (hx : IsAt xa n L w) (hr : Mn.Right m) (ho : Mn.AllOk m f) (hn : ∀ k, k < n → Mn.NumOk m (L k)) (hn40 : n ≤ 40) :
    Calls Tryz.prog 46 #[mnV m pa pk la lk wa wk, .slice fa m.pn fc, .slice xa n xc] w fun e w' => e = .returned (.tuple #[.int .i64 (Mn.sumTo m f L n), .int .i64 (Mn.wtTo m f L n)]) ∧ Below w.heap.size w w' := by
  have ST : Hid (SwS m pa pk la lk wa wk fa f w (w.alloc (.cells #[.int .i64 m.nodes, .int .i64 m.head, .slice pa m.pn pk, .slice la m.ln lk, .slice wa m.wn wk] 27))) := ⟨MnS.new 27 (pk := pk) (lk := lk) (wk := wk) h, hf.below (nbel_alloc _ _)⟩
  have hpn := hr.pn
  have HR := Lib.hid hr
  have HO := Lib.hid ho
  have HX := Lib.hid hx
  have HN := Lib.hid hn
  clear h hf hr ho hx hn
  go_enter Tryz.func46, Tryz.ntmps46
  go_wp2_with fail
  go_loopw [8, 9, 10] (fun sv tv iv wr => ∃ (k : Nat), k ≤ n ∧ sv = .int .i64 (Mn.sumTo m f L k) ∧ tv = .int .i64 (Mn.wtTo m f L k) ∧ iv = .int .i64 k ∧ Hid (SwS m pa pk la lk wa wk fa f w wr)) (fun _ _ iv _ => n - (intOf iv).toNat)
  case atStart => exact ⟨0, Nat.zero_le _, rfl, rfl, rfl, ST⟩
  case round =>
    obtain ⟨k, hk, rfl, rfl, rfl, SX⟩ := hrel
    clear ST
    have sb := Mn.sum_bd HR.out HO.out k (fun j hj => HN.out j (by omega))
    by_cases hlt : k < n
    · have hltz : (k : Int) < (n : Int) := by omega
      have hk40 : (k : Int) ≤ 39 := by omega
      obtain ⟨xb, e, dx⟩ := (HX.out.below SX.out.s.old).at1 hlt
      subst e
      have nk := HN.out k hlt
      obtain ⟨pp, hpe⟩ : ∃ pp, pp = Mn.place (L k) := ⟨_, rfl⟩
      have hpp : pp < m.pn := by rw [hpe]; exact nk.lt
      have HPP := Lib.hid (HR.out.p pp hpp)
      have fbd := Mn.okF_bd HPP.out (HO.out pp hpp)
      have HB1 := Lib.hid fbd.1
      have HB2 := Lib.hid fbd.2
      have HN1 : Hid (-9223372036854775807 ≤ f pp) := by show _ ≤ _; omega
      have HN2 : Hid (f pp ≤ 9223372036854775807) := by show _ ≤ _; omega
      have fb1 := Mn.fall_bd HPP.out fbd.1 fbd.2
      have wb := Mn.wt_part HPP.out fbd.1 fbd.2
      have HQ1 : Hid (IntKind.i64.wrap (2 * ((f pp).natAbs : Int)) = 2 * ((f pp).natAbs : Int)) := mwrap_id (by omega) (by omega)
      have HQ2 : Hid (IntKind.i64.wrap (2 * ((f pp).natAbs : Int) * Mn.dragOf m pp) = 2 * ((f pp).natAbs : Int) * Mn.dragOf m pp) := mwrap_id (by omega) (by omega)
      have HQ3 : Hid (IntKind.i64.wrap (Mn.wtTo m f L k + 2 * ((f pp).natAbs : Int) * Mn.dragOf m pp) = Mn.wtTo m f L (k + 1)) := by
        show _ = _
        rw [mwrap_id (by omega) (by omega)]
        simp only [Mn.wtTo]
        rw [← hpe]
      have HSU : Hid (Mn.sumTo m f L (k + 1) = Mn.sumTo m f L k + Mn.sg (L k) (Mn.fall m pp (f pp))) := by show _ = _; simp only [Mn.sumTo]; rw [← hpe]
      obtain ⟨fb, ef, df⟩ := SX.out.f.at1 hpp
      subst ef
      have DF := Lib.hid df
      obtain ⟨pb, ep, cc0, _⟩ := SX.out.s.at_.p.at5 hpp
      subst ep
      have hppz : ((pp : Nat) : Int) < (m.pn : Int) := by omega
      have NK := Lib.hid nk
      have DX := Lib.hid dx
      have HPE := Lib.hid hpe
      have sb1 := sb.1.1
      have sb2 := sb.1.2
      have HPN := Lib.hid hpn
      clear fbd wb cc0 df nk hpe sb
      go_wp2_with fail
      refine (splace_any (L k) _ NK.out.1 (by have := NK.out.2; have := HPN.out; omega) (by have := NK.out.2; have := HPN.out; omega)).mono ?_
      rintro e w2 ⟨rfl, e2⟩
      subst w2
      rw [← HPE.out]
      go_wp2_with fail
      refine wp_region_held_drew (S := fun V => Below wr.heap.size wr V) (by kernel_rfl) (Below.refl _ _).drew (fun hHeld => ?_)
      obtain ⟨Z, hZ⟩ : ∃ Z, Z = wr.drew := ⟨_, rfl⟩
      rw [← hZ] at hHeld ⊢
      clear hZ
      refine take_do (i := 0) (v := (.pointer (some ⟨w.heap.size, 2, none⟩))) rfl (by kernel_rfl) (by kernel_rfl) (by kernel_rfl) (fun _ _ _ h => h) (by rfl) ?_ (by assumption) ?_
      · intro w hSw
        skip
        go_simp
      simp only [Act.put, List.setIfInBounds_toArray, List.set_cons_zero, List.set_cons_succ]
      refine take_do (i := 1) (v := (.slice (some ⟨pb, 0, none⟩) m.pn pk)) rfl (by kernel_rfl) (by kernel_rfl) (by kernel_rfl) (fun _ _ _ h => h) (by rfl) ?_ (by assumption) ?_
      · intro w hSw
        obtain ⟨⟨r0, r1, r2, r3, r4⟩, _⟩ := rowN5 (nrow_below SX.out.s.row hSw)
        go_simp
      simp only [Act.put, List.setIfInBounds_toArray, List.set_cons_zero, List.set_cons_succ]
      refine take_do (i := 2) (v := (.int .i64 ((pp : Nat) : Int))) rfl (by kernel_rfl) (by kernel_rfl) (by kernel_rfl) (fun _ _ _ h => h) (by rfl) ?_ (by assumption) ?_
      · intro w hSw
        skip
        go_simp
      simp only [Act.put, List.setIfInBounds_toArray, List.set_cons_zero, List.set_cons_succ]
      refine take_do (i := 3) (v := (.pointer (some ⟨pb, pp * 5, none⟩))) rfl (by kernel_rfl) (by kernel_rfl) (by kernel_rfl) (fun _ _ _ h => h) (by rfl) ?_ (by assumption) ?_
      · intro w hSw
        skip
        go_simp
      simp only [Act.put, List.setIfInBounds_toArray, List.set_cons_zero, List.set_cons_succ]
      refine take_do (i := 4) (v := (pipeV m pp)) rfl (by kernel_rfl) (by kernel_rfl) (by kernel_rfl) (fun _ _ _ h => h) (by rfl) ?_ (by assumption) ?_
      · intro w hSw
        obtain ⟨pb', epb, c0, c1, c2, c3, c4⟩ := (SX.out.s.at_.p.below hSw).at5 hpp
        cases epb
        go_simp
      simp only [Act.put, List.setIfInBounds_toArray, List.set_cons_zero, List.set_cons_succ]
      refine take_do (i := 5) (v := (.slice (some ⟨fb, 0, none⟩) m.pn fc)) rfl (by kernel_rfl) (by kernel_rfl) (by kernel_rfl) (fun _ _ _ h => h) (by rfl) ?_ (by assumption) ?_
      · intro w hSw
        skip
        go_simp
      simp only [Act.put, List.setIfInBounds_toArray, List.set_cons_zero, List.set_cons_succ]
      refine take_do (i := 6) (v := (.int .i64 ((pp : Nat) : Int))) rfl (by kernel_rfl) (by kernel_rfl) (by kernel_rfl) (fun _ _ _ h => h) (by rfl) ?_ (by assumption) ?_
      · intro w hSw
        skip
        go_simp
      simp only [Act.put, List.setIfInBounds_toArray, List.set_cons_zero, List.set_cons_succ]
      refine take_do (i := 7) (v := (.pointer (some ⟨fb, pp, none⟩))) rfl (by kernel_rfl) (by kernel_rfl) (by kernel_rfl) (fun _ _ _ h => h) (by rfl) ?_ (by assumption) ?_
      · intro w hSw
        skip
        go_simp
      simp only [Act.put, List.setIfInBounds_toArray, List.set_cons_zero, List.set_cons_succ]
      refine take_do (i := 8) (v := (.int .i64 (f pp))) rfl (by kernel_rfl) (by kernel_rfl) (by kernel_rfl) (fun _ _ _ h => h) (by rfl) ?_ (by assumption) ?_
      · intro w hSw
        have df := (hSw.cell (World.block_lt_of_cell? _ _ DF.out)).trans DF.out
        go_simp
      simp only [Act.put, List.setIfInBounds_toArray, List.set_cons_zero, List.set_cons_succ]
      refine take_call (i := 9) rfl (by kernel_rfl) (fun K2 hK => ?_)
      go_simp
      refine (sfall_any m pp HPP.out (f pp) HB1.out HB2.out _).mono ?_
      rintro e w3 ⟨rfl, hb⟩
      go_wp2_with fail
      refine hK.out _ _ (hHeld.trans (hb.mono hHeld.size)) (fun hHeld2 => ?_)
      clear hK hHeld hb
      have hHeld := hHeld2
      clear hHeld2
      refine take_do (i := 10) (v := (.int .i64 (Mn.fall m pp (f pp)))) rfl (by kernel_rfl) (by kernel_rfl) (by kernel_rfl) (fun _ _ _ h => h) (by rfl) ?_ (by assumption) ?_
      · intro w hSw
        skip
        go_simp
      simp only [Act.put, List.setIfInBounds_toArray, List.set_cons_zero, List.set_cons_succ]
      refine wpAnyH_done (by kernel_rfl) ?_ _
      have S7 := Lib.hid (SX.out.below hHeld)
      have B7 := Lib.hid hHeld
      clear hHeld
      have DF3 : Hid (w3.cell? ⟨fb, pp, none⟩ = some (.int .i64 (f pp))) := (B7.out.cell (World.block_lt_of_cell? _ _ DF.out)).trans DF.out
      have dx3 := (B7.out.cell (World.block_lt_of_cell? _ _ DX.out)).trans DX.out
      clear B7 DF dx DX
      obtain ⟨FV, hFV⟩ : ∃ FV, FV = Mn.fall m pp (f pp) := ⟨_, rfl⟩
      rw [← hFV] at HSU fb1 ⊢
      clear hFV
      obtain ⟨fb1a, fb1b⟩ := fb1
      by_cases hs : L k < 0
      · have HE : Hid (Mn.sumTo m f L k + -FV = Mn.sumTo m f L (k + 1)) := by show _ = _; rw [HSU.out]; unfold Mn.sg; rw [if_pos hs]
        go_wp2_with fail
        refine wp_region_held_drew (S := fun V => Below w3.heap.size w3 V) (by kernel_rfl) (Below.refl _ _).drew (fun hHeld => ?_)
        obtain ⟨Z, hZ⟩ : ∃ Z, Z = w3.drew := ⟨_, rfl⟩
        rw [← hZ] at hHeld ⊢
        clear hZ
        refine take_do (i := 0) (v := (.int .i64 (Mn.wtTo m f L k))) rfl (by kernel_rfl) (by kernel_rfl) (by kernel_rfl) (fun _ _ _ h => h) (by rfl) ?_ (by assumption) ?_
        · intro w hSw
          skip
          go_simp
        simp only [Act.put, List.setIfInBounds_toArray, List.set_cons_zero, List.set_cons_succ]
        refine take_do (i := 1) (v := (.slice (some ⟨fb, 0, none⟩) m.pn fc)) rfl (by kernel_rfl) (by kernel_rfl) (by kernel_rfl) (fun _ _ _ h => h) (by rfl) ?_ (by assumption) ?_
        · intro w hSw
          skip
          go_simp
        simp only [Act.put, List.setIfInBounds_toArray, List.set_cons_zero, List.set_cons_succ]
        refine take_do (i := 2) (v := (.int .i64 ((pp : Nat) : Int))) rfl (by kernel_rfl) (by kernel_rfl) (by kernel_rfl) (fun _ _ _ h => h) (by rfl) ?_ (by assumption) ?_
        · intro w hSw
          skip
          go_simp
        simp only [Act.put, List.setIfInBounds_toArray, List.set_cons_zero, List.set_cons_succ]
        refine take_do (i := 3) (v := (.pointer (some ⟨fb, pp, none⟩))) rfl (by kernel_rfl) (by kernel_rfl) (by kernel_rfl) (fun _ _ _ h => h) (by rfl) ?_ (by assumption) ?_
        · intro w hSw
          skip
          go_simp
        simp only [Act.put, List.setIfInBounds_toArray, List.set_cons_zero, List.set_cons_succ]
        refine take_do (i := 4) (v := (.int .i64 (f pp))) rfl (by kernel_rfl) (by kernel_rfl) (by kernel_rfl) (fun _ _ _ h => h) (by rfl) ?_ (by assumption) ?_
        · intro w hSw
          have df := (hSw.cell (World.block_lt_of_cell? _ _ DF3.out)).trans DF3.out
          go_simp
        simp only [Act.put, List.setIfInBounds_toArray, List.set_cons_zero, List.set_cons_succ]
        refine take_do (i := 7) (v := (.pointer (some ⟨w.heap.size, 2, none⟩))) rfl (by kernel_rfl) (by kernel_rfl) (by kernel_rfl) (fun _ _ _ h => h) (by rfl) ?_ (by assumption) ?_
        · intro w hSw
          skip
          go_simp
        simp only [Act.put, List.setIfInBounds_toArray, List.set_cons_zero, List.set_cons_succ]
        refine take_do (i := 8) (v := (.slice (some ⟨pb, 0, none⟩) m.pn pk)) rfl (by kernel_rfl) (by kernel_rfl) (by kernel_rfl) (fun _ _ _ h => h) (by rfl) ?_ (by assumption) ?_
        · intro w hSw
          obtain ⟨⟨r0, r1, r2, r3, r4⟩, _⟩ := rowN5 (nrow_below S7.out.s.row hSw)
          go_simp
        simp only [Act.put, List.setIfInBounds_toArray, List.set_cons_zero, List.set_cons_succ]
        refine take_do (i := 9) (v := (.int .i64 ((pp : Nat) : Int))) rfl (by kernel_rfl) (by kernel_rfl) (by kernel_rfl) (fun _ _ _ h => h) (by rfl) ?_ (by assumption) ?_
        · intro w hSw
          skip
          go_simp
        simp only [Act.put, List.setIfInBounds_toArray, List.set_cons_zero, List.set_cons_succ]
        refine take_do (i := 10) (v := (.pointer (some ⟨pb, pp * 5, none⟩))) rfl (by kernel_rfl) (by kernel_rfl) (by kernel_rfl) (fun _ _ _ h => h) (by rfl) ?_ (by assumption) ?_
        · intro w hSw
          skip
          go_simp
        simp only [Act.put, List.setIfInBounds_toArray, List.set_cons_zero, List.set_cons_succ]
        refine take_do (i := 11) (v := (pipeV m pp)) rfl (by kernel_rfl) (by kernel_rfl) (by kernel_rfl) (fun _ _ _ h => h) (by rfl) ?_ (by assumption) ?_
        · intro w hSw
          obtain ⟨pb', epb, c0, c1, c2, c3, c4⟩ := (S7.out.s.at_.p.below hSw).at5 hpp
          cases epb
          go_simp
        simp only [Act.put, List.setIfInBounds_toArray, List.set_cons_zero, List.set_cons_succ]
        refine take_call (i := 5) rfl (by kernel_rfl) (fun K2 hK => ?_)
        go_simp
        refine (specAbs (f pp) _ HN1.out HN2.out).mono ?_
        rintro e w4 ⟨rfl, rfl⟩
        go_wp2_with fail
        refine hK.out _ _ hHeld (fun hHeld2 => ?_)
        clear hK hHeld
        have hHeld := hHeld2
        clear hHeld2
        refine take_do (i := 6) (v := (.int .i64 (2 * ((f pp).natAbs : Int)))) rfl (by kernel_rfl) (by kernel_rfl) (by kernel_rfl) (fun _ _ _ h => h) (by rfl) ?_ (by assumption) ?_
        · intro w hSw
          have hq := HQ1.out
          go_simp
        simp only [Act.put, List.setIfInBounds_toArray, List.set_cons_zero, List.set_cons_succ]
        refine take_call (i := 12) rfl (by kernel_rfl) (fun K2 hK => ?_)
        go_simp
        refine (sdrag_any m pp HPP.out _).mono ?_
        rintro e w5 ⟨rfl, hb⟩
        go_wp2_with fail
        refine hK.out _ _ (hHeld.trans (hb.mono hHeld.size)) (fun hHeld2 => ?_)
        clear hK hHeld hb
        have hHeld := hHeld2
        clear hHeld2
        refine take_do (i := 13) (v := (.int .i64 (2 * ((f pp).natAbs : Int) * Mn.dragOf m pp))) rfl (by kernel_rfl) (by kernel_rfl) (by kernel_rfl) (fun _ _ _ h => h) (by rfl) ?_ (by assumption) ?_
        · intro w hSw
          have hq := HQ2.out
          go_simp
        simp only [Act.put, List.setIfInBounds_toArray, List.set_cons_zero, List.set_cons_succ]
        refine take_do (i := 14) (v := (.int .i64 (Mn.wtTo m f L (k + 1)))) rfl (by kernel_rfl) (by kernel_rfl) (by kernel_rfl) (fun _ _ _ h => h) (by rfl) ?_ (by assumption) ?_
        · intro w hSw
          have hq := HQ3.out
          go_simp
        simp only [Act.put, List.setIfInBounds_toArray, List.set_cons_zero, List.set_cons_succ]
        refine take_do (i := 15) (v := (.int .i64 (Mn.wtTo m f L (k + 1)))) rfl (by kernel_rfl) (by kernel_rfl) (by kernel_rfl) (fun _ _ _ h => h) (by rfl) ?_ (by assumption) ?_
        · intro w hSw
          skip
          go_simp
        simp only [Act.put, List.setIfInBounds_toArray, List.set_cons_zero, List.set_cons_succ]
        refine wpAnyH_done (by kernel_rfl) ?_ _
        have S9 := Lib.hid (S7.out.below hHeld)
        clear hHeld
        go_wp2_with fail
        go_roundw
        case rel => exact ⟨k + 1, by omega, by first | rfl | (rw [← HE.out]), rfl, by go_num, S9⟩
        case measure => simp [intOf]; omega
      · have HE : Hid (Mn.sumTo m f L k + FV = Mn.sumTo m f L (k + 1)) := by show _ = _; rw [HSU.out]; unfold Mn.sg; rw [if_neg hs]
        go_wp2_with fail
        refine wp_region_held_drew (S := fun V => Below w3.heap.size w3 V) (by kernel_rfl) (Below.refl _ _).drew (fun hHeld => ?_)
        obtain ⟨Z, hZ⟩ : ∃ Z, Z = w3.drew := ⟨_, rfl⟩
        rw [← hZ] at hHeld ⊢
        clear hZ
        refine take_do (i := 0) (v := (.int .i64 (Mn.wtTo m f L k))) rfl (by kernel_rfl) (by kernel_rfl) (by kernel_rfl) (fun _ _ _ h => h) (by rfl) ?_ (by assumption) ?_
        · intro w hSw
          skip
          go_simp
        simp only [Act.put, List.setIfInBounds_toArray, List.set_cons_zero, List.set_cons_succ]
        refine take_do (i := 1) (v := (.slice (some ⟨fb, 0, none⟩) m.pn fc)) rfl (by kernel_rfl) (by kernel_rfl) (by kernel_rfl) (fun _ _ _ h => h) (by rfl) ?_ (by assumption) ?_
        · intro w hSw
          skip
          go_simp
        simp only [Act.put, List.setIfInBounds_toArray, List.set_cons_zero, List.set_cons_succ]
        refine take_do (i := 2) (v := (.int .i64 ((pp : Nat) : Int))) rfl (by kernel_rfl) (by kernel_rfl) (by kernel_rfl) (fun _ _ _ h => h) (by rfl) ?_ (by assumption) ?_
        · intro w hSw
          skip
          go_simp
        simp only [Act.put, List.setIfInBounds_toArray, List.set_cons_zero, List.set_cons_succ]
        refine take_do (i := 3) (v := (.pointer (some ⟨fb, pp, none⟩))) rfl (by kernel_rfl) (by kernel_rfl) (by kernel_rfl) (fun _ _ _ h => h) (by rfl) ?_ (by assumption) ?_
        · intro w hSw
          skip
          go_simp
        simp only [Act.put, List.setIfInBounds_toArray, List.set_cons_zero, List.set_cons_succ]
        refine take_do (i := 4) (v := (.int .i64 (f pp))) rfl (by kernel_rfl) (by kernel_rfl) (by kernel_rfl) (fun _ _ _ h => h) (by rfl) ?_ (by assumption) ?_
        · intro w hSw
          have df := (hSw.cell (World.block_lt_of_cell? _ _ DF3.out)).trans DF3.out
          go_simp
        simp only [Act.put, List.setIfInBounds_toArray, List.set_cons_zero, List.set_cons_succ]
        refine take_do (i := 7) (v := (.pointer (some ⟨w.heap.size, 2, none⟩))) rfl (by kernel_rfl) (by kernel_rfl) (by kernel_rfl) (fun _ _ _ h => h) (by rfl) ?_ (by assumption) ?_
        · intro w hSw
          skip
          go_simp
        simp only [Act.put, List.setIfInBounds_toArray, List.set_cons_zero, List.set_cons_succ]
        refine take_do (i := 8) (v := (.slice (some ⟨pb, 0, none⟩) m.pn pk)) rfl (by kernel_rfl) (by kernel_rfl) (by kernel_rfl) (fun _ _ _ h => h) (by rfl) ?_ (by assumption) ?_
        · intro w hSw
          obtain ⟨⟨r0, r1, r2, r3, r4⟩, _⟩ := rowN5 (nrow_below S7.out.s.row hSw)
          go_simp
        simp only [Act.put, List.setIfInBounds_toArray, List.set_cons_zero, List.set_cons_succ]
        refine take_do (i := 9) (v := (.int .i64 ((pp : Nat) : Int))) rfl (by kernel_rfl) (by kernel_rfl) (by kernel_rfl) (fun _ _ _ h => h) (by rfl) ?_ (by assumption) ?_
        · intro w hSw
          skip
          go_simp
        simp only [Act.put, List.setIfInBounds_toArray, List.set_cons_zero, List.set_cons_succ]
        refine take_do (i := 10) (v := (.pointer (some ⟨pb, pp * 5, none⟩))) rfl (by kernel_rfl) (by kernel_rfl) (by kernel_rfl) (fun _ _ _ h => h) (by rfl) ?_ (by assumption) ?_
        · intro w hSw
          skip
          go_simp
        simp only [Act.put, List.setIfInBounds_toArray, List.set_cons_zero, List.set_cons_succ]
        refine take_do (i := 11) (v := (pipeV m pp)) rfl (by kernel_rfl) (by kernel_rfl) (by kernel_rfl) (fun _ _ _ h => h) (by rfl) ?_ (by assumption) ?_
        · intro w hSw
          obtain ⟨pb', epb, c0, c1, c2, c3, c4⟩ := (S7.out.s.at_.p.below hSw).at5 hpp
          cases epb
          go_simp
        simp only [Act.put, List.setIfInBounds_toArray, List.set_cons_zero, List.set_cons_succ]
        refine take_call (i := 5) rfl (by kernel_rfl) (fun K2 hK => ?_)
        go_simp
        refine (specAbs (f pp) _ HN1.out HN2.out).mono ?_
        rintro e w4 ⟨rfl, rfl⟩
        go_wp2_with fail
        refine hK.out _ _ hHeld (fun hHeld2 => ?_)
        clear hK hHeld
        have hHeld := hHeld2
        clear hHeld2
        refine take_do (i := 6) (v := (.int .i64 (2 * ((f pp).natAbs : Int)))) rfl (by kernel_rfl) (by kernel_rfl) (by kernel_rfl) (fun _ _ _ h => h) (by rfl) ?_ (by assumption) ?_
        · intro w hSw
          have hq := HQ1.out
          go_simp
        simp only [Act.put, List.setIfInBounds_toArray, List.set_cons_zero, List.set_cons_succ]
        refine take_call (i := 12) rfl (by kernel_rfl) (fun K2 hK => ?_)
        go_simp
        refine (sdrag_any m pp HPP.out _).mono ?_
        rintro e w5 ⟨rfl, hb⟩
        go_wp2_with fail
        refine hK.out _ _ (hHeld.trans (hb.mono hHeld.size)) (fun hHeld2 => ?_)
        clear hK hHeld hb
        have hHeld := hHeld2
        clear hHeld2
        refine take_do (i := 13) (v := (.int .i64 (2 * ((f pp).natAbs : Int) * Mn.dragOf m pp))) rfl (by kernel_rfl) (by kernel_rfl) (by kernel_rfl) (fun _ _ _ h => h) (by rfl) ?_ (by assumption) ?_
        · intro w hSw
          have hq := HQ2.out
          go_simp
        simp only [Act.put, List.setIfInBounds_toArray, List.set_cons_zero, List.set_cons_succ]
        refine take_do (i := 14) (v := (.int .i64 (Mn.wtTo m f L (k + 1)))) rfl (by kernel_rfl) (by kernel_rfl) (by kernel_rfl) (fun _ _ _ h => h) (by rfl) ?_ (by assumption) ?_
        · intro w hSw
          have hq := HQ3.out
          go_simp
        simp only [Act.put, List.setIfInBounds_toArray, List.set_cons_zero, List.set_cons_succ]
        refine take_do (i := 15) (v := (.int .i64 (Mn.wtTo m f L (k + 1)))) rfl (by kernel_rfl) (by kernel_rfl) (by kernel_rfl) (fun _ _ _ h => h) (by rfl) ?_ (by assumption) ?_
        · intro w hSw
          skip
          go_simp
        simp only [Act.put, List.setIfInBounds_toArray, List.set_cons_zero, List.set_cons_succ]
        refine wpAnyH_done (by kernel_rfl) ?_ _
        have S9 := Lib.hid (S7.out.below hHeld)
        clear hHeld
        go_wp2_with fail
        go_roundw
        case rel => exact ⟨k + 1, by omega, by first | rfl | (rw [← HE.out]), rfl, by go_num, S9⟩
        case measure => simp [intOf]; omega
    · obtain rfl : k = n := by omega
      go_wp2_with fail
      go_ret2
      exact ⟨rfl, SX.out.s.old⟩
end Go.Proofs.YtfgmalnkpgloiaaGreatDoor
