/-
  Slopes, sums and weights of loops: the program's walk.
-/
import Derived.Test.YtfgmalnkpgloiaaGreatDoorMnF
import Derived.Test.YtfgmalnkpgloiaaGreatDoorMnT3
namespace Go.Proofs.YtfgmalnkpgloiaaGreatDoor
open Go.RowKit Go.Deep
set_option maxRecDepth 100000 in
set_option maxHeartbeats 2000000 in
theorem slopeD (d q : Int) (w : World) (hd0 : 0 ≤ d) (hd1 : d ≤ 101000) (h1 : -100000 ≤ q) (h2 : q ≤ 100000) : Calls Tryz.prog 141 #[.agg #[.int .i64 d], .int .i64 q] w fun e w' => e = .returned (.int .i64 (2 * (q.natAbs : Int) * d)) ∧ Below w.heap.size w w' := by
  have a1 := Mn.mul_bd (A := 200000) (B := 101000) (by omega : -200000 ≤ 2 * (q.natAbs : Int)) (by omega) (by omega : -101000 ≤ d) hd1 (by omega)
  have HQ1 : Hid (IntKind.i64.wrap (2 * (q.natAbs : Int)) = 2 * (q.natAbs : Int)) := mwrap_id (by omega) (by omega)
  have HQ2 : Hid (IntKind.i64.wrap (2 * (q.natAbs : Int) * d) = 2 * (q.natAbs : Int) * d) := mwrap_id (by omega) (by omega)
  have H1 := Lib.hid h1
  have H2 := Lib.hid h2
  have RW0 := Lib.hid (rowN_alloc w [.int .i64 d] 155)
  have BW0 := Lib.hid (nbel_alloc w (.cells #[.int .i64 d] 155))
  clear a1 hd0 hd1 h1 h2
  go_enter Tryz.func141, Tryz.ntmps141
  go_wp2_with fail
  obtain ⟨W0, hW0⟩ : ∃ W0, W0 = w.alloc (.cells #[.int .i64 d] 155) := ⟨_, rfl⟩
  have RW1 : Hid (W0.rowIs w.heap.size 155 1 (rowN [.int .i64 d])) := by rw [hW0]; exact RW0.out
  have BW : Hid (Below w.heap.size w W0) := by rw [hW0]; exact BW0.out
  rw [← hW0]
  obtain ⟨X, hX⟩ : ∃ X, X = w.heap.size := ⟨_, rfl⟩
  have RW : Hid (W0.rowIs X 155 1 (rowN [.int .i64 d])) := by rw [hX]; exact RW1.out
  rw [← hX]
  clear hW0 RW0 BW0 RW1 hX
  refine wp_region_held_drew (S := fun V => Below W0.heap.size W0 V) (by kernel_rfl) (Below.refl _ _).drew (fun hHeld => ?_)
  obtain ⟨Z, hZ⟩ : ∃ Z, Z = W0.drew := ⟨_, rfl⟩
  rw [← hZ] at hHeld ⊢
  clear hZ
  refine take_do (i := 0) (v := (.int .i64 q)) rfl (by kernel_rfl) (by kernel_rfl) (by kernel_rfl) (fun _ _ _ h => h) (by rfl) ?_ (by assumption) ?_
  · intro w hSw
    skip
    go_simp
  simp only [Act.put, List.setIfInBounds_toArray, List.set_cons_zero, List.set_cons_succ]
  refine take_do (i := 3) (v := (.pointer (some ⟨X, 0, none⟩))) rfl (by kernel_rfl) (by kernel_rfl) (by kernel_rfl) (fun _ _ _ h => h) (by rfl) ?_ (by assumption) ?_
  · intro w hSw
    skip
    go_simp
  simp only [Act.put, List.setIfInBounds_toArray, List.set_cons_zero, List.set_cons_succ]
  refine take_do (i := 4) (v := (.int .i64 d)) rfl (by kernel_rfl) (by kernel_rfl) (by kernel_rfl) (fun _ _ _ h => h) (by rfl) ?_ (by assumption) ?_
  · intro w hSw
    have o : w.cell? ⟨X, 0, none⟩ = some (.int .i64 d) := (nrow_below RW.out hSw).cell (i := 0) (by omega)
    go_simp
  simp only [Act.put, List.setIfInBounds_toArray, List.set_cons_zero, List.set_cons_succ]
  refine take_call (i := 1) rfl (by kernel_rfl) (fun K2 hK => ?_)
  go_simp
  refine (mag_any q _ H1.out H2.out).mono ?_
  rintro e w5 ⟨rfl, rfl⟩
  go_wp2_with fail
  refine hK.out _ _ hHeld (fun hHeld2 => ?_)
  clear hK hHeld
  have hHeld := hHeld2
  clear hHeld2
  refine take_do (i := 2) (v := (.int .i64 (2 * (q.natAbs : Int)))) rfl (by kernel_rfl) (by kernel_rfl) (by kernel_rfl) (fun _ _ _ h => h) (by rfl) ?_ (by assumption) ?_
  · intro w hSw
    have hq := HQ1.out
    go_simp
  simp only [Act.put, List.setIfInBounds_toArray, List.set_cons_zero, List.set_cons_succ]
  refine take_do (i := 5) (v := (.int .i64 (2 * (q.natAbs : Int) * d))) rfl (by kernel_rfl) (by kernel_rfl) (by kernel_rfl) (fun _ _ _ h => h) (by rfl) ?_ (by assumption) ?_
  · intro w hSw
    have hq := HQ2.out
    go_simp
  simp only [Act.put, List.setIfInBounds_toArray, List.set_cons_zero, List.set_cons_succ]
  refine take_do (i := 6) (v := (.int .i64 (2 * (q.natAbs : Int) * d))) rfl (by kernel_rfl) (by kernel_rfl) (by kernel_rfl) (fun _ _ _ h => h) (by rfl) ?_ (by assumption) ?_
  · intro w hSw
    skip
    go_simp
  simp only [Act.put, List.setIfInBounds_toArray, List.set_cons_zero, List.set_cons_succ]
  refine wpAnyH_done (by kernel_rfl) ?_ _
  have B3 := Lib.hid hHeld
  clear hHeld
  go_wp2_with fail
  go_ret
  exact ⟨rfl, BW.out.trans (B3.out.mono BW.out.size)⟩
abbrev slopeN : String := "loop.example/g00068/impl.slope"
theorem sm2 (k : Nat) (d l : Value) (w : World) : (Go.method (k + 4) 159 (.agg #[d, l]) slopeN).run Tryz.prog w = .ok (141, .agg #[d]) w := by kernel_rfl
theorem sm3 (k : Nat) (d : Value) (w : World) : (Go.method (k + 4) 157 (.agg #[d]) slopeN).run Tryz.prog w = .ok (141, .agg #[d]) w := by kernel_rfl
theorem sm4 (k : Nat) (d : Value) (w : World) : (Go.method (k + 4) 155 (.agg #[d]) slopeN).run Tryz.prog w = .ok (141, .agg #[d]) w := by kernel_rfl
theorem sm5 (k : Nat) (d : Value) (w : World) : (Go.method (k + 4) 160 (.agg #[d]) slopeN).run Tryz.prog w = .ok (141, .agg #[d]) w := by kernel_rfl
theorem sm6 (k : Nat) (d l : Value) (w : World) : (Go.method (k + 4) 162 (.agg #[d, l]) slopeN).run Tryz.prog w = .ok (141, .agg #[d]) w := by kernel_rfl
/-- What an invocation of slope comes to. -/
theorem slope_of (m : Mn.Mains) (i : Nat) (h : Mn.PipeOk m i) (q : Int) (h1 : -100000 ≤ q) (h2 : q ≤ 100000) : ∃ (T : TypeId) (v : Value) (f : FuncId) (r : Value), kv m i = .iface T v ∧ (∀ k w, (Go.method (k + 4) T v slopeN).run Tryz.prog w = .ok (f, r) w) ∧ (∀ args w, (callFunc f args).run Tryz.prog w = .ok (.enter f args) w) ∧ ∀ w, Calls Tryz.prog f #[r, .int .i64 q] w fun e w' => e = .returned (.int .i64 (2 * (q.natAbs : Int) * Mn.dragOf m i)) ∧ Below w.heap.size w w' := by
  have eD := enters_of Tryz.func141 (by kernel_rfl) rfl
  have k16 : m.P (i * 5) = 1 ∨ m.P (i * 5) = 2 ∨ m.P (i * 5) = 3 ∨ m.P (i * 5) = 4 ∨ m.P (i * 5) = 5 ∨ m.P (i * 5) = 6 := by have := h.k1; have := h.k2; omega
  have d0 := h.d0
  have d1 := h.d1
  have m0 := h.m0
  have m1 := h.m1
  unfold kv Mn.dragOf
  rcases k16 with e | e | e | e | e | e <;> rw [e] <;> simp only [kvN]
  · exact ⟨_, _, _, _, rfl, fun k w => sm4 k _ w, eD, fun w => by simpa using slopeD _ q w d0 (by omega) h1 h2⟩
  · exact ⟨_, _, _, _, rfl, fun k w => sm2 k _ _ w, eD, fun w => by simpa using slopeD _ q w d0 (by omega) h1 h2⟩
  · exact ⟨_, _, _, _, rfl, fun k w => sm3 k _ w, eD, fun w => by simpa using slopeD _ q w d0 (by omega) h1 h2⟩
  · exact ⟨_, _, _, _, rfl, fun k w => sm4 k _ w, eD, fun w => by simpa using slopeD _ q w (by omega) (by omega) h1 h2⟩
  · exact ⟨_, _, _, _, rfl, fun k w => sm5 k _ w, eD, fun w => by simpa using slopeD 0 q w (by omega) (by omega) h1 h2⟩
  · exact ⟨_, _, _, _, rfl, fun k w => sm6 k _ _ w, eD, fun w => by simpa using slopeD _ q w d0 (by omega) h1 h2⟩
set_option maxRecDepth 100000 in
set_option maxHeartbeats 8000000 in
theorem isum_any (m : Mn.Mains) (la : Option Addr) (ln lk gk : Nat) (fa : Option Addr) (fc : Nat) (f : Nat → Int) (xa : Option Addr) (n xc : Nat) (L : Nat → Int) (w : World) (hk : KdBlk gk m w) (hf : IsAt fa m.pn f w) (hx : IsAt xa n L w) (hr : Mn.Right m) (ho : Mn.AllOk m f) (hn : ∀ k, k < n → Mn.NumOk m (L k)) (hn40 : n ≤ 40) :
    Calls Tryz.prog 86 #[rmV la ln lk gk m.pn fa fc, .slice xa n xc] w fun e w' => e = .returned (.int .i64 (Mn.sumTo m f L n)) ∧ Below w.heap.size w w' := by
  have ST : Hid (WfS m la ln lk gk fa fc f w (w.alloc (.cells #[.slice la ln lk, .slice (some ⟨gk, 0, none⟩) m.pn m.pn, .slice fa m.pn fc] 70))) := ⟨rowN_alloc w [.slice la ln lk, .slice (some ⟨gk, 0, none⟩) m.pn m.pn, .slice fa m.pn fc] _, hk.below (nbel_alloc _ _), hf.below (nbel_alloc _ _), nbel_alloc _ _⟩
  have hpn := hr.pn
  have HR := Lib.hid hr
  have HO := Lib.hid ho
  have HX := Lib.hid hx
  have HN := Lib.hid hn
  clear hk hf hr ho hx hn
  go_enter Tryz.func86, Tryz.ntmps86
  go_wp2_with fail
  go_loopw [5, 12] (fun sv iv wr => ∃ (k : Nat), k ≤ n ∧ sv = .int .i64 (Mn.sumTo m f L k) ∧ iv = .int .i64 k ∧ Hid (WfS m la ln lk gk fa fc f w wr)) (fun _ iv _ => n - (intOf iv).toNat)
  case atStart => exact ⟨0, Nat.zero_le _, rfl, rfl, ST⟩
  case round =>
    obtain ⟨k, hk, rfl, rfl, SX⟩ := hrel
    clear ST
    have sb := Mn.sum_bd HR.out HO.out k (fun j hj => HN.out j (by omega))
    by_cases hlt : k < n
    · have hltz : (k : Int) < (n : Int) := by omega
      have hk40 : (k : Int) ≤ 39 := by omega
      obtain ⟨xb, e, dx⟩ := (HX.out.below SX.out.old).at1 hlt
      subst e
      have nk := HN.out k hlt
      obtain ⟨pp, hpe⟩ : ∃ pp, pp = Mn.place (L k) := ⟨_, rfl⟩
      have hpp : pp < m.pn := by rw [hpe]; exact nk.lt
      have HPP := Lib.hid (HR.out.p pp hpp)
      have fbd := Mn.okF_bd HPP.out (HO.out pp hpp)
      have fb1 := Mn.fall_bd HPP.out fbd.1 fbd.2
      have wb := Mn.wt_part HPP.out fbd.1 fbd.2
      obtain ⟨KT, KV, ff, rr, hkv, hm, he, hc⟩ := fall_of m pp HPP.out (f pp) fbd.1 fbd.2
      have HC := Lib.hid hc
      have ck0 := kd_cell SX.out.k hpp
      rw [hkv] at ck0
      have CK := Lib.hid ck0
      obtain ⟨fb, ef, df⟩ := SX.out.f.at1 hpp
      subst ef
      have DF := Lib.hid df
      have hppz : ((pp : Nat) : Int) < (m.pn : Int) := by omega
      obtain ⟨wy, hwy⟩ : ∃ wy, wy = wayI (L k) := ⟨_, rfl⟩
      obtain ⟨SU, hSU⟩ : ∃ SU, SU = Mn.sumTo m f L k := ⟨_, rfl⟩
      rw [← hSU] at sb ⊢
      have HSU : Hid (Mn.sumTo m f L (k + 1) = SU + wy * Mn.fall m pp (f pp)) := by
        show _ = _
        simp only [Mn.sumTo]
        rw [hSU, hwy, hpe]
        unfold Mn.sg wayI
        split <;> omega
      have hwy1 : wy = 1 ∨ wy = -1 := by rw [hwy]; unfold wayI; split <;> simp
      have HQ1 : Hid (IntKind.i64.wrap (wy * Mn.fall m pp (f pp)) = wy * Mn.fall m pp (f pp)) := by
        rcases hwy1 with e | e <;> rw [e] <;> exact mwrap_id (by omega) (by omega)
      have HQ2 : Hid (IntKind.i64.wrap (SU + wy * Mn.fall m pp (f pp)) = SU + wy * Mn.fall m pp (f pp)) := by
        rcases hwy1 with e | e <;> rw [e] <;> exact mwrap_id (by omega) (by omega)
      clear hwy1
      have NK := Lib.hid nk
      have HPE := Lib.hid hpe
      have HPN := Lib.hid hpn
      have HWY := Lib.hid hwy
      clear fbd fb1 wb df nk hpe sb hc hkv ck0 hwy hSU
      go_wp2_with fail
      refine (passed_any (L k) _ NK.out.1 (by have := NK.out.2; have := HPN.out; omega) (by have := NK.out.2; have := HPN.out; omega)).mono ?_
      rintro e w2 ⟨rfl, e2⟩
      subst w2
      rw [← HPE.out, ← HWY.out]
      go_wp2_with fail
      clear dx
      refine wp_region_held_drew (S := fun V => Below wr.heap.size wr V) (by kernel_rfl) (Below.refl _ _).drew (fun hHeld => ?_)
      obtain ⟨Z, hZ⟩ : ∃ Z, Z = wr.drew := ⟨_, rfl⟩
      rw [← hZ] at hHeld ⊢
      clear hZ
      refine take_do (i := 0) (v := (.int .i64 SU)) rfl (by kernel_rfl) (by kernel_rfl) (by kernel_rfl) (fun _ _ _ h => h) (by rfl) ?_ (by assumption) ?_
      · intro w hSw
        skip
        go_simp
      simp only [Act.put, List.setIfInBounds_toArray, List.set_cons_zero, List.set_cons_succ]
      refine take_do (i := 1) (v := (.int .i64 wy)) rfl (by kernel_rfl) (by kernel_rfl) (by kernel_rfl) (fun _ _ _ h => h) (by rfl) ?_ (by assumption) ?_
      · intro w hSw
        skip
        go_simp
      simp only [Act.put, List.setIfInBounds_toArray, List.set_cons_zero, List.set_cons_succ]
      refine take_do (i := 2) (v := (.pointer (some ⟨w.heap.size, 1, none⟩))) rfl (by kernel_rfl) (by kernel_rfl) (by kernel_rfl) (fun _ _ _ h => h) (by rfl) ?_ (by assumption) ?_
      · intro w hSw
        skip
        go_simp
      simp only [Act.put, List.setIfInBounds_toArray, List.set_cons_zero, List.set_cons_succ]
      refine take_do (i := 3) (v := (.slice (some ⟨gk, 0, none⟩) m.pn m.pn)) rfl (by kernel_rfl) (by kernel_rfl) (by kernel_rfl) (fun _ _ _ h => h) (by rfl) ?_ (by assumption) ?_
      · intro w hSw
        obtain ⟨⟨r0, r1, r2⟩, _⟩ := rowN3 (nrow_below SX.out.row hSw)
        go_simp
      simp only [Act.put, List.setIfInBounds_toArray, List.set_cons_zero, List.set_cons_succ]
      refine take_do (i := 4) (v := (.int .i64 ((pp : Nat) : Int))) rfl (by kernel_rfl) (by kernel_rfl) (by kernel_rfl) (fun _ _ _ h => h) (by rfl) ?_ (by assumption) ?_
      · intro w hSw
        skip
        go_simp
      simp only [Act.put, List.setIfInBounds_toArray, List.set_cons_zero, List.set_cons_succ]
      refine take_do (i := 5) (v := (.pointer (some ⟨gk, pp, none⟩))) rfl (by kernel_rfl) (by kernel_rfl) (by kernel_rfl) (fun _ _ _ h => h) (by rfl) ?_ (by assumption) ?_
      · intro w hSw
        skip
        go_simp
      simp only [Act.put, List.setIfInBounds_toArray, List.set_cons_zero, List.set_cons_succ]
      refine take_do (i := 6) (v := (.iface KT KV)) rfl (by kernel_rfl) (by kernel_rfl) (by kernel_rfl) (fun _ _ _ h => h) (by rfl) ?_ (by assumption) ?_
      · intro w hSw
        have ck := (hSw.cell (World.block_lt_of_cell? _ _ CK.out)).trans CK.out
        go_simp
      simp only [Act.put, List.setIfInBounds_toArray, List.set_cons_zero, List.set_cons_succ]
      refine take_do (i := 7) (v := (.pointer (some ⟨w.heap.size, 2, none⟩))) rfl (by kernel_rfl) (by kernel_rfl) (by kernel_rfl) (fun _ _ _ h => h) (by rfl) ?_ (by assumption) ?_
      · intro w hSw
        skip
        go_simp
      simp only [Act.put, List.setIfInBounds_toArray, List.set_cons_zero, List.set_cons_succ]
      refine take_do (i := 8) (v := (.slice (some ⟨fb, 0, none⟩) m.pn fc)) rfl (by kernel_rfl) (by kernel_rfl) (by kernel_rfl) (fun _ _ _ h => h) (by rfl) ?_ (by assumption) ?_
      · intro w hSw
        obtain ⟨⟨r0, r1, r2⟩, _⟩ := rowN3 (nrow_below SX.out.row hSw)
        go_simp
      simp only [Act.put, List.setIfInBounds_toArray, List.set_cons_zero, List.set_cons_succ]
      refine take_do (i := 9) (v := (.int .i64 ((pp : Nat) : Int))) rfl (by kernel_rfl) (by kernel_rfl) (by kernel_rfl) (fun _ _ _ h => h) (by rfl) ?_ (by assumption) ?_
      · intro w hSw
        skip
        go_simp
      simp only [Act.put, List.setIfInBounds_toArray, List.set_cons_zero, List.set_cons_succ]
      refine take_do (i := 10) (v := (.pointer (some ⟨fb, pp, none⟩))) rfl (by kernel_rfl) (by kernel_rfl) (by kernel_rfl) (fun _ _ _ h => h) (by rfl) ?_ (by assumption) ?_
      · intro w hSw
        skip
        go_simp
      simp only [Act.put, List.setIfInBounds_toArray, List.set_cons_zero, List.set_cons_succ]
      refine take_do (i := 11) (v := (.int .i64 (f pp))) rfl (by kernel_rfl) (by kernel_rfl) (by kernel_rfl) (fun _ _ _ h => h) (by rfl) ?_ (by assumption) ?_
      · intro w hSw
        have df := (hSw.cell (World.block_lt_of_cell? _ _ DF.out)).trans DF.out
        go_simp
      simp only [Act.put, List.setIfInBounds_toArray, List.set_cons_zero, List.set_cons_succ]
      refine take_do (i := 12) (v := (.iface KT KV)) rfl (by kernel_rfl) (by kernel_rfl) (by kernel_rfl) (fun _ _ _ h => h) (by rfl) ?_ (by assumption) ?_
      · intro w hSw
        skip
        go_simp
      simp only [Act.put, List.setIfInBounds_toArray, List.set_cons_zero, List.set_cons_succ]
      refine take_do (i := 13) (v := (.iface KT KV)) rfl (by kernel_rfl) (by kernel_rfl) (by kernel_rfl) (fun _ _ _ h => h) (by rfl) ?_ (by assumption) ?_
      · intro w hSw
        skip
        go_simp
      simp only [Act.put, List.setIfInBounds_toArray, List.set_cons_zero, List.set_cons_succ]
      refine take_call (i := 14) rfl (by kernel_rfl) (fun K2 hK => ?_)
      go_simp
      refine (HC.out _).mono ?_
      rintro e w3 ⟨rfl, hb⟩
      go_wp2_with fail
      refine hK.out _ _ (hHeld.trans (hb.mono hHeld.size)) (fun hHeld2 => ?_)
      clear hK hHeld hb
      have hHeld := hHeld2
      clear hHeld2
      refine take_do (i := 15) (v := (.int .i64 (wy * Mn.fall m pp (f pp)))) rfl (by kernel_rfl) (by kernel_rfl) (by kernel_rfl) (fun _ _ _ h => h) (by rfl) ?_ (by assumption) ?_
      · intro w hSw
        have hq := HQ1.out
        go_simp
      simp only [Act.put, List.setIfInBounds_toArray, List.set_cons_zero, List.set_cons_succ]
      refine take_do (i := 16) (v := (.int .i64 (SU + wy * Mn.fall m pp (f pp)))) rfl (by kernel_rfl) (by kernel_rfl) (by kernel_rfl) (fun _ _ _ h => h) (by rfl) ?_ (by assumption) ?_
      · intro w hSw
        have hq := HQ2.out
        go_simp
      simp only [Act.put, List.setIfInBounds_toArray, List.set_cons_zero, List.set_cons_succ]
      refine take_do (i := 17) (v := (.int .i64 (SU + wy * Mn.fall m pp (f pp)))) rfl (by kernel_rfl) (by kernel_rfl) (by kernel_rfl) (fun _ _ _ h => h) (by rfl) ?_ (by assumption) ?_
      · intro w hSw
        skip
        go_simp
      simp only [Act.put, List.setIfInBounds_toArray, List.set_cons_zero, List.set_cons_succ]
      refine wpAnyH_done (by kernel_rfl) ?_ _
      have S3 := Lib.hid (SX.out.below hHeld)
      clear hHeld
      rw [← HSU.out]
      go_wp2_with fail
      go_roundw
      case rel => exact ⟨k + 1, by omega, rfl, by go_num, S3⟩
      case measure => simp [intOf]; omega
    · obtain rfl : k = n := by omega
      go_wp2_with fail
      go_ret
      exact ⟨rfl, SX.out.old⟩
set_option maxRecDepth 100000 in
set_option maxHeartbeats 8000000 in
theorem iwt_any (m : Mn.Mains) (la : Option Addr) (ln lk gk : Nat) (fa : Option Addr) (fc : Nat) (f : Nat → Int) (xa : Option Addr) (n xc : Nat) (L : Nat → Int) (w : World) (hk : KdBlk gk m w) (hf : IsAt fa m.pn f w) (hx : IsAt xa n L w) (hr : Mn.Right m) (ho : Mn.AllOk m f) (hn : ∀ k, k < n → Mn.NumOk m (L k)) (hn40 : n ≤ 40) :
    Calls Tryz.prog 101 #[rmV la ln lk gk m.pn fa fc, .slice xa n xc] w fun e w' => e = .returned (.int .i64 (Mn.wtTo m f L n)) ∧ Below w.heap.size w w' := by
  have ST : Hid (WfS m la ln lk gk fa fc f w (w.alloc (.cells #[.slice la ln lk, .slice (some ⟨gk, 0, none⟩) m.pn m.pn, .slice fa m.pn fc] 70))) := ⟨rowN_alloc w [.slice la ln lk, .slice (some ⟨gk, 0, none⟩) m.pn m.pn, .slice fa m.pn fc] _, hk.below (nbel_alloc _ _), hf.below (nbel_alloc _ _), nbel_alloc _ _⟩
  have hpn := hr.pn
  have HR := Lib.hid hr
  have HO := Lib.hid ho
  have HX := Lib.hid hx
  have HN := Lib.hid hn
  clear hk hf hr ho hx hn
  go_enter Tryz.func101, Tryz.ntmps101
  go_wp2_with fail
  go_loopw [5, 12] (fun sv iv wr => ∃ (k : Nat), k ≤ n ∧ sv = .int .i64 (Mn.wtTo m f L k) ∧ iv = .int .i64 k ∧ Hid (WfS m la ln lk gk fa fc f w wr)) (fun _ iv _ => n - (intOf iv).toNat)
  case atStart => exact ⟨0, Nat.zero_le _, rfl, rfl, ST⟩
  case round =>
    obtain ⟨k, hk, rfl, rfl, SX⟩ := hrel
    clear ST
    have sb := Mn.sum_bd HR.out HO.out k (fun j hj => HN.out j (by omega))
    by_cases hlt : k < n
    · have hltz : (k : Int) < (n : Int) := by omega
      have hk40 : (k : Int) ≤ 39 := by omega
      obtain ⟨xb, e, dx⟩ := (HX.out.below SX.out.old).at1 hlt
      subst e
      have nk := HN.out k hlt
      obtain ⟨pp, hpe⟩ : ∃ pp, pp = Mn.place (L k) := ⟨_, rfl⟩
      have hpp : pp < m.pn := by rw [hpe]; exact nk.lt
      have HPP := Lib.hid (HR.out.p pp hpp)
      have fbd := Mn.okF_bd HPP.out (HO.out pp hpp)
      have fb1 := Mn.fall_bd HPP.out fbd.1 fbd.2
      have wb := Mn.wt_part HPP.out fbd.1 fbd.2
      obtain ⟨KT, KV, ff, rr, hkv, hm, he, hc⟩ := slope_of m pp HPP.out (f pp) fbd.1 fbd.2
      have HC := Lib.hid hc
      have ck0 := kd_cell SX.out.k hpp
      rw [hkv] at ck0
      have CK := Lib.hid ck0
      obtain ⟨fb, ef, df⟩ := SX.out.f.at1 hpp
      subst ef
      have DF := Lib.hid df
      have hppz : ((pp : Nat) : Int) < (m.pn : Int) := by omega
      obtain ⟨wy, hwy⟩ : ∃ wy, wy = wayI (L k) := ⟨_, rfl⟩
      obtain ⟨SU, hSU⟩ : ∃ SU, SU = Mn.wtTo m f L k := ⟨_, rfl⟩
      rw [← hSU] at sb ⊢
      have HSU : Hid (Mn.wtTo m f L (k + 1) = SU + 2 * ((f pp).natAbs : Int) * Mn.dragOf m pp) := by
        show _ = _
        simp only [Mn.wtTo]
        rw [hSU, hpe]
      have HQ2 : Hid (IntKind.i64.wrap (SU + 2 * ((f pp).natAbs : Int) * Mn.dragOf m pp) = SU + 2 * ((f pp).natAbs : Int) * Mn.dragOf m pp) := mwrap_id (by omega) (by omega)
      have NK := Lib.hid nk
      have HPE := Lib.hid hpe
      have HPN := Lib.hid hpn
      have HWY := Lib.hid hwy
      clear fbd fb1 wb df nk hpe sb hc hkv ck0 hwy hSU
      go_wp2_with fail
      refine (passed_any (L k) _ NK.out.1 (by have := NK.out.2; have := HPN.out; omega) (by have := NK.out.2; have := HPN.out; omega)).mono ?_
      rintro e w2 ⟨rfl, e2⟩
      subst w2
      rw [← HPE.out, ← HWY.out]
      go_wp2_with fail
      clear dx
      refine wp_region_held_drew (S := fun V => Below wr.heap.size wr V) (by kernel_rfl) (Below.refl _ _).drew (fun hHeld => ?_)
      obtain ⟨Z, hZ⟩ : ∃ Z, Z = wr.drew := ⟨_, rfl⟩
      rw [← hZ] at hHeld ⊢
      clear hZ
      refine take_do (i := 0) (v := (.int .i64 SU)) rfl (by kernel_rfl) (by kernel_rfl) (by kernel_rfl) (fun _ _ _ h => h) (by rfl) ?_ (by assumption) ?_
      · intro w hSw
        skip
        go_simp
      simp only [Act.put, List.setIfInBounds_toArray, List.set_cons_zero, List.set_cons_succ]
      refine take_do (i := 1) (v := (.pointer (some ⟨w.heap.size, 1, none⟩))) rfl (by kernel_rfl) (by kernel_rfl) (by kernel_rfl) (fun _ _ _ h => h) (by rfl) ?_ (by assumption) ?_
      · intro w hSw
        skip
        go_simp
      simp only [Act.put, List.setIfInBounds_toArray, List.set_cons_zero, List.set_cons_succ]
      refine take_do (i := 2) (v := (.slice (some ⟨gk, 0, none⟩) m.pn m.pn)) rfl (by kernel_rfl) (by kernel_rfl) (by kernel_rfl) (fun _ _ _ h => h) (by rfl) ?_ (by assumption) ?_
      · intro w hSw
        obtain ⟨⟨r0, r1, r2⟩, _⟩ := rowN3 (nrow_below SX.out.row hSw)
        go_simp
      simp only [Act.put, List.setIfInBounds_toArray, List.set_cons_zero, List.set_cons_succ]
      refine take_do (i := 3) (v := (.int .i64 ((pp : Nat) : Int))) rfl (by kernel_rfl) (by kernel_rfl) (by kernel_rfl) (fun _ _ _ h => h) (by rfl) ?_ (by assumption) ?_
      · intro w hSw
        skip
        go_simp
      simp only [Act.put, List.setIfInBounds_toArray, List.set_cons_zero, List.set_cons_succ]
      refine take_do (i := 4) (v := (.pointer (some ⟨gk, pp, none⟩))) rfl (by kernel_rfl) (by kernel_rfl) (by kernel_rfl) (fun _ _ _ h => h) (by rfl) ?_ (by assumption) ?_
      · intro w hSw
        skip
        go_simp
      simp only [Act.put, List.setIfInBounds_toArray, List.set_cons_zero, List.set_cons_succ]
      refine take_do (i := 5) (v := (.iface KT KV)) rfl (by kernel_rfl) (by kernel_rfl) (by kernel_rfl) (fun _ _ _ h => h) (by rfl) ?_ (by assumption) ?_
      · intro w hSw
        have ck := (hSw.cell (World.block_lt_of_cell? _ _ CK.out)).trans CK.out
        go_simp
      simp only [Act.put, List.setIfInBounds_toArray, List.set_cons_zero, List.set_cons_succ]
      refine take_do (i := 6) (v := (.pointer (some ⟨w.heap.size, 2, none⟩))) rfl (by kernel_rfl) (by kernel_rfl) (by kernel_rfl) (fun _ _ _ h => h) (by rfl) ?_ (by assumption) ?_
      · intro w hSw
        skip
        go_simp
      simp only [Act.put, List.setIfInBounds_toArray, List.set_cons_zero, List.set_cons_succ]
      refine take_do (i := 7) (v := (.slice (some ⟨fb, 0, none⟩) m.pn fc)) rfl (by kernel_rfl) (by kernel_rfl) (by kernel_rfl) (fun _ _ _ h => h) (by rfl) ?_ (by assumption) ?_
      · intro w hSw
        obtain ⟨⟨r0, r1, r2⟩, _⟩ := rowN3 (nrow_below SX.out.row hSw)
        go_simp
      simp only [Act.put, List.setIfInBounds_toArray, List.set_cons_zero, List.set_cons_succ]
      refine take_do (i := 8) (v := (.int .i64 ((pp : Nat) : Int))) rfl (by kernel_rfl) (by kernel_rfl) (by kernel_rfl) (fun _ _ _ h => h) (by rfl) ?_ (by assumption) ?_
      · intro w hSw
        skip
        go_simp
      simp only [Act.put, List.setIfInBounds_toArray, List.set_cons_zero, List.set_cons_succ]
      refine take_do (i := 9) (v := (.pointer (some ⟨fb, pp, none⟩))) rfl (by kernel_rfl) (by kernel_rfl) (by kernel_rfl) (fun _ _ _ h => h) (by rfl) ?_ (by assumption) ?_
      · intro w hSw
        skip
        go_simp
      simp only [Act.put, List.setIfInBounds_toArray, List.set_cons_zero, List.set_cons_succ]
      refine take_do (i := 10) (v := (.int .i64 (f pp))) rfl (by kernel_rfl) (by kernel_rfl) (by kernel_rfl) (fun _ _ _ h => h) (by rfl) ?_ (by assumption) ?_
      · intro w hSw
        have df := (hSw.cell (World.block_lt_of_cell? _ _ DF.out)).trans DF.out
        go_simp
      simp only [Act.put, List.setIfInBounds_toArray, List.set_cons_zero, List.set_cons_succ]
      refine take_do (i := 11) (v := (.iface KT KV)) rfl (by kernel_rfl) (by kernel_rfl) (by kernel_rfl) (fun _ _ _ h => h) (by rfl) ?_ (by assumption) ?_
      · intro w hSw
        skip
        go_simp
      simp only [Act.put, List.setIfInBounds_toArray, List.set_cons_zero, List.set_cons_succ]
      refine take_do (i := 12) (v := (.iface KT KV)) rfl (by kernel_rfl) (by kernel_rfl) (by kernel_rfl) (fun _ _ _ h => h) (by rfl) ?_ (by assumption) ?_
      · intro w hSw
        skip
        go_simp
      simp only [Act.put, List.setIfInBounds_toArray, List.set_cons_zero, List.set_cons_succ]
      refine take_call (i := 13) rfl (by kernel_rfl) (fun K2 hK => ?_)
      go_simp
      refine (HC.out _).mono ?_
      rintro e w3 ⟨rfl, hb⟩
      go_wp2_with fail
      refine hK.out _ _ (hHeld.trans (hb.mono hHeld.size)) (fun hHeld2 => ?_)
      clear hK hHeld hb
      have hHeld := hHeld2
      clear hHeld2
      refine take_do (i := 14) (v := (.int .i64 (SU + 2 * ((f pp).natAbs : Int) * Mn.dragOf m pp))) rfl (by kernel_rfl) (by kernel_rfl) (by kernel_rfl) (fun _ _ _ h => h) (by rfl) ?_ (by assumption) ?_
      · intro w hSw
        have hq := HQ2.out
        go_simp
      simp only [Act.put, List.setIfInBounds_toArray, List.set_cons_zero, List.set_cons_succ]
      refine take_do (i := 15) (v := (.int .i64 (SU + 2 * ((f pp).natAbs : Int) * Mn.dragOf m pp))) rfl (by kernel_rfl) (by kernel_rfl) (by kernel_rfl) (fun _ _ _ h => h) (by rfl) ?_ (by assumption) ?_
      · intro w hSw
        skip
        go_simp
      simp only [Act.put, List.setIfInBounds_toArray, List.set_cons_zero, List.set_cons_succ]
      refine wpAnyH_done (by kernel_rfl) ?_ _
      have S3 := Lib.hid (SX.out.below hHeld)
      clear hHeld
      rw [← HSU.out]
      go_wp2_with fail
      go_roundw
      case rel => exact ⟨k + 1, by omega, rfl, by go_num, S3⟩
      case measure => simp [intOf]; omega
    · obtain rfl : k = n := by omega
      go_wp2_with fail
      go_ret
      exact ⟨rfl, SX.out.old⟩
end Go.Proofs.YtfgmalnkpgloiaaGreatDoor
