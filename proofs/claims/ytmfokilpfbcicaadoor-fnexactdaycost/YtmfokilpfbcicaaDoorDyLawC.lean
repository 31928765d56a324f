/-
  The law FnExactDayCost.
-/
import Derived.Test.YtmfokilpfbcicaaDoorDyLawR
import Derived.Test.YtmfokilpfbcicaaDoorDyLo
import Derived.Test.YtmfokilpfbcicaaDoorDyC3
import Derived.Test.YtmfokilpfbcicaaDoorDyC4
namespace Go.Proofs.YtmfokilpfbcicaaDoor
open Go.RowKit Go.Deep

/-- What lasts in this law: the model's list below X, the program's from B on, the second argument. -/
structure DcP (w : World) (X B N : Nat) (a0 : Option Addr) (c0 : Nat) (b : Option Addr) (c : Nat) (f g : Nat → Int) (gx m : Nat) (h : Nat → Int) (g9 : Nat) (px py pz : Int) (W : World) : Prop where
  l0 : DlOwn w.heap.size N a0 c0 f W
  lo : (∀ k, a0 = some ⟨k, 0, none⟩ → k < X) ∧ X ≤ gx ∧ gx < B ∧ B ≤ g9 ∧ ∀ k, b = some ⟨k, 0, none⟩ → k < g9
  l1 : DlOwn B N b c g W
  x : IsBlk 2 gx m h W
  r6 : W.rowIs X 28 4 (rowN (doL a0 N c0 px py pz))
  r9 : W.rowIs g9 28 4 (rowN (doL b N c px py pz))
theorem DcP.below {w : World} {X B N : Nat} {a0 : Option Addr} {c0 : Nat} {b : Option Addr} {c : Nat} {f g : Nat → Int} {gx m : Nat} {h : Nat → Int} {g9 : Nat} {px py pz : Int} : DLasts (DcP w X B N a0 c0 b c f g gx m h g9 px py pz) := fun _ _ hb h => ⟨h.l0.below hb, h.lo, h.l1.below hb, h.x.below hb, nrow_below h.r6 hb, nrow_below h.r9 hb⟩
theorem DcP.keep {w : World} {X B N : Nat} {a0 : Option Addr} {c0 : Nat} {b : Option Addr} {c : Nat} {f g g' : Nat → Int} {gx m : Nat} {h h' : Nat → Int} {g9 : Nat} {px py pz : Int} {W W' : World} (p : DcP w X B N a0 c0 b c f g gx m h g9 px py pz W) (h0 : ∀ k, w.heap.size ≤ k → k ≤ X → k < W.heap.size → W'.heap[k]? = W.heap[k]?) (hX : w.heap.size ≤ X) (h9 : W'.heap[g9]? = W.heap[g9]?) (h1 : DlOwn B N b c g' W') (h2 : IsBlk 2 gx m h' W') : DcP w X B N a0 c0 b c f g' gx m h' g9 px py pz W' := by
  refine ⟨?_, p.lo, h1, h2, p.r6.of_block (h0 X hX (Nat.le_refl _) p.r6.lt), p.r9.of_block h9⟩
  rcases p.l0 with k | ⟨g, e, k1, k2⟩
  · exact Or.inl k
  · exact Or.inr ⟨g, e, k1, k2.block (h0 g k1 (Nat.le_of_lt (p.lo.1 g e)) k2.lt)⟩
set_option maxRecDepth 100000 in
set_option maxHeartbeats 4000000 in
theorem dayCost_law (w : World) (n : Dy.Day) (la : Option Addr) (lk : Nat) (fa : Option Addr) (fk : Nat) (wa : Option Addr) (wk : Nat) (h : DyIn n la fa wa w) (hl : DyLens n) (a : Option Addr) (N cap : Nat) (f : Nat → Int) (hk : IsIn a N f w) (hN : N ≤ 9223372036854775807) (hg : Et w ∧ TabOk w) :
    Calls Tryd.prog 3 #[dyV n la lk fa fk wa wk, .slice a N cap] w fun e w' => e = .returned (.bool true) ∧ Below w.heap.size w w' := by
  have H := Lib.hid h
  have HK := Lib.hid hk
  have HG := Lib.hid hg
  obtain ⟨W, hW⟩ : ∃ W, W = w.alloc (.cells #[.slice la n.mn lk, .slice fa n.wn fk, .slice wa n.pn wk, .int .i64 n.tank, .int .i64 n.low, .int .i64 n.high] 25) := ⟨_, rfl⟩
  have R0 : Hid (W.rowIs w.heap.size 25 6 (rowN (dyL n la lk fa fk wa wk))) := by rw [hW]; exact rowN_alloc w _ _
  have B0 : Hid (Below w.heap.size w W) := by rw [hW]; exact nbel_alloc _ _
  have HW := Lib.hid hW
  clear h hW hk hg
  by_cases hbig : (1048576 : Int) < (N : Int)
  · go_enter Tryd.func3, Tryd.ntmps3
    go_wp2_with fail
    rw [← HW.out]
    go_ret
    exact ⟨rfl, B0.out⟩
  have HNS : Hid (N ≤ 1048576) := by show N ≤ 1048576; omega
  go_enter Tryd.func3, Tryd.ntmps3
  go_wp2_with fail
  rw [← HW.out]
  refine (szDay_any n la lk fa fk wa wk _ hl.1 hl.2.1 hl.2.2).mono ?_
  rintro e w1 ⟨⟨z, rfl, hz⟩, hb⟩
  have R1 := Lib.hid (nrow_below R0.out hb)
  have B1 : Hid (Below w.heap.size w w1) := B0.out.trans (hb.mono B0.out.size)
  clear hb R0 B0
  rcases hz with hz | ⟨hz, hs⟩
  · go_wp2_with fail
    go_ret
    exact ⟨rfl, B1.out⟩
  have HS := Lib.hid hs
  have hz0 : ¬ z < 0 := by omega
  clear hs hz
  obtain ⟨⟨r0, r1, r2, r3, r4, r5⟩, _⟩ := rowN6 R1.out
  go_wp2_with fail
  refine (toDay_any n la lk fa fk wa wk _ (H.out.below B1.out) HS.out).mono ?_
  rintro e w2 ⟨⟨gl, gf, gw, rfl, hk⟩, hb⟩
  have R2 := Lib.hid (nrow_below R1.out hb)
  have B2 : Hid (Below w.heap.size w w2) := B1.out.trans (hb.mono B1.out.size)
  have K2 := Lib.hid hk
  clear hb hk R1 B1 r0 r1 r2 r3 r4 r5
  go_wp2_with fail
  refine (ntoInt64S_any a N cap f _ (HK.out.below B2.out) HNS.out).mono ?_
  rintro e w2' ⟨⟨rfl, hk⟩, hb⟩
  have R2' := Lib.hid (nrow_below R2.out hb)
  have B2' : Hid (Below w.heap.size w w2') := B2.out.trans (hb.mono B2.out.size)
  have K2' := Lib.hid (K2.out.below hb)
  have X2 := Lib.hid hk
  clear hb hk R2 B2 K2
  go_wp2_with fail
  refine (specCost_any n _ _ _ _ _ _ _ N N f _ K2'.out.at_ HS.out (X2.out).at_ HNS.out).mono ?_
  rintro e w3 ⟨hD, hb⟩
  obtain ⟨hdl, a0, c0, rfl, hL⟩ := hD.tell
  obtain ⟨K, hbk⟩ : ∃ K, K = Dy.lenC n N f := ⟨_, rfl⟩
  obtain ⟨x, hbx⟩ : ∃ x, x = Dy.paidC n N f := ⟨_, rfl⟩
  obtain ⟨y, hby⟩ : ∃ y, y = Dy.tankC n N f := ⟨_, rfl⟩
  obtain ⟨z', hbz⟩ : ∃ z', z' = Dy.codeC n N f := ⟨_, rfl⟩
  have HBK := Lib.hid hbk
  have HBX := Lib.hid hbx
  have HBY := Lib.hid hby
  have HBZ := Lib.hid hbz
  rw [← hbk] at hdl hL ⊢
  rw [← hbx, ← hby, ← hbz]
  have R3 := Lib.hid (nrow_below R2'.out hb)
  have B3 : Hid (Below w.heap.size w w3) := B2'.out.trans (hb.mono B2'.out.size)
  have L3 : Hid (DlOwn w.heap.size K a0 c0 f w3) := hL.low B2'.out.size
  have LO : Hid (∀ k, a0 = some ⟨k, 0, none⟩ → k < w3.heap.size) := fun k e => (hL.lt e).2
  have HDL := Lib.hid hdl
  clear hbk hbx hby hbz hb R2' B2' K2' X2 hD hL hdl
  obtain ⟨W3, hW3⟩ : ∃ W3, W3 = w3.alloc (.cells #[.slice a0 K c0, .int .i64 x, .int .i64 y, .int .i64 z'] 28) := ⟨_, rfl⟩
  have A3 : Hid (W3.rowIs w3.heap.size 28 4 (rowN (doL a0 K c0 x y z'))) := by rw [hW3]; exact rowN_alloc w3 _ _
  have R3' : Hid (W3.rowIs w.heap.size 25 6 (rowN (dyL n la lk fa fk wa wk))) := by rw [hW3]; exact nrow_below R3.out (nbel_alloc _ _)
  have B3' : Hid (Below w.heap.size w W3) := by rw [hW3]; exact B3.out.alloc B3.out.size _
  have L3' : Hid (DlOwn w.heap.size K a0 c0 f W3) := by rw [hW3]; exact L3.out.below (nbel_alloc _ _)
  have HW3 := Lib.hid hW3
  have X33 : Hid (W3.heap.size = w3.heap.size + 1) := by show _ = _; rw [hW3]; simp
  have X3w : Hid (w.heap.size < w3.heap.size) := R3.out.lt
  clear hW3 L3 R3 B3
  obtain ⟨⟨r0, r1, r2, r3, r4, r5⟩, _⟩ := rowN6 R3'.out
  rw [HW3.out] at r0 r1 r2 r3 r4 r5
  go_wp2_with fail
  rw [← HW3.out]
  refine (toDay_any n la lk fa fk wa wk _ (H.out.below B3'.out) HS.out).mono ?_
  rintro e w4 ⟨⟨gl2, gf2, gw2, rfl, hk⟩, hb⟩
  have R4 := Lib.hid (nrow_below R3'.out hb)
  have B4 : Hid (Below w.heap.size w w4) := B3'.out.trans (hb.mono B3'.out.size)
  have K4 := Lib.hid hk
  have L4 := Lib.hid (L3'.out.below hb)
  have A4 := Lib.hid (nrow_below A3.out hb)
  have X34 : Hid (w3.heap.size ≤ w4.heap.size ∧ w.heap.size < w3.heap.size) := ⟨by have := hb.size; have := X33.out; omega, X3w.out⟩
  clear hb hk R3' B3' r0 r1 r2 r3 r4 r5 L3' A3
  obtain ⟨W4, hW4⟩ : ∃ W4, W4 = w4.alloc (.cells #[.slice (some ⟨gl2, 0, none⟩) n.mn n.mn, .slice (some ⟨gf2, 0, none⟩) n.wn n.wn, .slice (some ⟨gw2, 0, none⟩) n.pn n.pn, .int .i64 n.tank, .int .i64 n.low, .int .i64 n.high] 32) := ⟨_, rfl⟩
  have Q4 : Hid (W4.rowIs w4.heap.size 32 6 (rowN (dyL n (some ⟨gl2, 0, none⟩) n.mn (some ⟨gf2, 0, none⟩) n.wn (some ⟨gw2, 0, none⟩) n.pn))) := by rw [hW4]; exact rowN_alloc w4 _ _
  have R5 : Hid (W4.rowIs w.heap.size 25 6 (rowN (dyL n la lk fa fk wa wk))) := by rw [hW4]; exact nrow_below R4.out (nbel_alloc _ _)
  have B5 : Hid (Below w.heap.size w W4) := by rw [hW4]; exact B4.out.alloc B4.out.size _
  have K5 : Hid (DyBlk n W3.heap.size gl2 gf2 gw2 W4) := by rw [hW4]; exact K4.out.below (nbel_alloc _ _)
  have L5 : Hid (DlOwn w.heap.size K a0 c0 f W4) := by rw [hW4]; exact L4.out.below (nbel_alloc _ _)
  have A5 : Hid (W4.rowIs w3.heap.size 28 4 (rowN (doL a0 K c0 x y z'))) := by rw [hW4]; exact nrow_below A4.out (nbel_alloc _ _)
  have X45 : Hid (w4.heap.size < W4.heap.size) := Q4.out.lt
  have HW4 := Lib.hid hW4
  clear hW4 R4 B4 K4 L4 A4
  go_wp2_with fail
  rw [← HW4.out]
  refine (ntoInt64S_any a N cap f _ (HK.out.below B5.out) HNS.out).mono ?_
  rintro e w5 ⟨⟨rfl, hk⟩, hb⟩
  have S5 : Hid (DL6 w n la lk fa fk wa wk w4.heap.size W3.heap.size gl2 gf2 gw2 (fun V => IsBlk 2 W4.heap.size N f V) w5) := ⟨nrow_below R5.out hb, nrow_below Q4.out hb, K5.out.below hb, B5.out.trans (hb.mono B5.out.size), hk⟩
  have hlast : DLasts (fun V => IsBlk 2 W4.heap.size N f V) := fun _ _ hb h => IsBlk.below h hb
  have KB : Hid (gl2 < W4.heap.size ∧ gf2 < W4.heap.size ∧ gw2 < W4.heap.size) := ⟨K5.out.l.lt, K5.out.f.lt, K5.out.w.lt⟩
  have L6 := Lib.hid (L5.out.below hb)
  have A6 := Lib.hid (nrow_below A5.out hb)
  have X56 : Hid (W4.heap.size < w5.heap.size) := hk.lt
  have HLAST := Lib.hid hlast
  clear hb hk R5 B5 K5 Q4 hlast L5
  obtain ⟨⟨r0, r1, r2, r3, r4, r5⟩, _⟩ := rowN6 S5.out.rx
  go_wp2_with fail
  refine (implCost_any n _ _ _ _ _ _ _ N N f _ S5.out.kx.at_ HS.out (S5.out.p).at_ HNS.out ⟨HG.out.1.below S5.out.old, tab_below HG.out.2 S5.out.old⟩).mono ?_
  rintro e w6 ⟨hD, hb⟩
  obtain ⟨_, b, c, rfl, hL⟩ := hD.tell
  rw [← HBK.out] at hL ⊢
  rw [← HBX.out, ← HBY.out, ← HBZ.out]
  have S := Lib.hid (S5.out.below HLAST.out hb)
  obtain ⟨W6, hW6⟩ : ∃ W6, W6 = w6.alloc (.cells #[.slice b K c, .int .i64 x, .int .i64 y, .int .i64 z'] 28) := ⟨_, rfl⟩
  have hb6 : Below w6.heap.size w6 W6 := by rw [hW6]; exact nbel_alloc _ _
  have A9 : W6.rowIs w6.heap.size 28 4 (rowN (doL b K c x y z')) := by rw [hW6]; exact rowN_alloc w6 _ _
  have S6 : Hid (DL6 w n la lk fa fk wa wk w4.heap.size W3.heap.size gl2 gf2 gw2 (DcP w w3.heap.size w5.heap.size K a0 c0 b c f f W4.heap.size N f w6.heap.size x y z') W6) := by
    have s2 := S.out.below HLAST.out hb6
    have h34 := X34.out
    have h45 := X45.out
    have h56 := X56.out
    exact ⟨s2.ra, s2.rx, s2.kx, s2.old, ⟨(L6.out.below hb).below hb6, ⟨LO.out, by omega, h56, hb.size, fun k e => (hL.lt e).2⟩, hL.below hb6, s2.p, nrow_below (nrow_below A6.out hb) hb6, A9⟩⟩
  have HW6 := Lib.hid hW6
  have X69 : Hid (w5.heap.size ≤ w6.heap.size) := hb.size
  clear hb S5 S r0 r1 r2 r3 r4 r5 L6 LO hD hL HLAST HW4 hW6 hb6 A9 A6 A5 HW3
  obtain ⟨⟨s0, s1, s2, s3⟩, _⟩ := rowN4 S6.out.p.r6
  obtain ⟨⟨t0, t1, t2, t3⟩, _⟩ := rowN4 S6.out.p.r9
  rw [HW6.out] at s0 s1 s2 s3 t0 t1 t2 t3
  go_wp2_with fail
  rw [← HW6.out]
  clear HW6 s0 s1 s2 s3 t0 t1 t2 t3
  generalize w6.heap.size = X9 at *
  generalize w5.heap.size = Y at *
  generalize W4.heap.size = X5 at *
  generalize w4.heap.size = X4 at *
  generalize W3.heap.size = XB at *
  generalize w3.heap.size = X at *
  refine (eqDayOut_same _ _ _ _ _ x y z' f _ S6.out.p.l1.at_ S6.out.p.l0.at_ HDL.out).mono ?_
  rintro e w6b ⟨rfl, hb⟩
  have S7 := Lib.hid (S6.out.below DcP.below hb)
  clear hb S6
  go_wp2_with fail
  refine wp_region_held_drew (S := DL6 w n la lk fa fk wa wk X4 XB gl2 gf2 gw2 (DcP w X Y K a0 c0 b c f f X5 N f X9 x y z')) (by kernel_rfl) (S7.out.below DcP.below (Below.refl _ _).drew) (fun hHeld => ?_)
  clear S7
  refine take_do (i := 0) (v := (dyV n (some ⟨gl2, 0, none⟩) n.mn (some ⟨gf2, 0, none⟩) n.wn (some ⟨gw2, 0, none⟩) n.pn)) rfl (by kernel_rfl) (by kernel_rfl) (by kernel_rfl) (fun _ _ _ h => h) (by rfl) ?_ (by assumption) ?_
  · intro w hSw
    obtain ⟨⟨a0, a1, a2, a3, a4, a5⟩, _⟩ := rowN6 hSw.rx
    go_simp
  simp only [Act.put, List.setIfInBounds_toArray, List.set_cons_zero, List.set_cons_succ]
  refine take_do (i := 1) (v := (dyV n la lk fa fk wa wk)) rfl (by kernel_rfl) (by kernel_rfl) (by kernel_rfl) (fun _ _ _ h => h) (by rfl) ?_ (by assumption) ?_
  · intro w hSw
    obtain ⟨⟨a0, a1, a2, a3, a4, a5⟩, _⟩ := rowN6 hSw.ra
    go_simp
  simp only [Act.put, List.setIfInBounds_toArray, List.set_cons_zero, List.set_cons_succ]
  refine take_call (i := 2) rfl (by kernel_rfl) (fun K2 hK => ?_)
  go_simp
  refine (toDay_any n la lk fa fk wa wk _ (H.out.below hHeld.old) HS.out).mono ?_
  rintro e w7 ⟨⟨gl3, gf3, gw3, rfl, hk6⟩, hb6⟩
  have HK6 := Lib.hid hk6
  go_wp2_with fail
  refine hK.out _ _ (hHeld.below DcP.below hb6) (fun hHeld2 => ?_)
  clear hK hHeld hb6 hk6
  refine take_call (i := 3) rfl (by kernel_rfl) (fun K2 hK => ?_)
  go_simp
  refine (eqDay_same n _ _ _ _ _ _ _ _ _ _ _ _ _ hHeld2.kx.at_ HK6.out.at_ HS.out).mono ?_
  rintro e w8 ⟨rfl, hb7⟩
  go_wp2_with fail
  refine hK.out _ _ (hHeld2.below DcP.below hb7) (fun hHeld => ?_)
  clear hK hHeld2 hb7
  refine take_do (i := 4) (v := (.bool false)) rfl (by kernel_rfl) (by kernel_rfl) (by kernel_rfl) (fun _ _ _ h => h) (by rfl) ?_ (by assumption) ?_
  · intro w hSw
    go_simp
  simp only [Act.put, List.setIfInBounds_toArray, List.set_cons_zero, List.set_cons_succ]
  refine wpAnyH_done (by kernel_rfl) ?_ _
  have S8 := Lib.hid hHeld
  clear hHeld
  go_wp2_with fail
  refine (ntoInt64S_any a N cap f _ (HK.out.below S8.out.old) HNS.out).mono ?_
  rintro e w9 ⟨⟨rfl, hk⟩, hb⟩
  have S9 := Lib.hid (S8.out.below DcP.below hb)
  have X9 := Lib.hid hk
  clear hb hk S8
  go_wp2_with fail
  refine (neqInt64S_same _ _ N N N f _ S9.out.p.x.at_ X9.out.at_ HNS.out).mono ?_
  rintro e w10 ⟨rfl, hb⟩
  have S10 := Lib.hid (S9.out.below DcP.below hb)
  clear hb S9 X9 HK6
  obtain ⟨⟨r0, r1, r2, r3, r4, r5⟩, _⟩ := rowN6 S10.out.rx
  go_wp2_with fail
  refine (markDay_any n XB gl2 gf2 gw2 n.mn n.wn n.pn _ S10.out.kx HS.out).mono ?_
  rintro e w11 ⟨⟨M, rfl, hM⟩, ho⟩
  clear r0 r1 r2 r3 r4 r5
  have x1 := X34.out
  have x2 := X45.out
  have x3 := KB.out
  have x4 := S10.out.kx.lo
  have x5 := X56.out
  have x6 := X33.out
  have P11 : Hid (DcP w X Y K a0 c0 b c f f X5 N f X9 x y z' w11) := by
    have p := S10.out.p
    have pl := p.lo
    exact p.keep (fun k _ h2 h3 => ho.block k h3 (by omega) (by omega) (by omega)) (by omega) (ho.block _ p.r9.lt (by omega) (by omega) (by omega)) (p.l1.same (fun k h1 h2 => ho.block k h2 (by omega) (by omega) (by omega))) (p.x.block (ho.block _ p.x.lt (by omega) (by omega) (by omega)))
  have R11 : Hid (w11.rowIs w.heap.size 25 6 (rowN (dyL n la lk fa fk wa wk))) := S10.out.ra.of_block (ho.block _ S10.out.ra.lt (by omega) (by omega) (by omega))
  have B11 : Hid (Below w.heap.size w w11) := S10.out.old.trans ⟨ho.os, ho.tape, ho.output, ho.size, fun k hk => ho.block k (by have := S10.out.old.size; omega) (by omega) (by omega) (by omega)⟩
  clear ho S10 x3 x4 KB
  go_wp2_with fail
  refine (nmarkInt64S_any X5 N N M f _ P11.out.x HNS.out hM).mono ?_
  rintro e w12 ⟨rfl, hxm, ho⟩
  have P12 : Hid (DcP w X Y K a0 c0 b c f f X5 N (mk1 M) X9 x y z' w12) := by
    have p := P11.out
    have pl := p.lo
    exact p.keep (fun k _ h2 h3 => ho.block k h3 (by omega)) (by omega) (ho.block _ p.r9.lt (by omega)) (p.l1.same (fun k h1 h2 => ho.block k h2 (by omega))) hxm
  have R12 : Hid (w12.rowIs w.heap.size 25 6 (rowN (dyL n la lk fa fk wa wk))) := R11.out.of_block (ho.block _ R11.out.lt (by omega))
  have B12 : Hid (Below w.heap.size w w12) := B11.out.trans ⟨ho.os, ho.tape, ho.output, ho.size, fun k hk => ho.block k (by have := B11.out.size; omega) (by omega)⟩
  clear ho P11 R11 B11 hxm
  obtain ⟨M2, hM2⟩ : ∃ M2 : Nat, M2 = M + N := ⟨_, rfl⟩
  rw [← hM2]
  have hM0 : ¬ (M2 : Int) < 0 := by omega
  obtain ⟨⟨s0, s1, s2, s3⟩, _⟩ := rowN4 P12.out.r6
  obtain ⟨⟨t0, t1, t2, t3⟩, _⟩ := rowN4 P12.out.r9
  go_wp2_with fail
  refine (eqDayOut_same _ _ _ _ _ x y z' f _ P12.out.l1.at_ P12.out.l0.at_ HDL.out).mono ?_
  rintro e w13 ⟨rfl, hb⟩
  have P13 := Lib.hid (DcP.below _ _ hb P12.out)
  have R13 := Lib.hid (nrow_below R12.out hb)
  have B13 : Hid (Below w.heap.size w w13) := B12.out.trans (hb.mono B12.out.size)
  clear hb P12 R12 B12 hM2 s0 s1 s2 s3 t0 t1 t2 t3
  obtain ⟨⟨t0, t1, t2, t3⟩, _⟩ := rowN4 P13.out.r9
  go_wp2_with fail
  refine (markDayOut_any x y z' _ P13.out.l1 HDL.out).mono ?_
  rintro e w14 ⟨rfl, hmk, hc, hc2⟩
  have hown : ∀ k, b = some ⟨k, 0, none⟩ → Y ≤ k := fun k e => (P13.out.l1.lt e).1
  have P14 : Hid (DcP w X Y K a0 c0 b c f (mk1 1) X5 N (mk1 M) X9 x y z' w14) := by
    have p := P13.out
    have pl := p.lo
    exact p.keep (fun k _ h2 h3 => hc k h3 (fun e => by have := hown k e; omega)) (by omega) (hc _ p.r9.lt (fun e => by have := pl.2.2.2.2 _ e; omega)) hmk (p.x.block (hc _ p.x.lt (fun e => by have := hown _ e; omega)))
  have R14 : Hid (w14.rowIs w.heap.size 25 6 (rowN (dyL n la lk fa fk wa wk))) := R13.out.of_block (hc _ R13.out.lt (fun e => by have := hown _ e; omega))
  have B14 : Hid (Below w.heap.size w w14) := B13.out.trans ⟨hc2.1, hc2.2.1, hc2.2.2.1, hc2.2.2.2, fun k hk => hc k (by have := B13.out.size; omega) (fun e => by have := hown k e; omega)⟩
  clear hmk hc hc2 hown P13 R13 B13 x1 x2 x5 x6 t0 t1 t2 t3
  obtain ⟨⟨t0, t1, t2, t3⟩, _⟩ := rowN4 P14.out.r9
  obtain ⟨Q, hQ⟩ : ∃ Q : Nat, Q = 1 + K := ⟨_, rfl⟩
  have HQ : Hid (1 + K = Q) := hQ.symm
  rw [← hQ]
  have hQ0 : ¬ (Q : Int) < 0 := by omega
  clear hQ
  go_wp2_with fail
  refine (heldDayOut_any x y z' _ P14.out.l1 HDL.out).mono ?_
  rintro e w15 ⟨rfl, hb⟩
  rw [HQ.out]
  replace R14 := Lib.hid (nrow_below R14.out hb)
  replace P14 := Lib.hid (DcP.below _ _ hb P14.out)
  replace B14 : Hid (Below w.heap.size w w15) := B14.out.trans (hb.mono B14.out.size)
  clear hb t0 t1 t2 t3
  obtain ⟨⟨r0, r1, r2, r3, r4, r5⟩, _⟩ := rowN6 R14.out
  go_wp2_with fail
  refine (toDay_any n la lk fa fk wa wk _ (H.out.below B14.out) HS.out).mono ?_
  rintro e w16 ⟨⟨gl4, gf4, gw4, rfl, hk⟩, hb⟩
  have P16 := Lib.hid (DcP.below _ _ hb P14.out)
  have B16 : Hid (Below w.heap.size w w16) := B14.out.trans (hb.mono B14.out.size)
  have K16 := Lib.hid hk
  clear hb hk P14 B14 R14 r0 r1 r2 r3 r4 r5
  go_wp2_with fail
  refine (ntoInt64S_any a N cap f _ (HK.out.below B16.out) HNS.out).mono ?_
  rintro e w17 ⟨⟨rfl, hk⟩, hb⟩
  have P17 := Lib.hid (DcP.below _ _ hb P16.out)
  have B17 : Hid (Below w.heap.size w w17) := B16.out.trans (hb.mono B16.out.size)
  have K17 := Lib.hid (K16.out.below hb)
  have X17 := Lib.hid hk
  clear hb hk P16 B16 K16
  go_wp2_with fail
  refine (implCost_any n _ _ _ _ _ _ _ N N f _ K17.out.at_ HS.out (X17.out).at_ HNS.out ⟨HG.out.1.below B17.out, tab_below HG.out.2 B17.out⟩).mono ?_
  rintro e w18 ⟨hD, hb⟩
  obtain ⟨_, b2, c2, rfl, hL⟩ := hD.tell
  rw [← HBK.out] at hL ⊢
  rw [← HBX.out, ← HBY.out, ← HBZ.out]
  obtain ⟨W18, hW18⟩ : ∃ W18, W18 = w18.alloc (.cells #[.slice b2 K c2, .int .i64 x, .int .i64 y, .int .i64 z'] 28) := ⟨_, rfl⟩
  have hb8 : Below w18.heap.size w18 W18 := by rw [hW18]; exact nbel_alloc _ _
  have P18 := Lib.hid (DcP.below _ _ hb8 (DcP.below _ _ hb P17.out))
  have B18 : Hid (Below w.heap.size w W18) := (B17.out.trans (hb.mono B17.out.size)).trans (hb8.mono (Nat.le_trans B17.out.size hb.size))
  have G18 := Lib.hid (hL.below hb8)
  have A18 : Hid (W18.rowIs w18.heap.size 28 4 (rowN (doL b2 K c2 x y z'))) := by rw [hW18]; exact rowN_alloc w18 _ _
  have HW18 := Lib.hid hW18
  clear hb hb8 hL hD P17 B17 K17 X17 hW18
  obtain ⟨⟨s0, s1, s2, s3⟩, _⟩ := rowN4 P18.out.r6
  obtain ⟨⟨u0, u1, u2, u3⟩, _⟩ := rowN4 A18.out
  rw [HW18.out] at s0 s1 s2 s3 u0 u1 u2 u3
  go_wp2_with fail
  rw [← HW18.out]
  clear HW18 s0 s1 s2 s3 u0 u1 u2 u3
  refine (eqDayOut_same _ _ _ _ _ x y z' f _ G18.out.at_ P18.out.l0.at_ HDL.out).mono ?_
  rintro e w19 ⟨rfl, hb⟩
  have P19 := Lib.hid (DcP.below _ _ hb P18.out)
  have B19 : Hid (Below w.heap.size w w19) := B18.out.trans (hb.mono B18.out.size)
  clear hb P18 B18 G18
  obtain ⟨⟨t0, t1, t2, t3⟩, _⟩ := rowN4 P19.out.r9
  go_wp2_with fail
  refine (heldDayOut_any x y z' _ P19.out.l1 HDL.out).mono ?_
  rintro e w20 ⟨rfl, hb⟩
  rw [HQ.out]
  replace B19 : Hid (Below w.heap.size w w20) := B19.out.trans (hb.mono B19.out.size)
  clear hb
  go_wp2_with fail
  go_ret
  exact ⟨rfl, B19.out⟩
end Go.Proofs.YtmfokilpfbcicaaDoor
