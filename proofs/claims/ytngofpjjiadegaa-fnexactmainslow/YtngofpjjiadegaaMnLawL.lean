/-
  The law FnExactMainsLow.
-/
import Derived.Test.YtngofpjjiadegaaMnEx4
import Derived.Test.YtngofpjjiadegaaMnLawR
import Derived.Test.YtngofpjjiadegaaMnV5
import Derived.Test.YtngofpjjiadegaaMnP3
namespace Go.Proofs.Ytngofpjjiadegaa
open Go.RowKit Go.Deep

/-- What stands in this law behind the program's call. -/
structure LF (w : World) (m : Mn.Mains) (pa : Option Addr) (pk : Nat) (la : Option Addr) (lk : Nat) (wa : Option Addr) (wk : Nat) (X4 X5 gp gl : Nat) (hh : Nat → Nat) (gw gH Y n : Nat) (F : Nat → Int) (a0 : Option Addr) (c0 : Nat) (b : Option Addr) (c : Nat) (xn : Nat) (xf : Nat → Int) (W : World) : Prop where
  ra : W.rowIs w.heap.size 26 5 (rowN (mnL m pa pk la lk wa wk))
  r5 : W.rowIs X5 31 5 (rowN (mnL m (some ⟨gp, 0, none⟩) m.pn (some ⟨gl, 0, none⟩) m.ln (some ⟨gw, 0, none⟩) m.wn))
  kx : MnBlk m X4 X5 gp gl hh gw W
  kf : IsBlk 2 gH xn xf W
  old : Below w.heap.size w W
  l0 : OwL 2 w.heap.size n a0 c0 F W
  l1 : OwL 2 Y n b c F W
structure LFn (w : World) (X4 X5 gH Y : Nat) (a0 b : Option Addr) : Prop where
  o1 : w.heap.size < X4 ∧ X4 ≤ X5 ∧ X5 < gH ∧ gH < Y
  oa : ∀ k, a0 = some ⟨k, 0, none⟩ → k < X4
  ob : ∀ k, b = some ⟨k, 0, none⟩ → Y ≤ k
theorem LF.below {w : World} {m : Mn.Mains} {pa : Option Addr} {pk : Nat} {la : Option Addr} {lk : Nat} {wa : Option Addr} {wk : Nat} {X4 X5 gp gl : Nat} {hh : Nat → Nat} {gw gH Y n : Nat} {F : Nat → Int} {a0 : Option Addr} {c0 : Nat} {b : Option Addr} {c : Nat} {xn : Nat} {xf : Nat → Int} {W W' : World} (h : LF w m pa pk la lk wa wk X4 X5 gp gl hh gw gH Y n F a0 c0 b c xn xf W) (hb : Below W.heap.size W W') : LF w m pa pk la lk wa wk X4 X5 gp gl hh gw gH Y n F a0 c0 b c xn xf W' :=
  ⟨nrow_below h.ra hb, nrow_below h.r5 hb, h.kx.below hb, h.kf.below hb, h.old.trans (hb.mono h.old.size), h.l0.below hb, h.l1.below hb⟩
/-- What is left of it where the program's own arguments were marked. -/
structure LG (w : World) (m : Mn.Mains) (pa : Option Addr) (pk : Nat) (la : Option Addr) (lk : Nat) (wa : Option Addr) (wk : Nat) (Y n : Nat) (F : Nat → Int) (a0 : Option Addr) (c0 : Nat) (b : Option Addr) (c : Nat) (f : Nat → Int) (W : World) : Prop where
  ra : W.rowIs w.heap.size 26 5 (rowN (mnL m pa pk la lk wa wk))
  old : Below w.heap.size w W
  l0 : OwL 2 w.heap.size n a0 c0 F W
  l1 : OwL 2 Y n b c f W
theorem LG.below {w : World} {m : Mn.Mains} {pa : Option Addr} {pk : Nat} {la : Option Addr} {lk : Nat} {wa : Option Addr} {wk : Nat} {Y n : Nat} {F : Nat → Int} {a0 : Option Addr} {c0 : Nat} {b : Option Addr} {c : Nat} {f : Nat → Int} {W W' : World} (h : LG w m pa pk la lk wa wk Y n F a0 c0 b c f W) (hb : Below W.heap.size W W') : LG w m pa pk la lk wa wk Y n F a0 c0 b c f W' :=
  ⟨nrow_below h.ra hb, h.old.trans (hb.mono h.old.size), h.l0.below hb, h.l1.below hb⟩
set_option maxRecDepth 100000 in
set_option maxHeartbeats 16000000 in
theorem mainsLow_law (w : World) (m : Mn.Mains) (pa : Option Addr) (pk : Nat) (la : Option Addr) (lk : Nat) (wa : Option Addr) (wk : Nat) (h : MnIn m pa la wa w) (hl : MnLens m) (xa : Option Addr) (xn xk : Nat) (xf : Nat → Int) (hx : IsIn xa xn xf w) (hxu : xn ≤ 9223372036854775807) (xz : Int) :
    Calls Try.prog 4 #[mnV m pa pk la lk wa wk, .slice xa xn xk, .int .i64 xz] w fun e w' => e = .returned (.bool true) ∧ Below w.heap.size w w' := by
  have H := Lib.hid h
  have HX := Lib.hid hx
  obtain ⟨W, hW⟩ : ∃ W, W = w.alloc (.cells #[.int .i64 m.nodes, .int .i64 m.head, .slice pa m.pn pk, .slice la m.ln lk, .slice wa m.wn wk] 26) := ⟨_, rfl⟩
  have R0 : Hid (W.rowIs w.heap.size 26 5 (rowN (mnL m pa pk la lk wa wk))) := by rw [hW]; exact rowN_alloc w _ _
  have B0 : Hid (Below w.heap.size w W) := by rw [hW]; exact nbel_alloc _ _
  have HW := Lib.hid hW
  clear h hW hx
  go_enter Try.func4, Try.ntmps4
  by_cases hxs : xn ≤ 1048576
  case neg =>
    have hxz : (1048576 : Int) < (xn : Int) := by omega
    go_wp2_with fail
    go_ret
    exact ⟨rfl, by first | exact B0.out | (rw [← HW.out]; exact B0.out)⟩
  case pos =>
  have hxz : ¬ (1048576 : Int) < (xn : Int) := by omega
  go_wp2_with fail
  try rw [← HW.out]
  refine (szMains_any m pa pk la lk wa wk _ (H.out.below B0.out) hl).mono ?_
  rintro e w1 ⟨⟨z, rfl, hz⟩, hb⟩
  have R1 := Lib.hid (nrow_below R0.out hb)
  have B1 : Hid (Below w.heap.size w w1) := B0.out.trans (hb.mono B0.out.size)
  clear hb R0 B0
  rcases hz with hz | ⟨hz, hs⟩
  · go_wp2_with fail
    go_ret
    exact ⟨rfl, B1.out⟩
  have HS := Lib.hid hs
  have hz0 : ¬ z < 0 := by omega
  clear hs hz
  obtain ⟨l, hl0⟩ := Mn.low_total m xn xf xz
  have HLO := Lib.hid hl0
  have hn12 : l.length ≤ 12 := hl0.len
  have hdn : l.length ≤ 1048576 := by omega
  clear hl0
  obtain ⟨⟨r0, r1, r2, r3, r4⟩, _⟩ := rowN5 R1.out
  go_wp2_with fail
  refine (toMains_any m pa pk la lk wa wk _ (H.out.below B1.out) HS.out).mono ?_
  rintro e w3 ⟨⟨gp, gl, hh, gw, rfl, hk3⟩, hb⟩
  have R3 := Lib.hid (nrow_below R1.out hb)
  have B3 : Hid (Below w.heap.size w w3) := B1.out.trans (hb.mono B1.out.size)
  have K3 := Lib.hid hk3
  clear hb hk3 R1 B1 r0 r1 r2 r3 r4
  go_wp2_with fail
  refine (ntoInt64S_any xa xn xk xf _ (HX.out.below B3.out) hxs).mono ?_
  rintro e w4 ⟨⟨rfl, hk4⟩, hb⟩
  have R4 := Lib.hid (nrow_below R3.out hb)
  have B4 : Hid (Below w.heap.size w w4) := B3.out.trans (hb.mono B3.out.size)
  have K4 := Lib.hid (K3.out.below hb)
  have F4 := Lib.hid hk4
  clear hb hk4 R3 B3 K3
  go_wp2_with fail
  refine (slow_any m _ _ _ _ _ _ _ xn _ xf xz _ K4.out.at_ (fun i hi => F4.out.cell hi) HS.out hxs).mono ?_
  rintro e w5 ⟨⟨l', a0, c0, hl', rfl, hL⟩, hb⟩
  obtain rfl : l' = l := hl'.one HLO.out
  have R5 := Lib.hid (nrow_below R4.out hb)
  have B5 : Hid (Below w.heap.size w w5) := B4.out.trans (hb.mono B4.out.size)
  have L5 : Hid (OwL 2 w.heap.size l'.length a0 c0 (natI l') w5) := hL.low B4.out.size
  have OA : Hid (∀ k, a0 = some ⟨k, 0, none⟩ → k < w5.heap.size) := fun k e => (hL.lt e).2
  have O5 : Hid (w.heap.size < w5.heap.size) := R5.out.lt
  clear hb hL hl' R4 B4 K4 F4
  obtain ⟨⟨r0, r1, r2, r3, r4⟩, _⟩ := rowN5 R5.out
  go_wp2_with fail
  clear r0 r1 r2 r3 r4
  refine (toMains_any m pa pk la lk wa wk _ (H.out.below B5.out) HS.out).mono ?_
  rintro e w7 ⟨⟨gp, gl, hh, gw, rfl, hk7⟩, hb⟩
  obtain ⟨W7, hW7⟩ : ∃ W7, W7 = w7.alloc (.cells #[.int .i64 m.nodes, .int .i64 m.head, .slice (some ⟨gp, 0, none⟩) m.pn m.pn, .slice (some ⟨gl, 0, none⟩) m.ln m.ln, .slice (some ⟨gw, 0, none⟩) m.wn m.wn] 31) := ⟨_, rfl⟩
  have q7 := hb.trans ((nbel_alloc w7 (.cells #[.int .i64 m.nodes, .int .i64 m.head, .slice (some ⟨gp, 0, none⟩) m.pn m.pn, .slice (some ⟨gl, 0, none⟩) m.ln m.ln, .slice (some ⟨gw, 0, none⟩) m.wn m.wn] 31)).mono hb.size)
  rw [← hW7] at q7
  have R7 := Lib.hid (nrow_below R5.out q7)
  have B7 : Hid (Below w.heap.size w W7) := B5.out.trans (q7.mono B5.out.size)
  have L7 := Lib.hid (L5.out.below q7)
  have Q7 : Hid (W7.rowIs w7.heap.size 31 5 (rowN (mnL m (some ⟨gp, 0, none⟩) m.pn (some ⟨gl, 0, none⟩) m.ln (some ⟨gw, 0, none⟩) m.wn))) := by show World.rowIs _ _ _ _ _; rw [hW7]; exact rowN_alloc w7 _ _
  have K7 : Hid (MnBlk m w5.heap.size w7.heap.size gp gl hh gw W7) := by
    show MnBlk _ _ _ _ _ _ _ _
    rw [hW7]; exact hk7.below (nbel_alloc _ _)
  have OL : Hid (w5.heap.size ≤ w7.heap.size) := hb.size
  have O7 : Hid (W7.heap.size = w7.heap.size + 1) := by show _ = _; rw [hW7]; simp
  have HW7 := Lib.hid hW7
  clear hW7 hb hk7 q7 R5 B5 L5
  go_wp2_with fail
  rw [← HW7.out]
  generalize w7.heap.size = X5 at *
  generalize w5.heap.size = X4 at *
  refine (ntoInt64S_any xa xn xk xf _ (HX.out.below B7.out) hxs).mono ?_
  rintro e w8 ⟨⟨rfl, hk8⟩, hb⟩
  have R8 := Lib.hid (nrow_below R7.out hb)
  have B8 : Hid (Below w.heap.size w w8) := B7.out.trans (hb.mono B7.out.size)
  have L8 := Lib.hid (L7.out.below hb)
  have Q8 := Lib.hid (nrow_below Q7.out hb)
  have K8 := Lib.hid (K7.out.below hb)
  have F8 := Lib.hid hk8
  obtain ⟨gH, hgH⟩ : ∃ gH, gH = W7.heap.size := ⟨_, rfl⟩
  have OH : Hid (X5 < gH ∧ gH < w8.heap.size) := by
    have h1 := O7.out
    have h2 := hk8.lt
    exact ⟨by omega, by omega⟩
  rw [← hgH] at F8 ⊢
  clear hgH hb hk8 R7 B7 L7 Q7 K7
  obtain ⟨⟨r0, r1, r2, r3, r4⟩, _⟩ := rowN5 Q8.out
  go_wp2_with fail
  refine (ilow_any m _ _ _ _ _ _ gH xn _ xf xz _ K8.out.at_ (fun i hi => F8.out.cell hi) hxs).mono ?_
  rintro e w9 ⟨⟨l2, b, c, hl2, rfl, hL⟩, hb⟩
  obtain rfl : l2 = l' := hl2.one HLO.out
  have S9 : Hid (LF w m pa pk la lk wa wk X4 X5 gp gl hh gw gH w8.heap.size l2.length (natI l2) a0 c0 b c xn xf w9) := ⟨nrow_below R8.out hb, nrow_below Q8.out hb, K8.out.below hb, F8.out.below hb, B8.out.trans (hb.mono B8.out.size), L8.out.below hb, hL⟩
  have NN : Hid (LFn w X4 X5 gH w8.heap.size a0 b) := ⟨⟨O5.out, OL.out, OH.out.1, OH.out.2⟩, OA.out, fun k e => (hL.lt e).1⟩
  clear hb hL hl2 R8 B8 L8 Q8 K8 F8 r0 r1 r2 r3 r4 O5 OA OL O7 OH
  generalize w8.heap.size = Y at *
  obtain ⟨n, hn⟩ : ∃ n, n = l2.length := ⟨_, rfl⟩
  obtain ⟨F, hF⟩ : ∃ F, F = natI l2 := ⟨_, rfl⟩
  have HNF : Hid (n = l2.length ∧ F = natI l2) := ⟨hn, hF⟩
  rw [← hn, ← hF] at S9
  rw [← hn] at hdn hn12 ⊢
  clear hn hF
  go_wp2_with fail
  refine (neqInt64S_same _ _ _ _ _ F _ S9.out.l1.at_ S9.out.l0.at_ hdn).mono ?_
  rintro e w10 ⟨rfl, hb⟩
  have S10 := Lib.hid (S9.out.below hb)
  clear hb S9
  go_wp2_with fail
  refine wp_region_held_drew (S := LF w m pa pk la lk wa wk X4 X5 gp gl hh gw gH Y n F a0 c0 b c xn xf) (by kernel_rfl) (S10.out.below (Below.refl _ _).drew) (fun hHeld => ?_)
  clear S10
  refine take_do (i := 0) (v := (mnV m (some ⟨gp, 0, none⟩) m.pn (some ⟨gl, 0, none⟩) m.ln (some ⟨gw, 0, none⟩) m.wn)) rfl (by kernel_rfl) (by kernel_rfl) (by kernel_rfl) (fun _ _ _ h => h) (by rfl) ?_ (by assumption) ?_
  · intro w hSw
    obtain ⟨⟨a0, a1, a2, a3, a4⟩, _⟩ := rowN5 hSw.r5
    go_simp
  simp only [Act.put, List.setIfInBounds_toArray, List.set_cons_zero, List.set_cons_succ]
  refine take_do (i := 1) (v := (mnV m pa pk la lk wa wk)) rfl (by kernel_rfl) (by kernel_rfl) (by kernel_rfl) (fun _ _ _ h => h) (by rfl) ?_ (by assumption) ?_
  · intro w hSw
    obtain ⟨⟨a0, a1, a2, a3, a4⟩, _⟩ := rowN5 hSw.ra
    go_simp
  simp only [Act.put, List.setIfInBounds_toArray, List.set_cons_zero, List.set_cons_succ]
  refine take_call (i := 2) rfl (by kernel_rfl) (fun K2 hK => ?_)
  go_simp
  refine (toMains_any m pa pk la lk wa wk _ (H.out.below hHeld.old) HS.out).mono ?_
  rintro e v6 ⟨⟨gp3, gl3, hh3, gw3, rfl, hk6⟩, hb6⟩
  have HK6 := Lib.hid hk6
  go_wp2_with fail
  refine hK.out _ _ (hHeld.below hb6) (fun hHeld2 => ?_)
  clear hK hHeld hb6 hk6
  refine take_call (i := 3) rfl (by kernel_rfl) (fun K2 hK => ?_)
  go_simp
  refine (eqMains_same m _ _ _ _ _ _ _ _ _ _ _ _ _ hHeld2.kx.at_ HK6.out.at_ HS.out).mono ?_
  rintro e v7 ⟨rfl, hb7⟩
  go_wp2_with fail
  refine hK.out _ _ (hHeld2.below hb7) (fun hHeld => ?_)
  clear hK hHeld2 hb7
  refine take_do (i := 4) (v := (.bool false)) rfl (by kernel_rfl) (by kernel_rfl) (by kernel_rfl) (fun _ _ _ h => h) (by rfl) ?_ (by assumption) ?_
  · intro w hSw
    go_simp
  simp only [Act.put, List.setIfInBounds_toArray, List.set_cons_zero, List.set_cons_succ]
  refine wpAnyH_done (by kernel_rfl) ?_ _
  have S11 := Lib.hid hHeld
  clear hHeld HK6
  go_wp2_with fail
  refine (ntoInt64S_any xa xn xk xf _ (HX.out.below S11.out.old) hxs).mono ?_
  rintro e w12 ⟨⟨rfl, hk12⟩, hb⟩
  have S12 := Lib.hid (S11.out.below hb)
  have F12 := Lib.hid hk12
  clear hb hk12 S11
  go_wp2_with fail
  refine (neqInt64S_same _ _ _ _ _ xf _ S12.out.kf.at_ F12.out.at_ hxs).mono ?_
  rintro e w13 ⟨rfl, hb⟩
  have S13 := Lib.hid (S12.out.below hb)
  clear hb S12 F12
  obtain ⟨⟨r0, r1, r2, r3, r4⟩, _⟩ := rowN5 S13.out.r5
  go_wp2_with fail
  refine (markMains_any m X4 X5 gp gl hh gw m.pn m.ln m.wn _ S13.out.kx HS.out).mono ?_
  rintro e w14 ⟨⟨Mk, rfl, hMk⟩, ho⟩
  clear r0 r1 r2 r3 r4
  have nn := NN.out
  have G14 : Hid (LG w m pa pk la lk wa wk Y n F a0 c0 b c F w14 ∧ IsBlk 2 gH xn xf w14) := by
    have s := S13.out
    obtain ⟨n1, na, nb⟩ := nn
    have bl : ∀ k, k < X4 ∨ X5 ≤ k → k < w13.heap.size → w14.heap[k]? = w13.heap[k]? := fun k h1 h2 => ho.block k h2 h1
    exact ⟨⟨s.ra.of_block (bl _ (by omega) s.ra.lt), s.old.trans ((ho.below (by have := s.r5.lt; omega)).mono (by omega)), s.l0.keep (fun k e hk => bl k (by have := na k e; omega) hk), s.l1.keep (fun k e hk => bl k (by have := nb k e; omega) hk)⟩, s.kf.block (bl _ (by omega) s.kf.lt)⟩
  clear ho S13
  go_wp2_with fail
  refine (nmarkInt64S_any gH xn xn Mk xf _ G14.out.2 hxs (by omega)).mono ?_
  rintro e w15 ⟨rfl, _, ho⟩
  have G15 : Hid (LG w m pa pk la lk wa wk Y n F a0 c0 b c F w15) := by
    have s := G14.out.1
    obtain ⟨n1, na, nb⟩ := nn
    exact ⟨s.ra.of_block (ho.block _ s.ra.lt (by omega)), s.old.trans (ho.below (by omega) s.old.size), s.l0.keep (fun k e hk => ho.block k hk (by have := na k e; omega)), s.l1.keep (fun k e hk => ho.block k hk (by have := nb k e; omega))⟩
  clear ho G14
  obtain ⟨Mq, hMq⟩ : ∃ Mq : Nat, Mq = Mk + xn := ⟨_, rfl⟩
  rw [← hMq]
  have hMz : ¬ (Mq : Int) < 0 := by omega
  clear hMq
  go_wp2_with fail
  refine (neqInt64S_same _ _ _ _ _ F _ G15.out.l1.at_ G15.out.l0.at_ hdn).mono ?_
  rintro e w16 ⟨rfl, hb⟩
  have G16 := Lib.hid (G15.out.below hb)
  clear hb G15
  go_wp2_with fail
  refine (markOw_any Y n c 1 b F _ G16.out.l1 hdn (by omega)).mono ?_
  rintro e w17 ⟨rfl, hmk, ho⟩
  have G17 : Hid (LG w m pa pk la lk wa wk Y n F a0 c0 b c (mk1 1) w17) := by
    have s := G16.out
    obtain ⟨n1, na, nb⟩ := nn
    refine ⟨s.ra.of_block (ho.block _ s.ra.lt (fun e => by have := nb _ e; omega)), s.old.trans ⟨ho.os, ho.tape, ho.output, ho.size, fun k hk => ho.block k (Nat.lt_of_lt_of_le hk s.old.size) (fun e => by have := nb _ e; omega)⟩, s.l0.keep (fun k e hk => ho.block k hk (fun e2 => by have := nb _ e2; have := na _ e; omega)), hmk⟩
  clear hmk ho G16
  obtain ⟨Q, hQ⟩ : ∃ Q : Nat, Q = 1 + n := ⟨_, rfl⟩
  have HQ : Hid (1 + n = Q) := hQ.symm
  rw [← hQ]
  have hQ0 : ¬ (Q : Int) < 0 := by omega
  clear hQ
  go_wp2_with fail
  refine (heldOw_any Y n c 1 b _ G17.out.l1 hdn (by omega)).mono ?_
  rintro e w18 ⟨rfl, e18⟩
  subst w18
  rw [HQ.out]
  obtain ⟨⟨r0, r1, r2, r3, r4⟩, _⟩ := rowN5 G17.out.ra
  go_wp2_with fail
  refine (toMains_any m pa pk la lk wa wk _ (H.out.below G17.out.old) HS.out).mono ?_
  rintro e w20 ⟨⟨gp4, gl4, hh4, gw4, rfl, hk20⟩, hb⟩
  have G20 := Lib.hid (G17.out.below hb)
  have K20 := Lib.hid hk20
  clear hb hk20 G17 r0 r1 r2 r3 r4
  go_wp2_with fail
  refine (ntoInt64S_any xa xn xk xf _ (HX.out.below G20.out.old) hxs).mono ?_
  rintro e w21 ⟨⟨rfl, hk21⟩, hb⟩
  have G21 := Lib.hid (G20.out.below hb)
  have K21 := Lib.hid (K20.out.below hb)
  have F21 := Lib.hid hk21
  clear hb hk21 G20 K20
  go_wp2_with fail
  refine (ilow_any m _ _ _ _ _ _ _ xn _ xf xz _ K21.out.at_ (fun i hi => F21.out.cell hi) hxs).mono ?_
  rintro e w22 ⟨⟨l3, b2, c2, hl3, rfl, hL⟩, hb⟩
  obtain rfl : l3 = l2 := hl3.one HLO.out
  rw [← HNF.out.1, ← HNF.out.2] at hL
  rw [← HNF.out.1]
  have G22 := Lib.hid (G21.out.below hb)
  have L22 := Lib.hid hL
  clear hb hL hl3 G21 K21 F21
  go_wp2_with fail
  refine (neqInt64S_same _ _ _ _ _ F _ L22.out.at_ G22.out.l0.at_ hdn).mono ?_
  rintro e w23 ⟨rfl, hb⟩
  have G23 := Lib.hid (G22.out.below hb)
  clear hb G22 L22
  go_wp2_with fail
  refine (heldOw_any Y n c 1 b _ G23.out.l1 hdn (by omega)).mono ?_
  rintro e w24 ⟨rfl, e24⟩
  subst w24
  rw [HQ.out]
  go_wp2_with fail
  go_ret
  exact ⟨rfl, G23.out.old⟩
end Go.Proofs.Ytngofpjjiadegaa
