/-
  The law FnExactMainsSolve.
-/
import Derived.Test.YtfgmalnkpgloiaaGreatDoorMnEx4
import Derived.Test.YtfgmalnkpgloiaaGreatDoorMnLawR
import Derived.Test.YtfgmalnkpgloiaaGreatDoorMnSz
namespace Go.Proofs.YtfgmalnkpgloiaaGreatDoor
open Go.RowKit Go.Deep

/-- What stands in this law behind the program's call. -/
structure MF (w : World) (m : Mn.Mains) (pa : Option Addr) (pk : Nat) (la : Option Addr) (lk : Nat) (wa : Option Addr) (wk : Nat) (X4 X5 X6 gp gl : Nat) (hh : Nat → Nat) (gw Y : Nat) (d : MoD) (a0 : Option Addr) (c0 : Nat) (p0 : Option Addr) (q0 : Nat) (b : Option Addr) (c : Nat) (p : Option Addr) (q : Nat) (f g : Nat → Int) (W : World) : Prop where
  ra : W.rowIs w.heap.size 45 5 (rowN (mnL m pa pk la lk wa wk))
  r4 : W.rowIs X4 31 6 (rowN (moL a0 d.fn c0 p0 d.hn q0 d.rest d.rounds d.at_ d.code))
  r5 : W.rowIs X5 27 5 (rowN (mnL m (some ⟨gp, 0, none⟩) m.pn (some ⟨gl, 0, none⟩) m.ln (some ⟨gw, 0, none⟩) m.wn))
  r6 : W.rowIs X6 31 6 (rowN (moL b d.fn c p d.hn q d.rest d.rounds d.at_ d.code))
  kx : MnBlk m (X4 + 1) X5 gp gl hh gw W
  old : Below w.heap.size w W
  l0 : Ow2 w.heap.size d.fn c0 d.hn q0 a0 p0 d.F d.Hd W
  l1 : Ow2 Y d.fn c d.hn q b p f g W
structure MFn (w : World) (X4 X5 X6 Y : Nat) (a0 p0 b p : Option Addr) : Prop where
  o1 : w.heap.size < X4 ∧ X4 < X5 ∧ X5 < Y ∧ Y ≤ X6
  oa : ∀ k, a0 = some ⟨k, 0, none⟩ ∨ p0 = some ⟨k, 0, none⟩ → k < X4
  ob : ∀ k, b = some ⟨k, 0, none⟩ ∨ p = some ⟨k, 0, none⟩ → Y ≤ k ∧ k < X6
theorem MF.below {w : World} {m : Mn.Mains} {pa : Option Addr} {pk : Nat} {la : Option Addr} {lk : Nat} {wa : Option Addr} {wk X4 X5 X6 gp gl : Nat} {hh : Nat → Nat} {gw Y : Nat} {d : MoD} {a0 : Option Addr} {c0 : Nat} {p0 : Option Addr} {q0 : Nat} {b : Option Addr} {c : Nat} {p : Option Addr} {q : Nat} {f g : Nat → Int} {W W' : World} (h : MF w m pa pk la lk wa wk X4 X5 X6 gp gl hh gw Y d a0 c0 p0 q0 b c p q f g W) (hb : Below W.heap.size W W') : MF w m pa pk la lk wa wk X4 X5 X6 gp gl hh gw Y d a0 c0 p0 q0 b c p q f g W' :=
  ⟨nrow_below h.ra hb, nrow_below h.r4 hb, nrow_below h.r5 hb, nrow_below h.r6 hb, h.kx.below hb, h.old.trans (hb.mono h.old.size), h.l0.below hb, h.l1.below hb⟩
/-- What is left of it where the program's own arguments were marked. -/
structure MG (w : World) (m : Mn.Mains) (pa : Option Addr) (pk : Nat) (la : Option Addr) (lk : Nat) (wa : Option Addr) (wk : Nat) (X4 X6 Y : Nat) (d : MoD) (a0 : Option Addr) (c0 : Nat) (p0 : Option Addr) (q0 : Nat) (b : Option Addr) (c : Nat) (p : Option Addr) (q : Nat) (f g : Nat → Int) (W : World) : Prop where
  ra : W.rowIs w.heap.size 45 5 (rowN (mnL m pa pk la lk wa wk))
  r4 : W.rowIs X4 31 6 (rowN (moL a0 d.fn c0 p0 d.hn q0 d.rest d.rounds d.at_ d.code))
  r6 : W.rowIs X6 31 6 (rowN (moL b d.fn c p d.hn q d.rest d.rounds d.at_ d.code))
  old : Below w.heap.size w W
  l0 : Ow2 w.heap.size d.fn c0 d.hn q0 a0 p0 d.F d.Hd W
  l1 : Ow2 Y d.fn c d.hn q b p f g W
theorem MG.below {w : World} {m : Mn.Mains} {pa : Option Addr} {pk : Nat} {la : Option Addr} {lk : Nat} {wa : Option Addr} {wk X4 X6 Y : Nat} {d : MoD} {a0 : Option Addr} {c0 : Nat} {p0 : Option Addr} {q0 : Nat} {b : Option Addr} {c : Nat} {p : Option Addr} {q : Nat} {f g : Nat → Int} {W W' : World} (h : MG w m pa pk la lk wa wk X4 X6 Y d a0 c0 p0 q0 b c p q f g W) (hb : Below W.heap.size W W') : MG w m pa pk la lk wa wk X4 X6 Y d a0 c0 p0 q0 b c p q f g W' :=
  ⟨nrow_below h.ra hb, nrow_below h.r4 hb, nrow_below h.r6 hb, h.old.trans (hb.mono h.old.size), h.l0.below hb, h.l1.below hb⟩
theorem ow_keep {B N c M e : Nat} {a p : Option Addr} {f g : Nat → Int} {W W' : World} (h : Ow2 B N c M e a p f g W) (hb : ∀ k, a = some ⟨k, 0, none⟩ ∨ p = some ⟨k, 0, none⟩ → k < W.heap.size → W'.heap[k]? = W.heap[k]?) : Ow2 B N c M e a p f g W' := ⟨h.f.keep (fun k e hk => hb k (Or.inl e) hk), h.g.keep (fun k e hk => hb k (Or.inr e) hk), h.ne⟩
set_option maxRecDepth 100000 in
set_option maxHeartbeats 16000000 in
theorem mainsSolve_law (w : World) (m : Mn.Mains) (pa : Option Addr) (pk : Nat) (la : Option Addr) (lk : Nat) (wa : Option Addr) (wk : Nat) (h : MnIn m pa la wa w) (hl : MnLens m) (xz : Int) (hg : Et w) :
    Calls Tryz.prog 6 #[mnV m pa pk la lk wa wk, .int .i64 xz] w fun e w' => e = .returned (.bool true) ∧ Below w.heap.size w w' := by
  have H := Lib.hid h
  have HG := Lib.hid hg
  obtain ⟨W, hW⟩ : ∃ W, W = w.alloc (.cells #[.int .i64 m.nodes, .int .i64 m.head, .slice pa m.pn pk, .slice la m.ln lk, .slice wa m.wn wk] 45) := ⟨_, rfl⟩
  have R0 : Hid (W.rowIs w.heap.size 45 5 (rowN (mnL m pa pk la lk wa wk))) := by rw [hW]; exact rowN_alloc w _ _
  have B0 : Hid (Below w.heap.size w W) := by rw [hW]; exact nbel_alloc _ _
  have HW := Lib.hid hW
  clear h hg hW
  go_enter Tryz.func6, Tryz.ntmps6
  go_wp2_with fail
  try rw [← HW.out]
  refine (szMains_any m pa pk la lk wa wk _ (H.out.below B0.out) hl).mono ?_
  rintro e w1 ⟨⟨z, rfl, hz⟩, hb⟩
  have R1 := Lib.hid (nrow_below R0.out hb)
  have B1 : Hid (Below w.heap.size w w1) := B0.out.trans (hb.mono B0.out.size)
  clear hb R0 B0
  rcases hz with hz | ⟨hz, hs⟩
  · go_wp2_with fail
    go_ret
    exact ⟨rfl, B1.out⟩
  have HS := Lib.hid hs
  have hz0 : ¬ z < 0 := by omega
  clear hs hz
  obtain ⟨d, hdn, hdm, hSP, hIM⟩ := mainsSolve_both m HS.out xz
  have HSP := Lib.hid hSP
  have HIM := Lib.hid hIM
  clear hSP hIM
  obtain ⟨⟨r0, r1, r2, r3, r4⟩, _⟩ := rowN5 R1.out
  go_wp2_with fail
  refine (toMains_any m pa pk la lk wa wk _ (H.out.below B1.out) HS.out).mono ?_
  rintro e w3 ⟨⟨gp, gl, hh, gw, rfl, hk3⟩, hb⟩
  have R3 := Lib.hid (nrow_below R1.out hb)
  have B3 : Hid (Below w.heap.size w w3) := B1.out.trans (hb.mono B1.out.size)
  have K3 := Lib.hid hk3
  clear hb hk3 R1 B1 r0 r1 r2 r3 r4
  go_wp2_with fail
  refine (HSP.out _ _ _ _ _ _ _ K3.out.at_ (HG.out.below B3.out)).mono ?_
  rintro e w5 ⟨⟨a0, c0, p0, q0, rfl, hL⟩, hb⟩
  obtain ⟨W6, hW6⟩ : ∃ W6, W6 = w5.alloc (.cells (moA a0 d.fn c0 p0 d.hn q0 d.rest d.rounds d.at_ d.code) 31) := ⟨_, rfl⟩
  have q6 := hb.trans ((nbel_alloc w5 (.cells (moA a0 d.fn c0 p0 d.hn q0 d.rest d.rounds d.at_ d.code) 31)).mono hb.size)
  rw [← hW6] at q6
  have R6 := Lib.hid (nrow_below R3.out q6)
  have B6 : Hid (Below w.heap.size w W6) := B3.out.trans (q6.mono B3.out.size)
  have P6 : Hid (W6.rowIs w5.heap.size 31 6 (rowN (moL a0 d.fn c0 p0 d.hn q0 d.rest d.rounds d.at_ d.code))) := by show World.rowIs _ _ _ _ _; rw [hW6]; exact rowN_alloc w5 _ _
  have L6 : Hid (Ow2 w.heap.size d.fn c0 d.hn q0 a0 p0 d.F d.Hd W6) := by
    show Ow2 _ _ _ _ _ _ _ _ _ _
    rw [hW6]; exact Ow2.below ⟨hL.f.low B3.out.size, hL.g.low B3.out.size, hL.ne⟩ (nbel_alloc _ _)
  have OA : Hid (∀ k, a0 = some ⟨k, 0, none⟩ ∨ p0 = some ⟨k, 0, none⟩ → k < w5.heap.size) := fun k e => e.elim (fun e => (hL.f.lt e).2) (fun e => (hL.g.lt e).2)
  have O6 : Hid (w.heap.size < w5.heap.size ∧ W6.heap.size = w5.heap.size + 1) := by
    have h1 := R3.out.lt
    have h2 := hb.size
    exact ⟨by omega, by rw [hW6]; simp⟩
  have HW6 := Lib.hid hW6
  obtain ⟨⟨r0, r1, r2, r3, r4⟩, _⟩ := rowN5 (nrow_below R3.out hb)
  have lw5 : w.heap.size < w5.heap.size := (nrow_below R3.out hb).lt
  clear hW6 hb hL q6 R3 B3 K3
  go_wp2_with fail
  rw [← HW6.out]
  clear lw5 r0 r1 r2 r3 r4
  generalize w5.heap.size = X4 at *
  refine (toMains_any m pa pk la lk wa wk _ (H.out.below B6.out) HS.out).mono ?_
  rintro e w7 ⟨⟨gp, gl, hh, gw, rfl, hk7⟩, hb⟩
  obtain ⟨W7, hW7⟩ : ∃ W7, W7 = w7.alloc (.cells #[.int .i64 m.nodes, .int .i64 m.head, .slice (some ⟨gp, 0, none⟩) m.pn m.pn, .slice (some ⟨gl, 0, none⟩) m.ln m.ln, .slice (some ⟨gw, 0, none⟩) m.wn m.wn] 27) := ⟨_, rfl⟩
  have q7 := hb.trans ((nbel_alloc w7 (.cells #[.int .i64 m.nodes, .int .i64 m.head, .slice (some ⟨gp, 0, none⟩) m.pn m.pn, .slice (some ⟨gl, 0, none⟩) m.ln m.ln, .slice (some ⟨gw, 0, none⟩) m.wn m.wn] 27)).mono hb.size)
  rw [← hW7] at q7
  have R7 := Lib.hid (nrow_below R6.out q7)
  have B7 : Hid (Below w.heap.size w W7) := B6.out.trans (q7.mono B6.out.size)
  have P7 := Lib.hid (nrow_below P6.out q7)
  have L7 := Lib.hid (L6.out.below q7)
  have Q7 : Hid (W7.rowIs w7.heap.size 27 5 (rowN (mnL m (some ⟨gp, 0, none⟩) m.pn (some ⟨gl, 0, none⟩) m.ln (some ⟨gw, 0, none⟩) m.wn))) := by show World.rowIs _ _ _ _ _; rw [hW7]; exact rowN_alloc w7 _ _
  have K7 : Hid (MnBlk m (X4 + 1) w7.heap.size gp gl hh gw W7) := by
    have := O6.out.2
    rw [this] at hk7
    show MnBlk _ _ _ _ _ _ _ _
    rw [hW7]; exact hk7.below (nbel_alloc _ _)
  have OL : Hid (X4 < w7.heap.size) := by
    have h2 := O6.out.2
    have h3 := hb.size
    show _ < _
    omega
  have O7 : Hid (W7.heap.size = w7.heap.size + 1) := by show _ = _; rw [hW7]; simp
  have HW7 := Lib.hid hW7
  clear hW7 hb hk7 q7 R6 B6 P6 L6
  have R8 := R7
  have B8 := B7
  have P8 := P7
  have L8 := L7
  have Q8 := Q7
  have K8 := K7
  obtain ⟨w8, hw8⟩ : ∃ w8, w8 = W7 := ⟨_, rfl⟩
  rw [← hw8] at R8 B8 P8 L8 Q8 K8
  obtain ⟨X5, hX5⟩ : ∃ X5, X5 = w7.heap.size := ⟨_, rfl⟩
  have OH : Hid (X5 < w8.heap.size ∧ True) := by
    have h1 := O7.out
    exact ⟨by rw [hw8]; omega, trivial⟩
  rw [← hX5] at Q8 K8 OL
  have HX5 := Lib.hid hX5
  have HW8 := Lib.hid hw8
  clear R7 B7 P7 L7 Q7 K7 hw8 hX5
  obtain ⟨⟨r0, r1, r2, r3, r4⟩, _⟩ := rowN5 Q8.out
  go_wp2_with fail
  rw [← HW7.out, ← HW8.out, ← HX5.out]
  refine (HIM.out _ _ _ _ _ _ _ K8.out.at_ (HG.out.below B8.out)).mono ?_
  rintro e w9 ⟨⟨b, c, p, q, rfl, hL⟩, hb⟩
  obtain ⟨W9, hW9⟩ : ∃ W9, W9 = w9.alloc (.cells (moA b d.fn c p d.hn q d.rest d.rounds d.at_ d.code) 31) := ⟨_, rfl⟩
  have q9 := hb.trans ((nbel_alloc w9 (.cells (moA b d.fn c p d.hn q d.rest d.rounds d.at_ d.code) 31)).mono hb.size)
  rw [← hW9] at q9
  have S9 : Hid (MF w m pa pk la lk wa wk X4 X5 w9.heap.size gp gl hh gw w8.heap.size d a0 c0 p0 q0 b c p q d.F d.Hd W9) :=
    ⟨nrow_below R8.out q9, nrow_below P8.out q9, nrow_below Q8.out q9, by rw [hW9]; exact rowN_alloc w9 _ _, K8.out.below q9, B8.out.trans (q9.mono B8.out.size), L8.out.below q9, by rw [hW9]; exact hL.below (nbel_alloc _ _)⟩
  have NN : Hid (MFn w X4 X5 w9.heap.size w8.heap.size a0 p0 b p) := ⟨⟨O6.out.1, OL.out, OH.out.1, hb.size⟩, OA.out, fun k e => e.elim (fun e => hL.f.lt e) (fun e => hL.g.lt e)⟩
  have HW9 := Lib.hid hW9
  obtain ⟨⟨y0, y1, y2, y3, y4, y5⟩, _⟩ := rowN6 (nrow_below P8.out hb)
  have ly : X4 < w9.heap.size := (nrow_below P8.out hb).lt
  clear hW9 hb hL q9 R8 B8 P8 L8 Q8 K8 r0 r1 r2 r3 r4 O6 OA OL O7 OH
  go_wp2_with fail
  rw [← HW9.out]
  generalize w9.heap.size = X6 at *
  generalize w8.heap.size = Y at *
  refine (eqMainsOut_same _ _ _ _ _ _ _ _ _ _ _ _ _ _ d.F d.Hd _ S9.out.l1.f.at_ S9.out.l0.f.at_ S9.out.l1.g.at_ S9.out.l0.g.at_ hdn hdm).mono ?_
  rintro e w10 ⟨rfl, hb⟩
  have S10 := Lib.hid (S9.out.below hb)
  clear hb S9 y0 y1 y2 y3 y4 y5 ly
  go_wp2_with fail
  refine wp_region_held_drew (S := MF w m pa pk la lk wa wk X4 X5 X6 gp gl hh gw Y d a0 c0 p0 q0 b c p q d.F d.Hd) (by kernel_rfl) (S10.out.below (Below.refl _ _).drew) (fun hHeld => ?_)
  clear S10
  refine take_do (i := 0) (v := (mnV m (some ⟨gp, 0, none⟩) m.pn (some ⟨gl, 0, none⟩) m.ln (some ⟨gw, 0, none⟩) m.wn)) rfl (by kernel_rfl) (by kernel_rfl) (by kernel_rfl) (fun _ _ _ h => h) (by rfl) ?_ (by assumption) ?_
  · intro w hSw
    obtain ⟨⟨a0, a1, a2, a3, a4⟩, _⟩ := rowN5 hSw.r5
    go_simp
  simp only [Act.put, List.setIfInBounds_toArray, List.set_cons_zero, List.set_cons_succ]
  refine take_do (i := 1) (v := (mnV m pa pk la lk wa wk)) rfl (by kernel_rfl) (by kernel_rfl) (by kernel_rfl) (fun _ _ _ h => h) (by rfl) ?_ (by assumption) ?_
  · intro w hSw
    obtain ⟨⟨a0, a1, a2, a3, a4⟩, _⟩ := rowN5 hSw.ra
    go_simp
  simp only [Act.put, List.setIfInBounds_toArray, List.set_cons_zero, List.set_cons_succ]
  refine take_call (i := 2) rfl (by kernel_rfl) (fun K2 hK => ?_)
  go_simp
  refine (toMains_any m pa pk la lk wa wk _ (H.out.below hHeld.old) HS.out).mono ?_
  rintro e v6 ⟨⟨gp3, gl3, hh3, gw3, rfl, hk6⟩, hb6⟩
  have HK6 := Lib.hid hk6
  go_wp2_with fail
  refine hK.out _ _ (hHeld.below hb6) (fun hHeld2 => ?_)
  clear hK hHeld hb6 hk6
  refine take_call (i := 3) rfl (by kernel_rfl) (fun K2 hK => ?_)
  go_simp
  refine (eqMains_same m _ _ _ _ _ _ _ _ _ _ _ _ _ hHeld2.kx.at_ HK6.out.at_ HS.out).mono ?_
  rintro e v7 ⟨rfl, hb7⟩
  go_wp2_with fail
  refine hK.out _ _ (hHeld2.below hb7) (fun hHeld => ?_)
  clear hK hHeld2 hb7
  refine take_do (i := 4) (v := (.bool false)) rfl (by kernel_rfl) (by kernel_rfl) (by kernel_rfl) (fun _ _ _ h => h) (by rfl) ?_ (by assumption) ?_
  · intro w hSw
    go_simp
  simp only [Act.put, List.setIfInBounds_toArray, List.set_cons_zero, List.set_cons_succ]
  refine wpAnyH_done (by kernel_rfl) ?_ _
  have S11 := Lib.hid hHeld
  clear hHeld HK6
  obtain ⟨⟨r0, r1, r2, r3, r4⟩, _⟩ := rowN5 S11.out.r5
  go_wp2_with fail
  refine (markMains_any m (X4 + 1) X5 gp gl hh gw m.pn m.ln m.wn _ S11.out.kx HS.out).mono ?_
  rintro e w14 ⟨⟨Mk, rfl, hMk⟩, ho⟩
  clear r0 r1 r2 r3 r4
  have nn := NN.out
  have G14 : Hid (MG w m pa pk la lk wa wk X4 X6 Y d a0 c0 p0 q0 b c p q d.F d.Hd w14) := by
    have s := S11.out
    obtain ⟨n1, na, nb⟩ := nn
    have k1 := s.kx.o1
    have bl : ∀ k, k < (X4 + 1) ∨ X5 ≤ k → k < _ → w14.heap[k]? = _ := fun k h1 h2 => ho.block k h2 h1
    exact ⟨s.ra.of_block (bl _ (by omega) s.ra.lt), s.r4.of_block (bl _ (by omega) s.r4.lt), s.r6.of_block (bl _ (by omega) s.r6.lt), s.old.trans ((ho.below (by have := s.r4.lt; omega)).mono (by omega)), ow_keep s.l0 (fun k e hk => bl k (by have := na k e; omega) hk), ow_keep s.l1 (fun k e hk => bl k (by have := nb k e; omega) hk)⟩
  clear ho S11
  have G15 := G14
  clear G14
  obtain ⟨Mq, hMq⟩ : ∃ Mq : Nat, Mq = Mk := ⟨_, rfl⟩
  rw [← hMq]
  have hMz : ¬ (Mq : Int) < 0 := by omega
  clear hMq
  obtain ⟨⟨x0, x1, x2, x3, x4, x5⟩, _⟩ := rowN6 G15.out.r6
  obtain ⟨⟨y0, y1, y2, y3, y4, y5⟩, _⟩ := rowN6 G15.out.r4
  go_wp2_with fail
  refine (eqMainsOut_same _ _ _ _ _ _ _ _ _ _ _ _ _ _ d.F d.Hd _ G15.out.l1.f.at_ G15.out.l0.f.at_ G15.out.l1.g.at_ G15.out.l0.g.at_ hdn hdm).mono ?_
  rintro e w16 ⟨rfl, hb⟩
  have G16 := Lib.hid (G15.out.below hb)
  clear hb G15 x0 x1 x2 x3 x4 x5 y0 y1 y2 y3 y4 y5
  obtain ⟨⟨x0, x1, x2, x3, x4, x5⟩, _⟩ := rowN6 G16.out.r6
  go_wp2_with fail
  refine (markMainsOut_any _ _ _ _ _ _ _ _ _ _ _ d.F d.Hd _ G16.out.l1 hdn hdm).mono ?_
  rintro e w17 ⟨rfl, hmk, hc, hc2⟩
  clear x0 x1 x2 x3 x4 x5
  have G17 : Hid (MG w m pa pk la lk wa wk X4 X6 Y d a0 c0 p0 q0 b c p q (mk1 1) (mk1 (1 + d.fn)) w17) := by
    have s := G16.out
    obtain ⟨n1, na, nb⟩ := nn
    refine ⟨s.ra.of_block (hc _ s.ra.lt (fun e => by have := nb _ (Or.inl e); omega) (fun e => by have := nb _ (Or.inr e); omega)), s.r4.of_block (hc _ s.r4.lt (fun e => by have := nb _ (Or.inl e); omega) (fun e => by have := nb _ (Or.inr e); omega)), s.r6.of_block (hc _ s.r6.lt (fun e => by have := nb _ (Or.inl e); omega) (fun e => by have := nb _ (Or.inr e); omega)), s.old.trans ⟨hc2.1, hc2.2.1, hc2.2.2.1, hc2.2.2.2, fun k hk => hc k (by have := s.old.size; omega) (fun e => by have := nb _ (Or.inl e); omega) (fun e => by have := nb _ (Or.inr e); omega)⟩, ow_keep s.l0 (fun k e hk => hc k hk (fun e2 => by have := nb _ (Or.inl e2); have := na k e; omega) (fun e2 => by have := nb _ (Or.inr e2); have := na k e; omega)), hmk⟩
  clear hmk hc hc2 G16
  obtain ⟨Q, hQ⟩ : ∃ Q : Nat, Q = 1 + d.fn + d.hn := ⟨_, rfl⟩
  have HQ : Hid (1 + d.fn + d.hn = Q) := hQ.symm
  rw [← hQ]
  have hQ0 : ¬ (Q : Int) < 0 := by omega
  clear hQ
  obtain ⟨⟨x0, x1, x2, x3, x4, x5⟩, _⟩ := rowN6 G17.out.r6
  go_wp2_with fail
  refine (heldMainsOut_any _ _ _ _ _ _ _ _ _ _ _ _ G17.out.l1 hdn hdm).mono ?_
  rintro e w18 ⟨rfl, hb⟩
  rw [HQ.out]
  have G18 := Lib.hid (G17.out.below hb)
  clear hb G17 x0 x1 x2 x3 x4 x5
  obtain ⟨⟨r0, r1, r2, r3, r4⟩, _⟩ := rowN5 G18.out.ra
  go_wp2_with fail
  refine (toMains_any m pa pk la lk wa wk _ (H.out.below G18.out.old) HS.out).mono ?_
  rintro e w20 ⟨⟨gp4, gl4, hh4, gw4, rfl, hk20⟩, hb⟩
  have G20 := Lib.hid (G18.out.below hb)
  have K20 := Lib.hid hk20
  clear hb hk20 G18 r0 r1 r2 r3 r4
  go_wp2_with fail
  refine (HIM.out _ _ _ _ _ _ _ K20.out.at_ (HG.out.below G20.out.old)).mono ?_
  rintro e w21 ⟨⟨b2, c2, p2, q2, rfl, hL⟩, hb⟩
  obtain ⟨WA, hWA⟩ : ∃ WA, WA = w21.alloc (.cells (moA b2 d.fn c2 p2 d.hn q2 d.rest d.rounds d.at_ d.code) 31) := ⟨_, rfl⟩
  have qA := hb.trans ((nbel_alloc w21 (.cells (moA b2 d.fn c2 p2 d.hn q2 d.rest d.rounds d.at_ d.code) 31)).mono hb.size)
  rw [← hWA] at qA
  have G22 := Lib.hid (G20.out.below qA)
  have L22 : Hid (Ow2 w20.heap.size d.fn c2 d.hn q2 b2 p2 d.F d.Hd WA) := by show Ow2 _ _ _ _ _ _ _ _ _ _; rw [hWA]; exact hL.below (nbel_alloc _ _)
  have HWA := Lib.hid hWA
  obtain ⟨⟨y0, y1, y2, y3, y4, y5⟩, _⟩ := rowN6 (nrow_below G20.out.r4 hb)
  have ly : X4 < w21.heap.size := (nrow_below G20.out.r4 hb).lt
  clear hWA hb hL qA G20 K20
  go_wp2_with fail
  rw [← HWA.out]
  refine (eqMainsOut_same _ _ _ _ _ _ _ _ _ _ _ _ _ _ d.F d.Hd _ L22.out.f.at_ G22.out.l0.f.at_ L22.out.g.at_ G22.out.l0.g.at_ hdn hdm).mono ?_
  rintro e w23 ⟨rfl, hb⟩
  have G23 := Lib.hid (G22.out.below hb)
  clear hb G22 y0 y1 y2 y3 y4 y5 ly L22
  obtain ⟨⟨x0, x1, x2, x3, x4, x5⟩, _⟩ := rowN6 G23.out.r6
  go_wp2_with fail
  refine (heldMainsOut_any _ _ _ _ _ _ _ _ _ _ _ _ G23.out.l1 hdn hdm).mono ?_
  rintro e w24 ⟨rfl, hb⟩
  rw [HQ.out]
  have G24 := Lib.hid (G23.out.below hb)
  clear hb G23 x0 x1 x2 x3 x4 x5
  go_wp2_with fail
  go_ret
  exact ⟨rfl, G24.out.old⟩
end Go.Proofs.YtfgmalnkpgloiaaGreatDoor
