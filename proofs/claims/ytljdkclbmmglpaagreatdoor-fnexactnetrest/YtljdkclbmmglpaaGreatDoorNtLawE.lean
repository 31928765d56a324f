/-
  The law FnExactNetRest.
-/
import Derived.Test.YtljdkclbmmglpaaGreatDoorNtEx3
import Derived.Test.YtljdkclbmmglpaaGreatDoorNtLawR
import Derived.Test.YtljdkclbmmglpaaGreatDoorNtRe4
namespace Go.Proofs.YtljdkclbmmglpaaGreatDoor
open Go.RowKit Go.Deep

/-- A function that answers a net and heads so. -/
def AnsFn (fn : Nat) (n : Nt.Net) (hn : Nat) (hf : Nat → Int) (code : Int) (M : Nat) (f : Nat → Int) : Prop :=
  ∀ (la : Option Addr) (lk : Nat) (fa : Option Addr) (fk : Nat) (wa : Option Addr) (wk : Nat) (ha : Option Addr) (hk : Nat) (w : World), NtAt n la fa wa w → IsAt ha (hn * 2) hf w → NEt w → Calls Tryz.prog fn #[ntV n la lk fa fk wa wk, .slice ha hn hk] w fun e w' => (∃ a k, e = .returned (noV a M k 0 code) ∧ LsOwn 35 2 w.heap.size M a k f w') ∧ Below w.heap.size w w'
theorem ansF_both (n : Nt.Net) (hs : NtSmall n) (hn : Nat) (hf : Nat → Int) (hb0 : NBd hf) (hm : hn ≤ 1048576) : ∃ (code : Int) (M : Nat) (f : Nat → Int), M ≤ 1048576 ∧ AnsFn 11 n hn hf code M f ∧ AnsFn 12 n hn hf code M f := by
  refine ⟨Nt.reCode n hn hf, if Nt.reCode n hn hf = 0 then (Nt.nn n) else 0, Nt.cells2 (Nt.rev n hf), ?_, ?_, ?_⟩
  · have h1 := hs.1
    have h2 := hs.2.2
    split
    · exact Nt.reCode_nn (by assumption)
    · omega
  · intro la lk fa fk wa wk ha hk w h1 h2 h3
    exact specRest_any n la lk fa fk wa wk ha hn hk hf w h1 hs h2 hm
  · intro la lk fa fk wa wk ha hk w h1 h2 h3
    exact implNetRest_any n la lk fa fk wa wk ha hn hk hf w h1 hs h2 hb0 hm h3
/-- What stands in this law behind the program's call. -/
structure NF (w : World) (n : Nt.Net) (la : Option Addr) (lk : Nat) (fa : Option Addr) (fk : Nat) (wa : Option Addr) (wk : Nat) (X6 X7 X9 gl gf gw gH Y M : Nat) (a0 : Option Addr) (c0 : Nat) (b : Option Addr) (c : Nat) (code : Int) (hn : Nat) (hf f g : Nat → Int) (W : World) : Prop where
  ra : W.rowIs w.heap.size 44 4 (rowN (ntL n la lk fa fk wa wk))
  r6 : W.rowIs X6 31 3 (rowN (noL a0 M c0 0 code))
  r7 : W.rowIs X7 27 4 (rowN (ntL n (some ⟨gl, 0, none⟩) n.ln (some ⟨gf, 0, none⟩) n.fn (some ⟨gw, 0, none⟩) n.wn))
  r9 : W.rowIs X9 31 3 (rowN (noL b M c 0 code))
  kx : NtBlk n (X6 + 1) gl gf gw W
  kh : IsBlk 35 gH (hn * 2) hf W
  old : Below w.heap.size w W
  l0 : LsOwn 35 2 w.heap.size M a0 c0 f W
  l1 : LsOwn 35 2 Y M b c g W
/-- Where all that lies. -/
structure NFn (w : World) (X6 X7 X9 gl gf gw gH Y : Nat) (a0 b : Option Addr) : Prop where
  o6 : w.heap.size < X6
  oa : ∀ k, a0 = some ⟨k, 0, none⟩ → k < X6
  ol : (X6 < gl ∧ X6 < gf ∧ X6 < gw) ∧ (gl < X7 ∧ gf < X7 ∧ gw < X7)
  oh : X7 < gH ∧ gH < Y ∧ Y ≤ X9
  ob : ∀ k, b = some ⟨k, 0, none⟩ → Y ≤ k ∧ k < X9
theorem NF.below {w : World} {n : Nt.Net} {la : Option Addr} {lk : Nat} {fa : Option Addr} {fk : Nat} {wa : Option Addr} {wk X6 X7 X9 gl gf gw gH Y M : Nat} {a0 : Option Addr} {c0 : Nat} {b : Option Addr} {c : Nat} {code : Int} {hn : Nat} {hf f g : Nat → Int} {W W' : World} (h : NF w n la lk fa fk wa wk X6 X7 X9 gl gf gw gH Y M a0 c0 b c code hn hf f g W) (hb : Below W.heap.size W W') : NF w n la lk fa fk wa wk X6 X7 X9 gl gf gw gH Y M a0 c0 b c code hn hf f g W' :=
  ⟨nrow_below h.ra hb, nrow_below h.r6 hb, nrow_below h.r7 hb, nrow_below h.r9 hb, h.kx.below hb, h.kh.below hb, h.old.trans (hb.mono h.old.size), h.l0.below hb, h.l1.below hb⟩
/-- What is left of it where the program's own arguments were marked. -/
structure NG (w : World) (n : Nt.Net) (la : Option Addr) (lk : Nat) (fa : Option Addr) (fk : Nat) (wa : Option Addr) (wk X6 X9 Y M : Nat) (a0 : Option Addr) (c0 : Nat) (b : Option Addr) (c : Nat) (code : Int) (f g : Nat → Int) (W : World) : Prop where
  ra : W.rowIs w.heap.size 44 4 (rowN (ntL n la lk fa fk wa wk))
  r6 : W.rowIs X6 31 3 (rowN (noL a0 M c0 0 code))
  r9 : W.rowIs X9 31 3 (rowN (noL b M c 0 code))
  old : Below w.heap.size w W
  l0 : LsOwn 35 2 w.heap.size M a0 c0 f W
  l1 : LsOwn 35 2 Y M b c g W
theorem NG.below {w : World} {n : Nt.Net} {la : Option Addr} {lk : Nat} {fa : Option Addr} {fk : Nat} {wa : Option Addr} {wk X6 X9 Y M : Nat} {a0 : Option Addr} {c0 : Nat} {b : Option Addr} {c : Nat} {code : Int} {f g : Nat → Int} {W W' : World} (h : NG w n la lk fa fk wa wk X6 X9 Y M a0 c0 b c code f g W) (hb : Below W.heap.size W W') : NG w n la lk fa fk wa wk X6 X9 Y M a0 c0 b c code f g W' :=
  ⟨nrow_below h.ra hb, nrow_below h.r6 hb, nrow_below h.r9 hb, h.old.trans (hb.mono h.old.size), h.l0.below hb, h.l1.below hb⟩
theorem LsOwn.keep {T : TypeId} {s B N c : Nat} {a : Option Addr} {f : Nat → Int} {W W' : World} (h : LsOwn T s B N a c f W) (hb : ∀ k, a = some ⟨k, 0, none⟩ → k < W.heap.size → W'.heap[k]? = W.heap[k]?) : LsOwn T s B N a c f W' := by
  rcases h with h | ⟨g, e, h1, h2⟩
  · exact Or.inl h
  · exact Or.inr ⟨g, e, h1, h2.block (hb g e h2.lt)⟩
set_option maxRecDepth 100000 in
set_option maxHeartbeats 16000000 in
theorem netRest_law (w : World) (n : Nt.Net) (la : Option Addr) (lk : Nat) (fa : Option Addr) (fk : Nat) (wa : Option Addr) (wk : Nat) (h : NtIn n la fa wa w) (hl : NtLens n) (ha : Option Addr) (hn hk : Nat) (hf : Nat → Int) (hh : IsIn ha (hn * 2) hf w) (hu : hn ≤ 9223372036854775807 ∧ NBd hf) (hg : NEt w) :
    Calls Tryz.prog 5 #[ntV n la lk fa fk wa wk, .slice ha hn hk] w fun e w' => e = .returned (.bool true) ∧ Below w.heap.size w w' := by
  have H := Lib.hid h
  have HH := Lib.hid hh
  have HG := Lib.hid hg
  obtain ⟨W, hW⟩ : ∃ W, W = w.alloc (.cells #[.int .i64 n.nodes, .slice la n.ln lk, .slice fa n.fn fk, .slice wa n.wn wk] 44) := ⟨_, rfl⟩
  have R0 : Hid (W.rowIs w.heap.size 44 4 (rowN (ntL n la lk fa fk wa wk))) := by rw [hW]; exact rowN_alloc w _ _
  have B0 : Hid (Below w.heap.size w W) := by rw [hW]; exact nbel_alloc _ _
  have HW := Lib.hid hW
  clear h hh hg hW
  go_enter Tryz.func5, Tryz.ntmps5
  go_wp2_with fail
  rw [← HW.out]
  refine (szNet_any n la lk fa fk wa wk _ hl.1 hl.2.1 hl.2.2).mono ?_
  rintro e w1 ⟨⟨z, rfl, hz⟩, hb⟩
  have R1 := Lib.hid (nrow_below R0.out hb)
  have B1 : Hid (Below w.heap.size w w1) := B0.out.trans (hb.mono B0.out.size)
  clear hb R0 B0
  rcases hz with hz | ⟨hz, hs⟩
  · go_wp2_with fail
    go_ret
    exact ⟨rfl, B1.out⟩
  have HS := Lib.hid hs
  have hz0 : ¬ z < 0 := by omega
  obtain ⟨Zn, rfl⟩ : ∃ Zn : Nat, z = (Zn : Int) := ⟨z.toNat, by omega⟩
  have hzn : Zn ≤ 1048576 := by omega
  clear hs hz
  by_cases hhn : hn ≤ Zn
  case neg =>
    go_wp2_with fail
    refine (nszFrac_over ha hn hk Zn _ (by omega) hzn hu.1).mono ?_
    rintro e w2 ⟨rfl, rfl⟩
    go_wp2_with fail
    go_ret
    exact ⟨rfl, B1.out⟩
  case pos =>
  have hz1 : ¬ ((Zn - hn : Nat) : Int) < 0 := by omega
  obtain ⟨code, M, F, hM, hSP, hIM⟩ := ansF_both n HS.out hn hf hu.2 (by omega)
  have HSP := Lib.hid hSP
  have HIM := Lib.hid hIM
  have hhm : hn ≤ 1048576 := by omega
  clear hSP hIM
  go_wp2_with fail
  refine (nszFrac_in ha hn hk Zn _ hhn hzn).mono ?_
  rintro e w2 ⟨rfl, rfl⟩
  clear hhn
  obtain ⟨⟨r0, r1, r2, r3⟩, _⟩ := rowN4 R1.out
  go_wp2_with fail
  refine (toNet_any n la lk fa fk wa wk _ (H.out.below B1.out) HS.out).mono ?_
  rintro e w3 ⟨⟨gl, gf, gw, rfl, hk3⟩, hb⟩
  have R3 := Lib.hid (nrow_below R1.out hb)
  have B3 : Hid (Below w.heap.size w w3) := B1.out.trans (hb.mono B1.out.size)
  have K3 := Lib.hid hk3
  clear hb hk3 R1 B1 r0 r1 r2 r3
  go_wp2_with fail
  refine (ntoFracS_any ha hn hk hf _ (HH.out.below B3.out) hhm).mono ?_
  rintro e w4 ⟨⟨rfl, hk4⟩, hb⟩
  have R4 := Lib.hid (nrow_below R3.out hb)
  have B4 : Hid (Below w.heap.size w w4) := B3.out.trans (hb.mono B3.out.size)
  have K4 := Lib.hid (K3.out.below hb)
  have F4 := Lib.hid hk4
  clear hb hk4 R3 B3 K3
  go_wp2_with fail
  refine (HSP.out _ _ _ _ _ _ _ _ _ K4.out.at_ F4.out.at_ (HG.out.below B4.out)).mono ?_
  rintro e w5 ⟨⟨a0, c0, rfl, hL⟩, hb⟩
  obtain ⟨W6, hW6⟩ : ∃ W6, W6 = w5.alloc (.cells #[.slice a0 M c0, .int .i64 0, .int .i64 code] 31) := ⟨_, rfl⟩
  have q6 := hb.trans ((nbel_alloc w5 (.cells #[.slice a0 M c0, .int .i64 0, .int .i64 code] 31)).mono hb.size)
  rw [← hW6] at q6
  have R6 := Lib.hid (nrow_below R4.out q6)
  have B6 : Hid (Below w.heap.size w W6) := B4.out.trans (q6.mono B4.out.size)
  have P6 : Hid (W6.rowIs w5.heap.size 31 3 (rowN (noL a0 M c0 0 code))) := by rw [hW6]; exact rowN_alloc w5 _ _
  have L6 : Hid (LsOwn 35 2 w.heap.size M a0 c0 F W6) := by rw [hW6]; exact (hL.low B4.out.size).below (nbel_alloc _ _)
  have OA : Hid (∀ k, a0 = some ⟨k, 0, none⟩ → k < w5.heap.size) := fun k e => (hL.lt e).2
  have O6 : Hid (w.heap.size < w5.heap.size ∧ W6.heap.size = w5.heap.size + 1) := by
    have h1 := R4.out.lt
    have h2 := hb.size
    exact ⟨by omega, by rw [hW6]; simp⟩
  have HW6 := Lib.hid hW6
  obtain ⟨⟨r0, r1, r2, r3⟩, _⟩ := rowN4 (nrow_below R4.out hb)
  have lw5 : w.heap.size < w5.heap.size := (nrow_below R4.out hb).lt
  clear hW6 hb hL q6 R4 B4 K4 F4
  go_wp2_with fail
  rw [← HW6.out]
  clear lw5 r0 r1 r2 r3
  generalize w5.heap.size = X6 at *
  refine (toNet_any n la lk fa fk wa wk _ (H.out.below B6.out) HS.out).mono ?_
  rintro e w7 ⟨⟨gl, gf, gw, rfl, hk7⟩, hb⟩
  obtain ⟨W7, hW7⟩ : ∃ W7, W7 = w7.alloc (.cells #[.int .i64 n.nodes, .slice (some ⟨gl, 0, none⟩) n.ln n.ln, .slice (some ⟨gf, 0, none⟩) n.fn n.fn, .slice (some ⟨gw, 0, none⟩) n.wn n.wn] 27) := ⟨_, rfl⟩
  have q7 := hb.trans ((nbel_alloc w7 (.cells #[.int .i64 n.nodes, .slice (some ⟨gl, 0, none⟩) n.ln n.ln, .slice (some ⟨gf, 0, none⟩) n.fn n.fn, .slice (some ⟨gw, 0, none⟩) n.wn n.wn] 27)).mono hb.size)
  rw [← hW7] at q7
  have R7 := Lib.hid (nrow_below R6.out q7)
  have B7 : Hid (Below w.heap.size w W7) := B6.out.trans (q7.mono B6.out.size)
  have P7 := Lib.hid (nrow_below P6.out q7)
  have L7 := Lib.hid (L6.out.below q7)
  have Q7 : Hid (W7.rowIs w7.heap.size 27 4 (rowN (ntL n (some ⟨gl, 0, none⟩) n.ln (some ⟨gf, 0, none⟩) n.fn (some ⟨gw, 0, none⟩) n.wn))) := by rw [hW7]; exact rowN_alloc w7 _ _
  have K7 : Hid (NtBlk n (X6 + 1) gl gf gw W7) := by
    have := O6.out.2
    rw [this] at hk7
    rw [hW7]; exact hk7.below (nbel_alloc _ _)
  have OL : Hid ((X6 < gl ∧ X6 < gf ∧ X6 < gw) ∧ (gl < w7.heap.size ∧ gf < w7.heap.size ∧ gw < w7.heap.size)) := by
    have h1 := hk7.lo
    have h2 := O6.out.2
    exact ⟨by omega, hk7.l.lt, hk7.f.lt, hk7.w.lt⟩
  have O7 : Hid (W7.heap.size = w7.heap.size + 1) := by show _ = _; rw [hW7]; simp
  have HW7 := Lib.hid hW7
  clear hW7 hb hk7 q7 R6 B6 P6 L6
  go_wp2_with fail
  rw [← HW7.out]
  generalize w7.heap.size = X7 at *
  refine (ntoFracS_any ha hn hk hf _ (HH.out.below B7.out) hhm).mono ?_
  rintro e w8 ⟨⟨rfl, hk8⟩, hb⟩
  have R8 := Lib.hid (nrow_below R7.out hb)
  have B8 : Hid (Below w.heap.size w w8) := B7.out.trans (hb.mono B7.out.size)
  have P8 := Lib.hid (nrow_below P7.out hb)
  have L8 := Lib.hid (L7.out.below hb)
  have Q8 := Lib.hid (nrow_below Q7.out hb)
  have K8 := Lib.hid (K7.out.below hb)
  have F8 := Lib.hid hk8
  obtain ⟨gH, hgH⟩ : ∃ gH, gH = W7.heap.size := ⟨_, rfl⟩
  have OH : Hid (X7 < gH ∧ gH < w8.heap.size) := by
    have h1 := O7.out
    have h2 := hk8.lt
    exact ⟨by omega, by omega⟩
  rw [← hgH] at F8 ⊢
  clear hgH hb hk8 R7 B7 P7 L7 Q7 K7
  obtain ⟨⟨r0, r1, r2, r3⟩, _⟩ := rowN4 Q8.out
  go_wp2_with fail
  refine (HIM.out _ _ _ _ _ _ _ _ _ K8.out.at_ F8.out.at_ (HG.out.below B8.out)).mono ?_
  rintro e w9 ⟨⟨b, c, rfl, hL⟩, hb⟩
  obtain ⟨W9, hW9⟩ : ∃ W9, W9 = w9.alloc (.cells #[.slice b M c, .int .i64 0, .int .i64 code] 31) := ⟨_, rfl⟩
  have q9 := hb.trans ((nbel_alloc w9 (.cells #[.slice b M c, .int .i64 0, .int .i64 code] 31)).mono hb.size)
  rw [← hW9] at q9
  have S9 : Hid (NF w n la lk fa fk wa wk X6 X7 w9.heap.size gl gf gw gH w8.heap.size M a0 c0 b c code hn hf F F W9) :=
    ⟨nrow_below R8.out q9, nrow_below P8.out q9, nrow_below Q8.out q9, by rw [hW9]; exact rowN_alloc w9 _ _, K8.out.below q9, F8.out.below q9, B8.out.trans (q9.mono B8.out.size), L8.out.below q9, by rw [hW9]; exact hL.below (nbel_alloc _ _)⟩
  have NN : Hid (NFn w X6 X7 w9.heap.size gl gf gw gH w8.heap.size a0 b) := ⟨O6.out.1, OA.out, OL.out, ⟨OH.out.1, OH.out.2, hb.size⟩, fun k e => hL.lt e⟩
  have HW9 := Lib.hid hW9
  obtain ⟨⟨y0, y1, y2⟩, _⟩ := rowN3 (nrow_below P8.out hb)
  have ly : X6 < w9.heap.size := (nrow_below P8.out hb).lt
  clear hW9 hb hL q9 R8 B8 P8 L8 Q8 K8 F8 r0 r1 r2 r3 O6 OA OL O7 OH
  go_wp2_with fail
  rw [← HW9.out]
  generalize w9.heap.size = X9 at *
  generalize w8.heap.size = Y at *
  refine (eqNetOut_same _ _ _ _ _ _ _ F _ S9.out.l1.at_ S9.out.l0.at_ hM).mono ?_
  rintro e w10 ⟨rfl, hb⟩
  have S10 := Lib.hid (S9.out.below hb)
  clear hb S9 y0 y1 y2 ly
  go_wp2_with fail
  refine wp_region_held_drew (S := NF w n la lk fa fk wa wk X6 X7 X9 gl gf gw gH Y M a0 c0 b c code hn hf F F) (by kernel_rfl) (S10.out.below (Below.refl _ _).drew) (fun hHeld => ?_)
  clear S10
  refine take_do (i := 0) (v := (ntV n (some ⟨gl, 0, none⟩) n.ln (some ⟨gf, 0, none⟩) n.fn (some ⟨gw, 0, none⟩) n.wn)) rfl (by kernel_rfl) (by kernel_rfl) (by kernel_rfl) (fun _ _ _ h => h) (by rfl) ?_ (by assumption) ?_
  · intro w hSw
    obtain ⟨⟨a0, a1, a2, a3⟩, _⟩ := rowN4 hSw.r7
    go_simp
  simp only [Act.put, List.setIfInBounds_toArray, List.set_cons_zero, List.set_cons_succ]
  refine take_do (i := 1) (v := (ntV n la lk fa fk wa wk)) rfl (by kernel_rfl) (by kernel_rfl) (by kernel_rfl) (fun _ _ _ h => h) (by rfl) ?_ (by assumption) ?_
  · intro w hSw
    obtain ⟨⟨a0, a1, a2, a3⟩, _⟩ := rowN4 hSw.ra
    go_simp
  simp only [Act.put, List.setIfInBounds_toArray, List.set_cons_zero, List.set_cons_succ]
  refine take_call (i := 2) rfl (by kernel_rfl) (fun K2 hK => ?_)
  go_simp
  refine (toNet_any n la lk fa fk wa wk _ (H.out.below hHeld.old) HS.out).mono ?_
  rintro e v6 ⟨⟨gl3, gf3, gw3, rfl, hk6⟩, hb6⟩
  have HK6 := Lib.hid hk6
  go_wp2_with fail
  refine hK.out _ _ (hHeld.below hb6) (fun hHeld2 => ?_)
  clear hK hHeld hb6 hk6
  refine take_call (i := 3) rfl (by kernel_rfl) (fun K2 hK => ?_)
  go_simp
  refine (eqNet_same n _ _ _ _ _ _ _ _ _ _ _ _ _ hHeld2.kx.at_ HK6.out.at_ HS.out).mono ?_
  rintro e v7 ⟨rfl, hb7⟩
  go_wp2_with fail
  refine hK.out _ _ (hHeld2.below hb7) (fun hHeld => ?_)
  clear hK hHeld2 hb7
  refine take_do (i := 4) (v := (.bool false)) rfl (by kernel_rfl) (by kernel_rfl) (by kernel_rfl) (fun _ _ _ h => h) (by rfl) ?_ (by assumption) ?_
  · intro w hSw
    go_simp
  simp only [Act.put, List.setIfInBounds_toArray, List.set_cons_zero, List.set_cons_succ]
  refine wpAnyH_done (by kernel_rfl) ?_ _
  have S11 := Lib.hid hHeld
  clear hHeld HK6
  go_wp2_with fail
  refine (ntoFracS_any ha hn hk hf _ (HH.out.below S11.out.old) hhm).mono ?_
  rintro e w12 ⟨⟨rfl, hk12⟩, hb⟩
  have S12 := Lib.hid (S11.out.below hb)
  have F12 := Lib.hid hk12
  clear hb hk12 S11
  go_wp2_with fail
  refine (neqFracS_same _ _ _ _ _ hf _ S12.out.kh.at_ F12.out.at_ hhm).mono ?_
  rintro e w13 ⟨rfl, hb⟩
  have S13 := Lib.hid (S12.out.below hb)
  clear hb S12 F12
  obtain ⟨⟨r0, r1, r2, r3⟩, _⟩ := rowN4 S13.out.r7
  go_wp2_with fail
  refine (markNet_any n (X6 + 1) gl gf gw n.ln n.fn n.wn _ S13.out.kx HS.out).mono ?_
  rintro e w14 ⟨⟨Mk, rfl, hMk⟩, ho⟩
  clear r0 r1 r2 r3
  have nn := NN.out
  have G14 : Hid (NG w n la lk fa fk wa wk X6 X9 Y M a0 c0 b c code F F w14 ∧ IsBlk 35 gH (hn * 2) hf w14) := by
    have s := S13.out
    obtain ⟨n6, na, nl, nh, nb⟩ := nn
    refine ⟨⟨s.ra.of_block (ho.block _ s.ra.lt (by omega) (by omega) (by omega)), s.r6.of_block (ho.block _ s.r6.lt (by omega) (by omega) (by omega)), s.r9.of_block (ho.block _ s.r9.lt (by omega) (by omega) (by omega)), s.old.trans ⟨ho.os, ho.tape, ho.output, ho.size, fun k hk => ho.block k (by have := s.old.size; omega) (by omega) (by omega) (by omega)⟩, s.l0.keep (fun k e hk => ho.block k hk (by have := na k e; omega) (by have := na k e; omega) (by have := na k e; omega)), s.l1.keep (fun k e hk => ho.block k hk (by have := nb k e; omega) (by have := nb k e; omega) (by have := nb k e; omega))⟩, s.kh.block (ho.block _ s.kh.lt (by omega) (by omega) (by omega))⟩
  clear ho S13
  go_wp2_with fail
  refine (nmarkFracS_any gH hn hn Mk hf _ G14.out.2 hhm (by omega)).mono ?_
  rintro e w15 ⟨rfl, _, ho⟩
  have G15 : Hid (NG w n la lk fa fk wa wk X6 X9 Y M a0 c0 b c code F F w15) := by
    have s := G14.out.1
    obtain ⟨n6, na, nl, nh, nb⟩ := nn
    exact ⟨s.ra.of_block (ho.block _ s.ra.lt (by omega)), s.r6.of_block (ho.block _ s.r6.lt (by omega)), s.r9.of_block (ho.block _ s.r9.lt (by omega)), s.old.trans (ho.below (by omega) s.old.size), s.l0.keep (fun k e hk => ho.block k hk (by have := na k e; omega)), s.l1.keep (fun k e hk => ho.block k hk (by have := nb k e; omega))⟩
  clear ho G14
  obtain ⟨Mq, hMq⟩ : ∃ Mq : Nat, Mq = Mk + hn * 2 := ⟨_, rfl⟩
  rw [← hMq]
  have hMz : ¬ (Mq : Int) < 0 := by omega
  clear hMq hMk
  obtain ⟨⟨x0, x1, x2⟩, _⟩ := rowN3 G15.out.r9
  obtain ⟨⟨y0, y1, y2⟩, _⟩ := rowN3 G15.out.r6
  go_wp2_with fail
  refine (eqNetOut_same _ _ _ _ _ _ _ F _ G15.out.l1.at_ G15.out.l0.at_ hM).mono ?_
  rintro e w16 ⟨rfl, hb⟩
  have G16 := Lib.hid (G15.out.below hb)
  clear hb G15 x0 x1 x2 y0 y1 y2
  obtain ⟨⟨x0, x1, x2⟩, _⟩ := rowN3 G16.out.r9
  go_wp2_with fail
  refine (markNetOut_any _ _ _ _ _ _ F _ G16.out.l1 hM).mono ?_
  rintro e w17 ⟨rfl, hmk, hc, hc2⟩
  clear x0 x1 x2
  have G17 : Hid (NG w n la lk fa fk wa wk X6 X9 Y M a0 c0 b c code F (mk1 1) w17) := by
    have s := G16.out
    obtain ⟨n6, na, nl, nh, nb⟩ := nn
    refine ⟨s.ra.of_block (hc _ s.ra.lt (fun e => by have := nb _ e; omega)), s.r6.of_block (hc _ s.r6.lt (fun e => by have := nb _ e; omega)), s.r9.of_block (hc _ s.r9.lt (fun e => by have := nb _ e; omega)), s.old.trans ⟨hc2.1, hc2.2.1, hc2.2.2.1, hc2.2.2.2, fun k hk => hc k (by have := s.old.size; omega) (fun e => by have := nb _ e; omega)⟩, s.l0.keep (fun k e hk => hc k hk (fun e2 => by have := nb _ e2; have := na k e; omega)), hmk⟩
  clear hmk hc hc2 G16
  obtain ⟨Q, hQ⟩ : ∃ Q : Nat, Q = 1 + M * 2 := ⟨_, rfl⟩
  have HQ : Hid (1 + M * 2 = Q) := hQ.symm
  rw [← hQ]
  have hQ0 : ¬ (Q : Int) < 0 := by omega
  clear hQ
  obtain ⟨⟨x0, x1, x2⟩, _⟩ := rowN3 G17.out.r9
  go_wp2_with fail
  refine (heldNetOut_any _ _ _ _ _ _ _ G17.out.l1 hM).mono ?_
  rintro e w18 ⟨rfl, hb⟩
  rw [HQ.out]
  have G18 := Lib.hid (G17.out.below hb)
  clear hb G17 x0 x1 x2
  obtain ⟨⟨r0, r1, r2, r3⟩, _⟩ := rowN4 G18.out.ra
  go_wp2_with fail
  refine (toNet_any n la lk fa fk wa wk _ (H.out.below G18.out.old) HS.out).mono ?_
  rintro e w19 ⟨⟨gl4, gf4, gw4, rfl, hk19⟩, hb⟩
  have G19 := Lib.hid (G18.out.below hb)
  have K19 := Lib.hid hk19
  clear hb hk19 G18 r0 r1 r2 r3
  go_wp2_with fail
  refine (ntoFracS_any ha hn hk hf _ (HH.out.below G19.out.old) hhm).mono ?_
  rintro e w20 ⟨⟨rfl, hk20⟩, hb⟩
  have G20 := Lib.hid (G19.out.below hb)
  have K20 := Lib.hid (K19.out.below hb)
  have F20 := Lib.hid hk20
  clear hb hk20 G19 K19
  go_wp2_with fail
  refine (HIM.out _ _ _ _ _ _ _ _ _ K20.out.at_ F20.out.at_ (HG.out.below G20.out.old)).mono ?_
  rintro e w21 ⟨⟨b2, c2, rfl, hL⟩, hb⟩
  obtain ⟨WA, hWA⟩ : ∃ WA, WA = w21.alloc (.cells #[.slice b2 M c2, .int .i64 0, .int .i64 code] 31) := ⟨_, rfl⟩
  have qA := hb.trans ((nbel_alloc w21 (.cells #[.slice b2 M c2, .int .i64 0, .int .i64 code] 31)).mono hb.size)
  rw [← hWA] at qA
  have G22 := Lib.hid (G20.out.below qA)
  have RX : Hid (WA.rowIs w21.heap.size 31 3 (rowN (noL b2 M c2 0 code))) := by rw [hWA]; exact rowN_alloc w21 _ _
  have L22 : Hid (LsOwn 35 2 w20.heap.size M b2 c2 F WA) := by rw [hWA]; exact hL.below (nbel_alloc _ _)
  have HWA := Lib.hid hWA
  obtain ⟨⟨y0, y1, y2⟩, _⟩ := rowN3 (nrow_below G20.out.r6 hb)
  have ly : X6 < w21.heap.size := (nrow_below G20.out.r6 hb).lt
  clear hWA hb hL qA G20 K20 F20
  go_wp2_with fail
  rw [← HWA.out]
  refine (eqNetOut_same _ _ _ _ _ _ _ F _ L22.out.at_ G22.out.l0.at_ hM).mono ?_
  rintro e w23 ⟨rfl, hb⟩
  have G23 := Lib.hid (G22.out.below hb)
  clear hb G22 y0 y1 y2 ly RX L22
  obtain ⟨⟨x0, x1, x2⟩, _⟩ := rowN3 G23.out.r9
  go_wp2_with fail
  refine (heldNetOut_any _ _ _ _ _ _ _ G23.out.l1 hM).mono ?_
  rintro e w24 ⟨rfl, hb⟩
  rw [HQ.out]
  have G24 := Lib.hid (G23.out.below hb)
  clear hb G23 x0 x1 x2
  go_wp2_with fail
  go_ret
  exact ⟨rfl, G24.out.old⟩
end Go.Proofs.YtljdkclbmmglpaaGreatDoor
