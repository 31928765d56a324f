/-
  The law FnExactDryPlaces.
-/
import Derived.Test.YtipmjobhegpdgaaPlLawR
import Derived.Test.YtipmjobhegpdgaaPlD9
namespace Go.Proofs.Ytipmjobhegpdgaa
open Go.RowKit Go.Deep

/-- A list that an answer is: its own memory, or none. -/
def LsOwn (B N : Nat) (a : Option Addr) (c : Nat) (f : Nat → Int) (W : World) : Prop := (a = none ∧ N = 0 ∧ c = 0) ∨ ∃ g, a = some ⟨g, 0, none⟩ ∧ B ≤ g ∧ IsBlk 2 g N f W
theorem LsOwn.same {B N c : Nat} {a : Option Addr} {f : Nat → Int} {W W' : World} (h : LsOwn B N a c f W) (hb : ∀ k, B ≤ k → k < W.heap.size → W'.heap[k]? = W.heap[k]?) : LsOwn B N a c f W' := by
  rcases h with h | ⟨g, e, h1, h2⟩
  · exact Or.inl h
  · exact Or.inr ⟨g, e, h1, h2.block (hb g h1 h2.lt)⟩
theorem LsOwn.below {B N c : Nat} {a : Option Addr} {f : Nat → Int} {W W' : World} (h : LsOwn B N a c f W) (hb : Below W.heap.size W W') : LsOwn B N a c f W' := h.same (fun k _ hk => hb.block k hk)
theorem LsOwn.at_ {B N c : Nat} {a : Option Addr} {f : Nat → Int} {W : World} (h : LsOwn B N a c f W) : IsAt a N f W := by
  rcases h with h | ⟨g, e, h1, h2⟩
  · exact Or.inl h.2.1
  · rw [e]; exact h2.at_
theorem LsOwn.low {B B' N c : Nat} {a : Option Addr} {f : Nat → Int} {W : World} (h : LsOwn B N a c f W) (hb : B' ≤ B) : LsOwn B' N a c f W := by
  rcases h with h | ⟨g, e, h1, h2⟩
  · exact Or.inl h
  · exact Or.inr ⟨g, e, Nat.le_trans hb h1, h2⟩
theorem LsOwn.lt {B N c : Nat} {a : Option Addr} {f : Nat → Int} {W : World} (h : LsOwn B N a c f W) {k : Nat} (e : a = some ⟨k, 0, none⟩) : B ≤ k ∧ k < W.heap.size := by
  rcases h with h | ⟨g, e', h1, h2⟩
  · rw [h.1] at e; cases e
  · rw [e'] at e; cases e; exact ⟨h1, h2.lt⟩
def nls (l : List Nat) (j : Nat) : Int := ((l.getD j 0 : Nat) : Int)
theorem ls_own {B : Nat} {v : Value} {l : List Nat} {W : World} (h : W.ownsRow B 2 1 v l.length (numsV l)) : ∃ a c, v = .slice a l.length c ∧ LsOwn B l.length a c (nls l) W := by
  rcases h.2 with h2 | ⟨g, cap, cur, e1, e2, e3, e4, e5, e6, e7⟩
  · exact ⟨none, 0, by rw [h2.1, h2.2], Or.inl ⟨rfl, h2.2, rfl⟩⟩
  · refine ⟨_, _, e1, Or.inr ⟨g, rfl, e2, cap, fun i => cur[i]?.getD undef, by omega, ⟨cur, e3, by simpa using e6, fun i hi => ?_⟩, fun j hj => ?_⟩⟩
    · show cur[i]? = some (cur[i]?.getD undef)
      rw [Array.getElem?_eq_getElem (by omega)]
      rfl
    · have h1 : (cur.toList.take (l.length * 1))[j]? = (numsV l)[j]? := by rw [e7]
      rw [List.getElem?_take, if_pos (by omega), Array.getElem?_toList] at h1
      show cur[j]?.getD undef = _
      rw [h1]
      simp [numsV, nls, hj]
theorem pmarkLs {B N c : Nat} {a : Option Addr} {f : Nat → Int} (w : World) (h : LsOwn B N a c f w) (hn : N ≤ 1048576) :
    Calls Try.prog 30 #[.slice a N c, .int .i64 1] w fun e w' => e = .returned (.int .i64 ((1 + N : Nat) : Int)) ∧ LsOwn B N a c (mk1 1) w' ∧ (∀ k, k < w.heap.size → a ≠ some ⟨k, 0, none⟩ → w'.heap[k]? = w.heap[k]?) ∧ w'.os = w.os ∧ w'.tape = w.tape ∧ w'.output = w.output ∧ w.heap.size ≤ w'.heap.size := by
  rcases h with ⟨rfl, rfl, rfl⟩ | ⟨g, rfl, h1, h2⟩
  · refine (nmarkInt64S_nil 1 w).mono ?_
    rintro e w' ⟨rfl, rfl⟩
    exact ⟨rfl, Or.inl ⟨rfl, rfl, rfl⟩, fun _ _ _ => rfl, rfl, rfl, rfl, Nat.le_refl _⟩
  · refine (nmarkInt64S_any g N c 1 f w h2 hn (by omega)).mono ?_
    rintro e w' ⟨rfl, hm, ho⟩
    exact ⟨rfl, Or.inr ⟨g, rfl, h1, hm⟩, fun k hk hne => ho.block k hk (fun e => hne (by rw [e])), ho.os, ho.tape, ho.output, ho.size⟩
theorem pheldLs {B N c : Nat} {a : Option Addr} (w : World) (h : LsOwn B N a c (mk1 1) w) (hn : N ≤ 1048576) :
    Calls Try.prog 31 #[.slice a N c, .int .i64 1] w fun e w' => e = .returned (.int .i64 ((1 + N : Nat) : Int)) ∧ w' = w := by
  rcases h with ⟨rfl, rfl, rfl⟩ | ⟨g, rfl, h1, h2⟩
  · exact nheldInt64S_nil 1 w
  · exact nheldInt64S_any g N c 1 w h2 hn (by omega)
/-- What lasts in this law: the model's list below X, the program's from B on, the second argument. -/
structure LsP (w : World) (X B N : Nat) (a0 : Option Addr) (c0 : Nat) (b : Option Addr) (c : Nat) (f g : Nat → Int) (gx m : Nat) (h : Nat → Int) (W : World) : Prop where
  l0 : LsOwn w.heap.size N a0 c0 f W
  lo : ∀ k, a0 = some ⟨k, 0, none⟩ → k < X
  l1 : LsOwn B N b c g W
  x : IsBlk 2 gx m h W
theorem LsP.below {w : World} {X B N : Nat} {a0 : Option Addr} {c0 : Nat} {b : Option Addr} {c : Nat} {f g : Nat → Int} {gx m : Nat} {h : Nat → Int} : Lasts (LsP w X B N a0 c0 b c f g gx m h) := fun _ _ hb h => ⟨h.l0.below hb, h.lo, h.l1.below hb, h.x.below hb⟩
theorem LsP.keep {w : World} {X B N : Nat} {a0 : Option Addr} {c0 : Nat} {b : Option Addr} {c : Nat} {f g g' : Nat → Int} {gx m : Nat} {h h' : Nat → Int} {W W' : World} (p : LsP w X B N a0 c0 b c f g gx m h W) (h0 : ∀ k, w.heap.size ≤ k → k < X → k < W.heap.size → W'.heap[k]? = W.heap[k]?) (h1 : LsOwn B N b c g' W') (h2 : IsBlk 2 gx m h' W') : LsP w X B N a0 c0 b c f g' gx m h' W' := by
  refine ⟨?_, p.lo, h1, h2⟩
  rcases p.l0 with k | ⟨g, e, k1, k2⟩
  · exact Or.inl k
  · exact Or.inr ⟨g, e, k1, k2.block (h0 g k1 (p.lo g e) k2.lt)⟩
set_option maxRecDepth 100000 in
set_option maxHeartbeats 4000000 in
theorem fnExactDryPlaces_law (w : World) (n : Pl.Plan) (la : Option Addr) (lk : Nat) (fa : Option Addr) (fk : Nat) (wa : Option Addr) (wk : Nat) (h : PlIn n la fa wa w) (hl : PlLens n) (a : Option Addr) (N cap : Nat) (f : Nat → Int) (hk : IsIn a N f w) (hN : N ≤ 9223372036854775807) :
    Calls Try.prog 6 #[plV n la lk fa fk wa wk, .slice a N cap] w fun e w' => e = .returned (.bool true) ∧ Below w.heap.size w w' := by
  have H := Lib.hid h
  have HK := Lib.hid hk
  obtain ⟨W, hW⟩ : ∃ W, W = w.alloc (.cells #[.slice la n.rn lk, .slice fa n.sn fk, .slice wa n.hn wk] 41) := ⟨_, rfl⟩
  have R0 : Hid (W.rowIs w.heap.size 41 3 (rowN (plL n la lk fa fk wa wk))) := by rw [hW]; exact rowN_alloc w _ _
  have B0 : Hid (Below w.heap.size w W) := by rw [hW]; exact nbel_alloc _ _
  have HW := Lib.hid hW
  clear h hW hk
  by_cases hbig : (1048576 : Int) < (N : Int)
  · go_enter Try.func6, Try.ntmps6
    go_wp2_with fail
    rw [← HW.out]
    go_ret
    exact ⟨rfl, B0.out⟩
  have HNS : Hid (N ≤ 1048576) := by show N ≤ 1048576; omega
  go_enter Try.func6, Try.ntmps6
  go_wp2_with fail
  rw [← HW.out]
  refine (szPlan_any n la lk fa fk wa wk _ hl.1 hl.2.1 hl.2.2).mono ?_
  rintro e w1 ⟨⟨z, rfl, hz⟩, hb⟩
  have R1 := Lib.hid (nrow_below R0.out hb)
  have B1 : Hid (Below w.heap.size w w1) := B0.out.trans (hb.mono B0.out.size)
  clear hb R0 B0
  rcases hz with hz | ⟨hz, hs⟩
  · go_wp2_with fail
    go_ret
    exact ⟨rfl, B1.out⟩
  have HS := Lib.hid hs
  have hz0 : ¬ z < 0 := by omega
  clear hs hz
  obtain ⟨⟨r0, r1, r2⟩, _⟩ := rowN3 R1.out
  go_wp2_with fail
  refine (toPlan_any n la lk fa fk wa wk _ (H.out.below B1.out) HS.out).mono ?_
  rintro e w2 ⟨⟨gl, gf, gw, rfl, hk⟩, hb⟩
  have R2 := Lib.hid (nrow_below R1.out hb)
  have B2 : Hid (Below w.heap.size w w2) := B1.out.trans (hb.mono B1.out.size)
  have K2 := Lib.hid hk
  clear hb hk R1 B1 r0 r1 r2
  go_wp2_with fail
  refine (ntoInt64S_any a N cap f _ (HK.out.below B2.out) HNS.out).mono ?_
  rintro e w2' ⟨⟨rfl, hk⟩, hb⟩
  have R2' := Lib.hid (nrow_below R2.out hb)
  have B2' : Hid (Below w.heap.size w w2') := B2.out.trans (hb.mono B2.out.size)
  have K2' := Lib.hid (K2.out.below hb)
  have X2 := Lib.hid hk
  clear hb hk R2 B2 K2
  go_wp2_with fail
  refine (specDry_any n _ _ _ _ _ _ _ N N f _ K2'.out.at_ HS.out (X2.out).at_ HNS.out).mono ?_
  rintro e w3 ⟨⟨v0, rfl, hO⟩, hb⟩
  obtain ⟨a0, c0, rfl, hL⟩ := ls_own hO
  have hdl := dry_len (m := N) (f := f) HS.out.2.2
  obtain ⟨l, hbe⟩ : ∃ l, l = Pl.dry n N f := ⟨_, rfl⟩
  have HBE := Lib.hid hbe
  rw [← hbe] at hdl hL ⊢
  have R3 := Lib.hid (nrow_below R2'.out hb)
  have B3 : Hid (Below w.heap.size w w3) := B2'.out.trans (hb.mono B2'.out.size)
  have L3 : Hid (LsOwn w.heap.size l.length a0 c0 (nls l) w3) := hL.low B2'.out.size
  have LO : Hid (∀ k, a0 = some ⟨k, 0, none⟩ → k < w3.heap.size) := fun k e => (hL.lt e).2
  have HDL := Lib.hid hdl
  clear hbe hb R2' B2' K2' X2 hO hL hdl
  obtain ⟨⟨r0, r1, r2⟩, _⟩ := rowN3 R3.out
  go_wp2_with fail
  refine (toPlan_any n la lk fa fk wa wk _ (H.out.below B3.out) HS.out).mono ?_
  rintro e w4 ⟨⟨gl2, gf2, gw2, rfl, hk⟩, hb⟩
  have R4 := Lib.hid (nrow_below R3.out hb)
  have B4 : Hid (Below w.heap.size w w4) := B3.out.trans (hb.mono B3.out.size)
  have K4 := Lib.hid hk
  have L4 := Lib.hid (L3.out.below hb)
  have X34 : Hid (w3.heap.size ≤ w4.heap.size ∧ w.heap.size < w3.heap.size) := ⟨hb.size, R3.out.lt⟩
  clear hb hk R3 B3 r0 r1 r2 L3
  obtain ⟨W4, hW4⟩ : ∃ W4, W4 = w4.alloc (.cells #[.slice (some ⟨gl2, 0, none⟩) n.rn n.rn, .slice (some ⟨gf2, 0, none⟩) n.sn n.sn, .slice (some ⟨gw2, 0, none⟩) n.hn n.hn] 26) := ⟨_, rfl⟩
  have Q4 : Hid (W4.rowIs w4.heap.size 26 3 (rowN (plL n (some ⟨gl2, 0, none⟩) n.rn (some ⟨gf2, 0, none⟩) n.sn (some ⟨gw2, 0, none⟩) n.hn))) := by rw [hW4]; exact rowN_alloc w4 _ _
  have R5 : Hid (W4.rowIs w.heap.size 41 3 (rowN (plL n la lk fa fk wa wk))) := by rw [hW4]; exact nrow_below R4.out (nbel_alloc _ _)
  have B5 : Hid (Below w.heap.size w W4) := by rw [hW4]; exact B4.out.alloc B4.out.size _
  have K5 : Hid (PlBlk n w3.heap.size gl2 gf2 gw2 W4) := by rw [hW4]; exact K4.out.below (nbel_alloc _ _)
  have L5 : Hid (LsOwn w.heap.size l.length a0 c0 (nls l) W4) := by rw [hW4]; exact L4.out.below (nbel_alloc _ _)
  have X45 : Hid (w4.heap.size < W4.heap.size) := Q4.out.lt
  have HW4 := Lib.hid hW4
  clear hW4 R4 B4 K4 L4
  go_wp2_with fail
  rw [← HW4.out]
  refine (ntoInt64S_any a N cap f _ (HK.out.below B5.out) HNS.out).mono ?_
  rintro e w5 ⟨⟨rfl, hk⟩, hb⟩
  have S5 : Hid (PL w n la lk fa fk wa wk w4.heap.size w3.heap.size gl2 gf2 gw2 (fun V => IsBlk 2 W4.heap.size N f V) w5) := ⟨nrow_below R5.out hb, nrow_below Q4.out hb, K5.out.below hb, B5.out.trans (hb.mono B5.out.size), hk⟩
  have hlast : Lasts (fun V => IsBlk 2 W4.heap.size N f V) := fun _ _ hb h => IsBlk.below h hb
  have KB : Hid (gl2 < W4.heap.size ∧ gf2 < W4.heap.size ∧ gw2 < W4.heap.size) := ⟨K5.out.l.lt, K5.out.f.lt, K5.out.w.lt⟩
  have L6 := Lib.hid (L5.out.below hb)
  have X56 : Hid (W4.heap.size < w5.heap.size) := hk.lt
  have HLAST := Lib.hid hlast
  clear hb hk R5 B5 K5 Q4 hlast L5
  obtain ⟨⟨r0, r1, r2⟩, _⟩ := rowN3 S5.out.rx
  go_wp2_with fail
  refine (implDry_any n _ _ _ _ _ _ _ N N f _ S5.out.kx.at_ HS.out (S5.out.p).at_ HNS.out (by simp)).mono ?_
  rintro e w6 ⟨⟨v1, rfl, hO⟩, hb⟩
  rw [← HBE.out] at hO
  obtain ⟨b, c, rfl, hL⟩ := ls_own hO
  have S := Lib.hid (S5.out.below HLAST.out hb)
  have S6 : Hid (PL w n la lk fa fk wa wk w4.heap.size w3.heap.size gl2 gf2 gw2 (LsP w w3.heap.size w5.heap.size l.length a0 c0 b c (nls l) (nls l) W4.heap.size N f) w6) := ⟨S.out.ra, S.out.rx, S.out.kx, S.out.old, ⟨L6.out.below hb, LO.out, hL, S.out.p⟩⟩
  clear hb S5 S r0 r1 r2 L6 LO hO hL HLAST HW4
  generalize w5.heap.size = Y at *
  generalize W4.heap.size = X5 at *
  generalize w4.heap.size = X4 at *
  generalize w3.heap.size = X at *
  go_wp2_with fail
  refine (neqInt64S_same _ _ _ _ _ (nls l) _ S6.out.p.l1.at_ S6.out.p.l0.at_ HDL.out).mono ?_
  rintro e w6b ⟨rfl, hb⟩
  have S7 := Lib.hid (S6.out.below LsP.below hb)
  clear hb S6
  go_wp2_with fail
  refine wp_region_held_drew (S := PL w n la lk fa fk wa wk X4 X gl2 gf2 gw2 (LsP w X Y l.length a0 c0 b c (nls l) (nls l) X5 N f)) (by kernel_rfl) (S7.out.below LsP.below (Below.refl _ _).drew) (fun hHeld => ?_)
  clear S7
  refine take_do (i := 0) (v := (plV n (some ⟨gl2, 0, none⟩) n.rn (some ⟨gf2, 0, none⟩) n.sn (some ⟨gw2, 0, none⟩) n.hn)) rfl (by kernel_rfl) (by kernel_rfl) (by kernel_rfl) (fun _ _ _ h => h) (by rfl) ?_ (by assumption) ?_
  · intro w hSw
    obtain ⟨⟨a0, a1, a2⟩, _⟩ := rowN3 hSw.rx
    go_simp
  simp only [Act.put, List.setIfInBounds_toArray, List.set_cons_zero, List.set_cons_succ]
  refine take_do (i := 1) (v := (plV n la lk fa fk wa wk)) rfl (by kernel_rfl) (by kernel_rfl) (by kernel_rfl) (fun _ _ _ h => h) (by rfl) ?_ (by assumption) ?_
  · intro w hSw
    obtain ⟨⟨a0, a1, a2⟩, _⟩ := rowN3 hSw.ra
    go_simp
  simp only [Act.put, List.setIfInBounds_toArray, List.set_cons_zero, List.set_cons_succ]
  refine take_call (i := 2) rfl (by kernel_rfl) (fun K2 hK => ?_)
  go_simp
  refine (toPlan_any n la lk fa fk wa wk _ (H.out.below hHeld.old) HS.out).mono ?_
  rintro e w7 ⟨⟨gl3, gf3, gw3, rfl, hk6⟩, hb6⟩
  have HK6 := Lib.hid hk6
  go_wp2_with fail
  refine hK.out _ _ (hHeld.below LsP.below hb6) (fun hHeld2 => ?_)
  clear hK hHeld hb6 hk6
  refine take_call (i := 3) rfl (by kernel_rfl) (fun K2 hK => ?_)
  go_simp
  refine (eqPlan_same n _ _ _ _ _ _ _ _ _ _ _ _ _ hHeld2.kx.at_ HK6.out.at_ HS.out).mono ?_
  rintro e w8 ⟨rfl, hb7⟩
  go_wp2_with fail
  refine hK.out _ _ (hHeld2.below LsP.below hb7) (fun hHeld => ?_)
  clear hK hHeld2 hb7
  refine take_do (i := 4) (v := (.bool false)) rfl (by kernel_rfl) (by kernel_rfl) (by kernel_rfl) (fun _ _ _ h => h) (by rfl) ?_ (by assumption) ?_
  · intro w hSw
    go_simp
  simp only [Act.put, List.setIfInBounds_toArray, List.set_cons_zero, List.set_cons_succ]
  refine wpAnyH_done (by kernel_rfl) ?_ _
  have S8 := Lib.hid hHeld
  clear hHeld
  go_wp2_with fail
  refine (ntoInt64S_any a N cap f _ (HK.out.below S8.out.old) HNS.out).mono ?_
  rintro e w9 ⟨⟨rfl, hk⟩, hb⟩
  have S9 := Lib.hid (S8.out.below LsP.below hb)
  have X9 := Lib.hid hk
  clear hb hk S8
  go_wp2_with fail
  refine (neqInt64S_same _ _ N N N f _ S9.out.p.x.at_ X9.out.at_ HNS.out).mono ?_
  rintro e w10 ⟨rfl, hb⟩
  have S10 := Lib.hid (S9.out.below LsP.below hb)
  clear hb S9 X9 HK6
  obtain ⟨⟨r0, r1, r2⟩, _⟩ := rowN3 S10.out.rx
  go_wp2_with fail
  refine (markPlan_any n X gl2 gf2 gw2 n.rn n.sn n.hn _ S10.out.kx HS.out).mono ?_
  rintro e w11 ⟨⟨M, rfl, hM⟩, ho⟩
  clear r0 r1 r2
  have x1 := X34.out
  have x2 := X45.out
  have x3 := KB.out
  have x4 := S10.out.kx.lo
  have x5 := X56.out
  have P11 : Hid (LsP w X Y l.length a0 c0 b c (nls l) (nls l) X5 N f w11) := by
    have p := S10.out.p
    exact p.keep (fun k _ h2 h3 => ho.block k h3 (by omega) (by omega) (by omega)) (p.l1.same (fun k h1 h2 => ho.block k h2 (by omega) (by omega) (by omega))) (p.x.block (ho.block _ p.x.lt (by omega) (by omega) (by omega)))
  have R11 : Hid (w11.rowIs w.heap.size 41 3 (rowN (plL n la lk fa fk wa wk))) := S10.out.ra.of_block (ho.block _ S10.out.ra.lt (by omega) (by omega) (by omega))
  have B11 : Hid (Below w.heap.size w w11) := S10.out.old.trans ⟨ho.os, ho.tape, ho.output, ho.size, fun k hk => ho.block k (by have := S10.out.old.size; omega) (by omega) (by omega) (by omega)⟩
  clear ho S10 x3 x4 KB
  go_wp2_with fail
  refine (nmarkInt64S_any X5 N N M f _ P11.out.x HNS.out hM).mono ?_
  rintro e w12 ⟨rfl, hxm, ho⟩
  have P12 : Hid (LsP w X Y l.length a0 c0 b c (nls l) (nls l) X5 N (mk1 M) w12) := by
    have p := P11.out
    exact p.keep (fun k _ h2 h3 => ho.block k h3 (by omega)) (p.l1.same (fun k h1 h2 => ho.block k h2 (by omega))) hxm
  have R12 : Hid (w12.rowIs w.heap.size 41 3 (rowN (plL n la lk fa fk wa wk))) := R11.out.of_block (ho.block _ R11.out.lt (by omega))
  have B12 : Hid (Below w.heap.size w w12) := B11.out.trans ⟨ho.os, ho.tape, ho.output, ho.size, fun k hk => ho.block k (by have := B11.out.size; omega) (by omega)⟩
  clear ho P11 R11 B11 hxm
  obtain ⟨M2, hM2⟩ : ∃ M2 : Nat, M2 = M + N := ⟨_, rfl⟩
  rw [← hM2]
  have hM0 : ¬ (M2 : Int) < 0 := by omega
  go_wp2_with fail
  refine (neqInt64S_same _ _ _ _ _ (nls l) _ P12.out.l1.at_ P12.out.l0.at_ HDL.out).mono ?_
  rintro e w13 ⟨rfl, hb⟩
  have P13 := Lib.hid (LsP.below _ _ hb P12.out)
  have R13 := Lib.hid (nrow_below R12.out hb)
  have B13 : Hid (Below w.heap.size w w13) := B12.out.trans (hb.mono B12.out.size)
  clear hb P12 R12 B12 hM2
  go_wp2_with fail
  refine (pmarkLs _ P13.out.l1 HDL.out).mono ?_
  rintro e w14 ⟨rfl, hmk, hc, hc2⟩
  have hown : ∀ k, b = some ⟨k, 0, none⟩ → Y ≤ k := fun k e => (P13.out.l1.lt e).1
  have P14 : Hid (LsP w X Y l.length a0 c0 b c (nls l) (mk1 1) X5 N (mk1 M) w14) := by
    have p := P13.out
    exact p.keep (fun k _ h2 h3 => hc k h3 (fun e => by have := hown k e; omega)) hmk (p.x.block (hc _ p.x.lt (fun e => by have := hown _ e; omega)))
  have R14 : Hid (w14.rowIs w.heap.size 41 3 (rowN (plL n la lk fa fk wa wk))) := R13.out.of_block (hc _ R13.out.lt (fun e => by have := hown _ e; omega))
  have B14 : Hid (Below w.heap.size w w14) := B13.out.trans ⟨hc2.1, hc2.2.1, hc2.2.2.1, hc2.2.2.2, fun k hk => hc k (by have := B13.out.size; omega) (fun e => by have := hown k e; omega)⟩
  clear hmk hc hc2 hown P13 R13 B13 x1 x2 x5
  obtain ⟨Q, hQ⟩ : ∃ Q : Nat, Q = 1 + l.length := ⟨_, rfl⟩
  have HQ : Hid (1 + l.length = Q) := hQ.symm
  rw [← hQ]
  have hQ0 : ¬ (Q : Int) < 0 := by omega
  clear hQ
  go_wp2_with fail
  refine (pheldLs _ P14.out.l1 HDL.out).mono ?_
  rintro e w15 ⟨rfl, rfl⟩
  rw [HQ.out]
  obtain ⟨⟨r0, r1, r2⟩, _⟩ := rowN3 R14.out
  go_wp2_with fail
  refine (toPlan_any n la lk fa fk wa wk _ (H.out.below B14.out) HS.out).mono ?_
  rintro e w16 ⟨⟨gl4, gf4, gw4, rfl, hk⟩, hb⟩
  have P16 := Lib.hid (LsP.below _ _ hb P14.out)
  have B16 : Hid (Below w.heap.size w w16) := B14.out.trans (hb.mono B14.out.size)
  have K16 := Lib.hid hk
  clear hb hk P14 B14 R14 r0 r1 r2
  go_wp2_with fail
  refine (ntoInt64S_any a N cap f _ (HK.out.below B16.out) HNS.out).mono ?_
  rintro e w17 ⟨⟨rfl, hk⟩, hb⟩
  have P17 := Lib.hid (LsP.below _ _ hb P16.out)
  have B17 : Hid (Below w.heap.size w w17) := B16.out.trans (hb.mono B16.out.size)
  have K17 := Lib.hid (K16.out.below hb)
  have X17 := Lib.hid hk
  clear hb hk P16 B16 K16
  go_wp2_with fail
  refine (implDry_any n _ _ _ _ _ _ _ N N f _ K17.out.at_ HS.out (X17.out).at_ HNS.out (by simp)).mono ?_
  rintro e w18 ⟨⟨v1, rfl, hO⟩, hb⟩
  rw [← HBE.out] at hO
  obtain ⟨b2, c2, rfl, hL⟩ := ls_own hO
  have P18 := Lib.hid (LsP.below _ _ hb P17.out)
  have B18 : Hid (Below w.heap.size w w18) := B17.out.trans (hb.mono B17.out.size)
  have G18 := Lib.hid hL
  clear hb hL hO P17 B17 K17 X17
  go_wp2_with fail
  refine (neqInt64S_same _ _ _ _ _ (nls l) _ G18.out.at_ P18.out.l0.at_ HDL.out).mono ?_
  rintro e w19 ⟨rfl, hb⟩
  have P19 := Lib.hid (LsP.below _ _ hb P18.out)
  have B19 : Hid (Below w.heap.size w w19) := B18.out.trans (hb.mono B18.out.size)
  clear hb P18 B18 G18
  go_wp2_with fail
  refine (pheldLs _ P19.out.l1 HDL.out).mono ?_
  rintro e w20 ⟨rfl, rfl⟩
  rw [HQ.out]
  go_wp2_with fail
  go_ret
  exact ⟨rfl, B19.out⟩
end Go.Proofs.Ytipmjobhegpdgaa
