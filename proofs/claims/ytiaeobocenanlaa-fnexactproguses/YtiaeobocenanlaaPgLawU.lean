/-
  The law FnExactProgUses.
-/
import Derived.Test.YtiaeobocenanlaaPgLa
import Derived.Test.YtiaeobocenanlaaPgUs
namespace Go.Proofs.Ytiaeobocenanlaa
open Go.RowKit Go.Deep

/-- A list that an answer is: its own memory, or none. -/
def LsOwn (B N : Nat) (a : Option Addr) (c : Nat) (f : Nat → Int) (W : World) : Prop := (a = none ∧ N = 0 ∧ c = 0) ∨ ∃ g, a = some ⟨g, 0, none⟩ ∧ B ≤ g ∧ IsBlk 2 g N f W
theorem LsOwn.same {B N c : Nat} {a : Option Addr} {f : Nat → Int} {W W' : World} (h : LsOwn B N a c f W) (hb : ∀ k, B ≤ k → k < W.heap.size → W'.heap[k]? = W.heap[k]?) : LsOwn B N a c f W' := by
  rcases h with h | ⟨g, e, h1, h2⟩
  · exact Or.inl h
  · exact Or.inr ⟨g, e, h1, h2.block (hb g h1 h2.lt)⟩
theorem LsOwn.below {B N c : Nat} {a : Option Addr} {f : Nat → Int} {W W' : World} (h : LsOwn B N a c f W) (hb : Below W.heap.size W W') : LsOwn B N a c f W' := h.same (fun k _ hk => hb.block k hk)
theorem LsOwn.at_ {B N c : Nat} {a : Option Addr} {f : Nat → Int} {W : World} (h : LsOwn B N a c f W) : IsAt a N f W := by
  rcases h with h | ⟨g, e, h1, h2⟩
  · exact Or.inl h.2.1
  · rw [e]; exact h2.at_
theorem LsOwn.low {B B' N c : Nat} {a : Option Addr} {f : Nat → Int} {W : World} (h : LsOwn B N a c f W) (hb : B' ≤ B) : LsOwn B' N a c f W := by
  rcases h with h | ⟨g, e, h1, h2⟩
  · exact Or.inl h
  · exact Or.inr ⟨g, e, Nat.le_trans hb h1, h2⟩
theorem LsOwn.lt {B N c : Nat} {a : Option Addr} {f : Nat → Int} {W : World} (h : LsOwn B N a c f W) {k : Nat} (e : a = some ⟨k, 0, none⟩) : B ≤ k ∧ k < W.heap.size := by
  rcases h with h | ⟨g, e', h1, h2⟩
  · rw [h.1] at e; cases e
  · rw [e'] at e; cases e; exact ⟨h1, h2.lt⟩
def nls (l : List Nat) (j : Nat) : Int := ((l.getD j 0 : Nat) : Int)
theorem ls_own {B : Nat} {v : Value} {l : List Nat} {W : World} (h : W.ownsRow B 2 1 v l.length (ugV l)) : ∃ a c, v = .slice a l.length c ∧ LsOwn B l.length a c (nls l) W := by
  rcases h.2 with h2 | ⟨g, cap, cur, e1, e2, e3, e4, e5, e6, e7⟩
  · exact ⟨none, 0, by rw [h2.1, h2.2], Or.inl ⟨rfl, h2.2, rfl⟩⟩
  · refine ⟨_, _, e1, Or.inr ⟨g, rfl, e2, cap, fun i => cur[i]?.getD undef, by omega, ⟨cur, e3, by simpa using e6, fun i hi => ?_⟩, fun j hj => ?_⟩⟩
    · show cur[i]? = some (cur[i]?.getD undef)
      rw [Array.getElem?_eq_getElem (by omega)]
      rfl
    · have h1 : (cur.toList.take (l.length * 1))[j]? = (ugV l)[j]? := by rw [e7]
      rw [List.getElem?_take, if_pos (by omega), Array.getElem?_toList] at h1
      show cur[j]?.getD undef = _
      rw [h1]
      simp [ugV, nls, hj]
theorem pmarkLs {B N c : Nat} {a : Option Addr} {f : Nat → Int} (w : World) (h : LsOwn B N a c f w) (hn : N ≤ 1048576) :
    Calls Try.prog 17 #[.slice a N c, .int .i64 1] w fun e w' => e = .returned (.int .i64 ((1 + N : Nat) : Int)) ∧ LsOwn B N a c (mk1 1) w' ∧ (∀ k, k < w.heap.size → a ≠ some ⟨k, 0, none⟩ → w'.heap[k]? = w.heap[k]?) ∧ w'.os = w.os ∧ w'.tape = w.tape ∧ w'.output = w.output ∧ w.heap.size ≤ w'.heap.size := by
  rcases h with ⟨rfl, rfl, rfl⟩ | ⟨g, rfl, h1, h2⟩
  · refine (nmarkInt64S_nil 1 w).mono ?_
    rintro e w' ⟨rfl, rfl⟩
    exact ⟨rfl, Or.inl ⟨rfl, rfl, rfl⟩, fun _ _ _ => rfl, rfl, rfl, rfl, Nat.le_refl _⟩
  · refine (nmarkInt64S_any g N c 1 f w h2 hn (by omega)).mono ?_
    rintro e w' ⟨rfl, hm, ho⟩
    exact ⟨rfl, Or.inr ⟨g, rfl, h1, hm⟩, fun k hk hne => ho.block k hk (fun e => hne (by rw [e])), ho.os, ho.tape, ho.output, ho.size⟩
theorem pheldLs {B N c : Nat} {a : Option Addr} (w : World) (h : LsOwn B N a c (mk1 1) w) (hn : N ≤ 1048576) :
    Calls Try.prog 18 #[.slice a N c, .int .i64 1] w fun e w' => e = .returned (.int .i64 ((1 + N : Nat) : Int)) ∧ w' = w := by
  rcases h with ⟨rfl, rfl, rfl⟩ | ⟨g, rfl, h1, h2⟩
  · exact nheldInt64S_nil 1 w
  · exact nheldInt64S_any g N c 1 w h2 hn (by omega)
/-- What lasts in this law: the model's list below X, the program's from B on, the second argument. -/
structure LsP (w : World) (X B N : Nat) (a0 : Option Addr) (c0 : Nat) (b : Option Addr) (c : Nat) (f g : Nat → Int) (W : World) : Prop where
  l0 : LsOwn w.heap.size N a0 c0 f W
  lo : ∀ k, a0 = some ⟨k, 0, none⟩ → k < X
  l1 : LsOwn B N b c g W
theorem LsP.below {w : World} {X B N : Nat} {a0 : Option Addr} {c0 : Nat} {b : Option Addr} {c : Nat} {f g : Nat → Int} : LastsG (LsP w X B N a0 c0 b c f g) := fun _ _ hb h => ⟨h.l0.below hb, h.lo, h.l1.below hb⟩
theorem LsP.keep {w : World} {X B N : Nat} {a0 : Option Addr} {c0 : Nat} {b : Option Addr} {c : Nat} {f g g' : Nat → Int} {W W' : World} (p : LsP w X B N a0 c0 b c f g W) (h0 : ∀ k, w.heap.size ≤ k → k < X → k < W.heap.size → W'.heap[k]? = W.heap[k]?) (h1 : LsOwn B N b c g' W') : LsP w X B N a0 c0 b c f g' W' := by
  refine ⟨?_, p.lo, h1⟩
  rcases p.l0 with k | ⟨g, e, k1, k2⟩
  · exact Or.inl k
  · exact Or.inr ⟨g, e, k1, k2.block (h0 g k1 (p.lo g e) k2.lt)⟩
set_option maxRecDepth 100000 in
set_option maxHeartbeats 4000000 in
theorem progUses_law (w : World) (n : Pg.Prog) (la : Option Addr) (lk : Nat) (fa : Option Addr) (fk : Nat) (wa : Option Addr) (wk : Nat) (h : PgIn n la fa wa w) (hl : PgLens n) (z0 : Int) :
    Calls Try.prog 5 #[pgV n la lk fa fk wa wk, .int .i64 z0] w fun e w' => e = .returned (.bool true) ∧ Below w.heap.size w w' := by
  have H := Lib.hid h
  obtain ⟨W, hW⟩ : ∃ W, W = w.alloc (.cells #[.slice la n.bn lk, .slice fa n.on fk, .slice wa n.nn wk] 26) := ⟨_, rfl⟩
  have R0 : Hid (W.rowIs w.heap.size 26 3 (rowN (pgL n la lk fa fk wa wk))) := by rw [hW]; exact rowN_alloc w _ _
  have B0 : Hid (Below w.heap.size w W) := by rw [hW]; exact nbel_alloc _ _
  have HW := Lib.hid hW
  clear h hW
  go_enter Try.func5, Try.ntmps5
  go_wp2_with fail
  rw [← HW.out]
  refine (szProg_any n la lk fa fk wa wk _ (H.out.below B0.out) hl).mono ?_
  rintro e w1 ⟨⟨z, rfl, hz⟩, hb⟩
  have R1 := Lib.hid (nrow_below R0.out hb)
  have B1 : Hid (Below w.heap.size w w1) := B0.out.trans (hb.mono B0.out.size)
  clear hb R0 B0
  rcases hz with hz | ⟨hz, hs⟩
  · go_wp2_with fail
    go_ret
    exact ⟨rfl, B1.out⟩
  have HS := Lib.hid hs
  have hz0 : ¬ z < 0 := by omega
  clear hs hz
  obtain ⟨⟨r0, r1, r2⟩, _⟩ := rowN3 R1.out
  go_wp2_with fail
  refine (toProg_any n la lk fa fk wa wk _ (H.out.below B1.out) HS.out).mono ?_
  rintro e w2 ⟨⟨gl, gf, gw, rfl, hk⟩, hb⟩
  have R2 := Lib.hid (nrow_below R1.out hb)
  have B2 : Hid (Below w.heap.size w w2) := B1.out.trans (hb.mono B1.out.size)
  have K2 := Lib.hid hk
  clear hb hk R1 B1 r0 r1 r2
  go_wp2_with fail
  refine (specUses_any n _ _ _ _ _ _ z0 _ K2.out.at_ HS.out).mono ?_
  rintro e w3 ⟨⟨v0, rfl, hO⟩, hb⟩
  obtain ⟨a0, c0, rfl, hL⟩ := ls_own hO
  have hdl := Pg.uses_len (p := n) (z := z0) HS.out.1.1
  obtain ⟨l, hbe⟩ : ∃ l, l = Pg.uses n z0 := ⟨_, rfl⟩
  have HBE := Lib.hid hbe
  rw [← hbe] at hdl hL ⊢
  have R3 := Lib.hid (nrow_below R2.out hb)
  have B3 : Hid (Below w.heap.size w w3) := B2.out.trans (hb.mono B2.out.size)
  have L3 : Hid (LsOwn w.heap.size l.length a0 c0 (nls l) w3) := hL.low B2.out.size
  have LO : Hid (∀ k, a0 = some ⟨k, 0, none⟩ → k < w3.heap.size) := fun k e => (hL.lt e).2
  have HDL := Lib.hid hdl
  clear hbe hb R2 B2 K2 hO hL hdl
  obtain ⟨⟨r0, r1, r2⟩, _⟩ := rowN3 R3.out
  go_wp2_with fail
  refine (toProg_any n la lk fa fk wa wk _ (H.out.below B3.out) HS.out).mono ?_
  rintro e w4 ⟨⟨gl2, gf2, gw2, rfl, hk⟩, hb⟩
  have R4 := Lib.hid (nrow_below R3.out hb)
  have B4 : Hid (Below w.heap.size w w4) := B3.out.trans (hb.mono B3.out.size)
  have K4 := Lib.hid hk
  have L4 := Lib.hid (L3.out.below hb)
  have X34 : Hid (w3.heap.size ≤ w4.heap.size ∧ w.heap.size < w3.heap.size) := ⟨hb.size, R3.out.lt⟩
  clear hb hk R3 B3 r0 r1 r2 L3
  obtain ⟨W4, hW4⟩ : ∃ W4, W4 = w4.alloc (.cells #[.slice (some ⟨gl2, 0, none⟩) n.bn n.bn, .slice (some ⟨gf2, 0, none⟩) n.on n.on, .slice (some ⟨gw2, 0, none⟩) n.nn n.nn] 32) := ⟨_, rfl⟩
  have Q4 : Hid (W4.rowIs w4.heap.size 32 3 (rowN (pgL n (some ⟨gl2, 0, none⟩) n.bn (some ⟨gf2, 0, none⟩) n.on (some ⟨gw2, 0, none⟩) n.nn))) := by rw [hW4]; exact rowN_alloc w4 _ _
  have R5 : Hid (W4.rowIs w.heap.size 26 3 (rowN (pgL n la lk fa fk wa wk))) := by rw [hW4]; exact nrow_below R4.out (nbel_alloc _ _)
  have B5 : Hid (Below w.heap.size w W4) := by rw [hW4]; exact B4.out.alloc B4.out.size _
  have K5 : Hid (PgBlk n w3.heap.size gl2 gf2 gw2 W4) := by rw [hW4]; exact K4.out.below (nbel_alloc _ _)
  have L5 : Hid (LsOwn w.heap.size l.length a0 c0 (nls l) W4) := by rw [hW4]; exact L4.out.below (nbel_alloc _ _)
  have X45 : Hid (w4.heap.size < W4.heap.size) := Q4.out.lt
  have HW4 := Lib.hid hW4
  clear hW4 R4 B4 K4 L4
  go_wp2_with fail
  rw [← HW4.out]
  refine (implUses_any n _ _ _ _ _ _ z0 _ K5.out.at_ HS.out).mono ?_
  rintro e w6 ⟨⟨v1, rfl, hO⟩, hb⟩
  rw [← HBE.out] at hO
  obtain ⟨b, c, rfl, hL⟩ := ls_own hO
  have S6 : Hid (PGL w n la lk fa fk wa wk w4.heap.size w3.heap.size gl2 gf2 gw2 (LsP w w3.heap.size W4.heap.size l.length a0 c0 b c (nls l) (nls l)) w6) := ⟨nrow_below R5.out hb, nrow_below Q4.out hb, K5.out.below hb, B5.out.trans (hb.mono B5.out.size), ⟨L5.out.below hb, LO.out, hL⟩⟩
  have KB : Hid (gl2 < W4.heap.size ∧ gf2 < W4.heap.size ∧ gw2 < W4.heap.size) := ⟨K5.out.l.lt, K5.out.f.lt, K5.out.w.lt⟩
  clear hb R5 Q4 K5 B5 L5 LO hO hL HW4
  generalize W4.heap.size = Y at *
  generalize w4.heap.size = X4 at *
  generalize w3.heap.size = X at *
  go_wp2_with fail
  refine (neqInt64S_same _ _ _ _ _ (nls l) _ S6.out.p.l1.at_ S6.out.p.l0.at_ HDL.out).mono ?_
  rintro e w6b ⟨rfl, hb⟩
  have S7 := Lib.hid (S6.out.below LsP.below hb)
  clear hb S6
  go_wp2_with fail
  refine wp_region_held_drew (S := PGL w n la lk fa fk wa wk X4 X gl2 gf2 gw2 (LsP w X Y l.length a0 c0 b c (nls l) (nls l))) (by kernel_rfl) (S7.out.below LsP.below (Below.refl _ _).drew) (fun hHeld => ?_)
  clear S7
  refine take_do (i := 0) (v := (pgV n (some ⟨gl2, 0, none⟩) n.bn (some ⟨gf2, 0, none⟩) n.on (some ⟨gw2, 0, none⟩) n.nn)) rfl (by kernel_rfl) (by kernel_rfl) (by kernel_rfl) (fun _ _ _ h => h) (by rfl) ?_ (by assumption) ?_
  · intro w hSw
    obtain ⟨⟨a0, a1, a2⟩, _⟩ := rowN3 hSw.rx
    go_simp
  simp only [Act.put, List.setIfInBounds_toArray, List.set_cons_zero, List.set_cons_succ]
  refine take_do (i := 1) (v := (pgV n la lk fa fk wa wk)) rfl (by kernel_rfl) (by kernel_rfl) (by kernel_rfl) (fun _ _ _ h => h) (by rfl) ?_ (by assumption) ?_
  · intro w hSw
    obtain ⟨⟨a0, a1, a2⟩, _⟩ := rowN3 hSw.ra
    go_simp
  simp only [Act.put, List.setIfInBounds_toArray, List.set_cons_zero, List.set_cons_succ]
  refine take_call (i := 2) rfl (by kernel_rfl) (fun K2 hK => ?_)
  go_simp
  refine (toProg_any n la lk fa fk wa wk _ (H.out.below hHeld.old) HS.out).mono ?_
  rintro e w7 ⟨⟨gl3, gf3, gw3, rfl, hk6⟩, hb6⟩
  have HK6 := Lib.hid hk6
  go_wp2_with fail
  refine hK.out _ _ (hHeld.below LsP.below hb6) (fun hHeld2 => ?_)
  clear hK hHeld hb6 hk6
  refine take_call (i := 3) rfl (by kernel_rfl) (fun K2 hK => ?_)
  go_simp
  refine (eqProg_same n _ _ _ _ _ _ _ _ _ _ _ _ _ hHeld2.kx.at_ HK6.out.at_ HS.out).mono ?_
  rintro e w8 ⟨rfl, hb7⟩
  go_wp2_with fail
  refine hK.out _ _ (hHeld2.below LsP.below hb7) (fun hHeld => ?_)
  clear hK hHeld2 hb7
  refine take_do (i := 4) (v := (.bool false)) rfl (by kernel_rfl) (by kernel_rfl) (by kernel_rfl) (fun _ _ _ h => h) (by rfl) ?_ (by assumption) ?_
  · intro w hSw
    go_simp
  simp only [Act.put, List.setIfInBounds_toArray, List.set_cons_zero, List.set_cons_succ]
  refine wpAnyH_done (by kernel_rfl) ?_ _
  have S10 := Lib.hid hHeld
  clear hHeld HK6
  obtain ⟨⟨r0, r1, r2⟩, _⟩ := rowN3 S10.out.rx
  go_wp2_with fail
  refine (markProg_any n X gl2 gf2 gw2 n.bn n.on n.nn _ S10.out.kx HS.out).mono ?_
  rintro e w11 ⟨⟨M, rfl, hM⟩, ho⟩
  clear r0 r1 r2
  have x1 := X34.out
  have x2 := X45.out
  have x3 := KB.out
  have x4 := S10.out.kx.lo
  have P11 : Hid (LsP w X Y l.length a0 c0 b c (nls l) (nls l) w11) := by
    have p := S10.out.p
    exact p.keep (fun k _ h2 h3 => ho.block k h3 (by omega) (by omega) (by omega)) (p.l1.same (fun k h1 h2 => ho.block k h2 (by omega) (by omega) (by omega)))
  have R11 : Hid (w11.rowIs w.heap.size 26 3 (rowN (pgL n la lk fa fk wa wk))) := S10.out.ra.of_block (ho.block _ S10.out.ra.lt (by omega) (by omega) (by omega))
  have B11 : Hid (Below w.heap.size w w11) := S10.out.old.trans ⟨ho.os, ho.tape, ho.output, ho.size, fun k hk => ho.block k (by have := S10.out.old.size; omega) (by omega) (by omega) (by omega)⟩
  clear ho S10 x3 x4 KB
  have hM0 : ¬ (M : Int) < 0 := by omega
  go_wp2_with fail
  refine (neqInt64S_same _ _ _ _ _ (nls l) _ P11.out.l1.at_ P11.out.l0.at_ HDL.out).mono ?_
  rintro e w13 ⟨rfl, hb⟩
  have P13 := Lib.hid (LsP.below _ _ hb P11.out)
  have R13 := Lib.hid (nrow_below R11.out hb)
  have B13 : Hid (Below w.heap.size w w13) := B11.out.trans (hb.mono B11.out.size)
  clear hb P11 R11 B11
  go_wp2_with fail
  refine (pmarkLs _ P13.out.l1 HDL.out).mono ?_
  rintro e w14 ⟨rfl, hmk, hc, hc2⟩
  have hown : ∀ k, b = some ⟨k, 0, none⟩ → Y ≤ k := fun k e => (P13.out.l1.lt e).1
  have P14 : Hid (LsP w X Y l.length a0 c0 b c (nls l) (mk1 1) w14) := by
    have p := P13.out
    exact p.keep (fun k _ h2 h3 => hc k h3 (fun e => by have := hown k e; omega)) hmk
  have R14 : Hid (w14.rowIs w.heap.size 26 3 (rowN (pgL n la lk fa fk wa wk))) := R13.out.of_block (hc _ R13.out.lt (fun e => by have := hown _ e; omega))
  have B14 : Hid (Below w.heap.size w w14) := B13.out.trans ⟨hc2.1, hc2.2.1, hc2.2.2.1, hc2.2.2.2, fun k hk => hc k (by have := B13.out.size; omega) (fun e => by have := hown k e; omega)⟩
  clear hmk hc hc2 hown P13 R13 B13 x1 x2
  obtain ⟨Q, hQ⟩ : ∃ Q : Nat, Q = 1 + l.length := ⟨_, rfl⟩
  have HQ : Hid (1 + l.length = Q) := hQ.symm
  rw [← hQ]
  have hQ0 : ¬ (Q : Int) < 0 := by omega
  clear hQ
  go_wp2_with fail
  refine (pheldLs _ P14.out.l1 HDL.out).mono ?_
  rintro e w15 ⟨rfl, rfl⟩
  rw [HQ.out]
  obtain ⟨⟨r0, r1, r2⟩, _⟩ := rowN3 R14.out
  go_wp2_with fail
  refine (toProg_any n la lk fa fk wa wk _ (H.out.below B14.out) HS.out).mono ?_
  rintro e w16 ⟨⟨gl4, gf4, gw4, rfl, hk⟩, hb⟩
  have P16 := Lib.hid (LsP.below _ _ hb P14.out)
  have B16 : Hid (Below w.heap.size w w16) := B14.out.trans (hb.mono B14.out.size)
  have K16 := Lib.hid hk
  clear hb hk P14 B14 R14 r0 r1 r2
  go_wp2_with fail
  refine (implUses_any n _ _ _ _ _ _ z0 _ K16.out.at_ HS.out).mono ?_
  rintro e w18 ⟨⟨v1, rfl, hO⟩, hb⟩
  rw [← HBE.out] at hO
  obtain ⟨b2, c2, rfl, hL⟩ := ls_own hO
  have P18 := Lib.hid (LsP.below _ _ hb P16.out)
  have B18 : Hid (Below w.heap.size w w18) := B16.out.trans (hb.mono B16.out.size)
  have G18 := Lib.hid hL
  clear hb hL hO P16 B16 K16
  go_wp2_with fail
  refine (neqInt64S_same _ _ _ _ _ (nls l) _ G18.out.at_ P18.out.l0.at_ HDL.out).mono ?_
  rintro e w19 ⟨rfl, hb⟩
  have P19 := Lib.hid (LsP.below _ _ hb P18.out)
  have B19 : Hid (Below w.heap.size w w19) := B18.out.trans (hb.mono B18.out.size)
  clear hb P18 B18 G18
  go_wp2_with fail
  refine (pheldLs _ P19.out.l1 HDL.out).mono ?_
  rintro e w20 ⟨rfl, rfl⟩
  rw [HQ.out]
  go_wp2_with fail
  go_ret
  exact ⟨rfl, B19.out⟩
end Go.Proofs.Ytiaeobocenanlaa
