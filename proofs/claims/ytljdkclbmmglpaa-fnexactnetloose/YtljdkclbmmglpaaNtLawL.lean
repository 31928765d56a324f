/-
  The law FnExactNetLoose.
-/
import Derived.Test.YtljdkclbmmglpaaNtLs2
import Derived.Test.YtljdkclbmmglpaaNtLawR
namespace Go.Proofs.Ytljdkclbmmglpaa
open Go.RowKit Go.Deep

theorem nmarkLs {B N c : Nat} {a : Option Addr} {f : Nat → Int} (w : World) (h : LsOwn 2 1 B N a c f w) (hn : N ≤ 1048576) :
    Calls Try.prog 14 #[.slice a N c, .int .i64 1] w fun e w' => e = .returned (.int .i64 ((1 + N : Nat) : Int)) ∧ LsOwn 2 1 B N a c (mk1 1) w' ∧ ((∀ k, k < w.heap.size → a ≠ some ⟨k, 0, none⟩ → w'.heap[k]? = w.heap[k]?) ∧ w'.os = w.os ∧ w'.tape = w.tape ∧ w'.output = w.output ∧ w.heap.size ≤ w'.heap.size) := by
  rcases h with ⟨rfl, rfl, rfl⟩ | ⟨g, rfl, h1, h2⟩
  · refine (nmarkInt64S_nil 1 w).mono ?_
    rintro e w' ⟨rfl, rfl⟩
    exact ⟨rfl, Or.inl ⟨rfl, rfl, rfl⟩, fun _ _ _ => rfl, rfl, rfl, rfl, Nat.le_refl _⟩
  · rw [Nat.mul_one] at h2
    refine (nmarkInt64S_any g N c 1 f w h2 hn (by omega)).mono ?_
    rintro e w' ⟨rfl, hm, ho⟩
    exact ⟨rfl, Or.inr ⟨g, rfl, h1, by rw [Nat.mul_one]; exact hm⟩, fun k hk hne => ho.block k hk (fun e => hne (by rw [e])), ho.os, ho.tape, ho.output, ho.size⟩
theorem nheldLs {B N c : Nat} {a : Option Addr} (w : World) (h : LsOwn 2 1 B N a c (mk1 1) w) (hn : N ≤ 1048576) :
    Calls Try.prog 15 #[.slice a N c, .int .i64 1] w fun e w' => e = .returned (.int .i64 ((1 + N : Nat) : Int)) ∧ w' = w := by
  rcases h with ⟨rfl, rfl, rfl⟩ | ⟨g, rfl, h1, h2⟩
  · exact nheldInt64S_nil 1 w
  · rw [Nat.mul_one] at h2; exact nheldInt64S_any g N c 1 w h2 hn (by omega)
/-- A function that answers a net by this list, in memory of its own. -/
def AnsLs (fn : Nat) (n : Nt.Net) (l : List Int) : Prop :=
  ∀ (la : Option Addr) (lk : Nat) (fa : Option Addr) (fk : Nat) (wa : Option Addr) (wk : Nat) (w : World), NtAt n la fa wa w → Calls Try.prog fn #[ntV n la lk fa fk wa wk] w fun e w' => (∃ b c, e = .returned (.slice b l.length c) ∧ LsOwn 2 1 w.heap.size l.length b c (ils l) w') ∧ Below w.heap.size w w'
theorem ansLs_both (n : Nt.Net) (hs : NtSmall n) : ∃ l : List Int, l.length ≤ 1048576 ∧ AnsLs 10 n l ∧ AnsLs 11 n l := by
  by_cases h : Nt.Right n
  · refine ⟨Nt.loose n, by have := Nt.looseTo_len n (Nt.nn n); have := h.nn; unfold Nt.loose; omega, fun la lk fa fk wa wk w ha => ?_, fun la lk fa fk wa wk w ha => ?_⟩
    · refine (specLoose_go n la lk fa fk wa wk w ha hs h).mono ?_
      rintro e w' ⟨⟨v, rfl, ho⟩, hb⟩
      obtain ⟨a, c, rfl, h1⟩ := ls_own ho
      exact ⟨⟨a, c, rfl, h1⟩, hb⟩
    · refine (implLoose_any n la lk fa fk wa wk w ha hs).mono ?_
      rintro e w' ⟨⟨v, rfl, ho⟩, hb⟩
      rcases ho with ⟨_, ho⟩ | ⟨k, _⟩
      · obtain ⟨a, c, rfl, h1⟩ := ls_own ho
        exact ⟨⟨a, c, rfl, h1⟩, hb⟩
      · exact absurd h k
  · refine ⟨[], by simp, fun la lk fa fk wa wk w ha => ?_, fun la lk fa fk wa wk w ha => ?_⟩
    · refine (specLoose_no n la lk fa fk wa wk w ha hs h).mono ?_
      rintro e w' ⟨⟨v, rfl, ho⟩, hb⟩
      obtain ⟨a, c, rfl, h1⟩ := ls_own (l := []) ho
      exact ⟨⟨a, c, rfl, h1⟩, hb⟩
    · refine (implLoose_any n la lk fa fk wa wk w ha hs).mono ?_
      rintro e w' ⟨⟨v, rfl, ho⟩, hb⟩
      rcases ho with ⟨k, _⟩ | ⟨_, ho⟩
      · exact absurd k h
      · obtain ⟨a, c, rfl, h1⟩ := ls_own (l := []) ho
        exact ⟨⟨a, c, rfl, h1⟩, hb⟩

/-- What lasts in this law: the model's list below X, the program's from B on. -/
structure LsP (w : World) (X B N : Nat) (a0 : Option Addr) (c0 : Nat) (b : Option Addr) (c : Nat) (f g : Nat → Int) (W : World) : Prop where
  l0 : LsOwn 2 1 w.heap.size N a0 c0 f W
  lo : ∀ k, a0 = some ⟨k, 0, none⟩ → k < X
  l1 : LsOwn 2 1 B N b c g W
theorem LsP.below {w : World} {X B N : Nat} {a0 : Option Addr} {c0 : Nat} {b : Option Addr} {c : Nat} {f g : Nat → Int} : Lasts (LsP w X B N a0 c0 b c f g) := fun _ _ hb h => ⟨h.l0.below hb, h.lo, h.l1.below hb⟩
set_option maxRecDepth 100000 in
set_option maxHeartbeats 8000000 in
theorem netLoose_law (w : World) (n : Nt.Net) (la : Option Addr) (lk : Nat) (fa : Option Addr) (fk : Nat) (wa : Option Addr) (wk : Nat) (h : NtIn n la fa wa w) (hl : NtLens n) :
    Calls Try.prog 4 #[ntV n la lk fa fk wa wk] w fun e w' => e = .returned (.bool true) ∧ Below w.heap.size w w' := by
  have H := Lib.hid h
  obtain ⟨W, hW⟩ : ∃ W, W = w.alloc (.cells #[.int .i64 n.nodes, .slice la n.ln lk, .slice fa n.fn fk, .slice wa n.wn wk] 26) := ⟨_, rfl⟩
  have R0 : Hid (W.rowIs w.heap.size 26 4 (rowN (ntL n la lk fa fk wa wk))) := by rw [hW]; exact rowN_alloc w _ _
  have B0 : Hid (Below w.heap.size w W) := by rw [hW]; exact nbel_alloc _ _
  have HW := Lib.hid hW
  clear h hW
  go_enter Try.func4, Try.ntmps4
  go_wp2_with fail
  rw [← HW.out]
  refine (szNet_any n la lk fa fk wa wk _ hl.1 hl.2.1 hl.2.2).mono ?_
  rintro e w1 ⟨⟨z, rfl, hz⟩, hb⟩
  have R1 := Lib.hid (nrow_below R0.out hb)
  have B1 : Hid (Below w.heap.size w w1) := B0.out.trans (hb.mono B0.out.size)
  clear hb R0 B0
  rcases hz with hz | ⟨hz, hs⟩
  · go_wp2_with fail
    go_ret
    exact ⟨rfl, B1.out⟩
  have HS := Lib.hid hs
  have hz0 : ¬ z < 0 := by omega
  obtain ⟨l, hl2, hSP, hIM⟩ := ansLs_both n hs
  have HSP := Lib.hid hSP
  have HIM := Lib.hid hIM
  clear hs hz hSP hIM
  obtain ⟨⟨r0, r1, r2, r3⟩, _⟩ := rowN4 R1.out
  go_wp2_with fail
  refine (toNet_any n la lk fa fk wa wk _ (H.out.below B1.out) HS.out).mono ?_
  rintro e w2 ⟨⟨gl, gf, gw, rfl, hk⟩, hb⟩
  have R2 := Lib.hid (nrow_below R1.out hb)
  have B2 : Hid (Below w.heap.size w w2) := B1.out.trans (hb.mono B1.out.size)
  have K2 := Lib.hid hk
  clear hb hk R1 B1 r0 r1 r2 r3
  go_wp2_with fail
  refine (HSP.out _ _ _ _ _ _ _ K2.out.at_).mono ?_
  rintro e w3 ⟨⟨a0, c0, rfl, hL⟩, hb⟩
  have R3 := Lib.hid (nrow_below R2.out hb)
  have B3 : Hid (Below w.heap.size w w3) := B2.out.trans (hb.mono B2.out.size)
  have L3 : Hid (LsOwn 2 1 w.heap.size l.length a0 c0 (ils l) w3) := hL.low B2.out.size
  have LO : Hid (∀ k, a0 = some ⟨k, 0, none⟩ → k < w3.heap.size) := fun k e => (hL.lt e).2
  clear hb hL R2 B2 K2
  obtain ⟨⟨r0, r1, r2, r3⟩, _⟩ := rowN4 R3.out
  go_wp2_with fail
  refine (toNet_any n la lk fa fk wa wk _ (H.out.below B3.out) HS.out).mono ?_
  rintro e w4 ⟨⟨gl2, gf2, gw2, rfl, hk⟩, hb⟩
  obtain ⟨W4, hW4⟩ : ∃ W4, W4 = w4.alloc (.cells #[.int .i64 n.nodes, .slice (some ⟨gl2, 0, none⟩) n.ln n.ln, .slice (some ⟨gf2, 0, none⟩) n.fn n.fn, .slice (some ⟨gw2, 0, none⟩) n.wn n.wn] 32) := ⟨_, rfl⟩
  have q4 := hb.trans ((nbel_alloc w4 (.cells #[.int .i64 n.nodes, .slice (some ⟨gl2, 0, none⟩) n.ln n.ln, .slice (some ⟨gf2, 0, none⟩) n.fn n.fn, .slice (some ⟨gw2, 0, none⟩) n.wn n.wn] 32)).mono hb.size)
  rw [← hW4] at q4
  have Q4 : Hid (W4.rowIs w4.heap.size 32 4 (rowN (ntL n (some ⟨gl2, 0, none⟩) n.ln (some ⟨gf2, 0, none⟩) n.fn (some ⟨gw2, 0, none⟩) n.wn))) := by rw [hW4]; exact rowN_alloc w4 _ _
  have R4 : Hid (W4.rowIs w.heap.size 26 4 (rowN (ntL n la lk fa fk wa wk))) := nrow_below R3.out q4
  have B4 : Hid (Below w.heap.size w W4) := B3.out.trans (q4.mono B3.out.size)
  have K4 : Hid (NtBlk n w3.heap.size gl2 gf2 gw2 W4) := by rw [hW4]; exact hk.below (nbel_alloc _ _)
  have L4 := Lib.hid (L3.out.below q4)
  have X4 : Hid (w3.heap.size ≤ w4.heap.size ∧ w.heap.size < w3.heap.size) := ⟨hb.size, R3.out.lt⟩
  have HW4 := Lib.hid hW4
  clear hW4 R3 B3 L3 hb hk q4 r0 r1 r2 r3
  go_wp2_with fail
  rw [← HW4.out]
  refine (HIM.out _ _ _ _ _ _ _ K4.out.at_).mono ?_
  rintro e w5 ⟨⟨b, c, rfl, hL⟩, hb⟩
  have S := Lib.hid (NL.below (P := fun _ => True) lasts_true ⟨R4.out, Q4.out, K4.out, B4.out, trivial⟩ hb)
  have S5 : Hid (NL w n la lk fa fk wa wk w4.heap.size w3.heap.size gl2 gf2 gw2 (LsP w w3.heap.size W4.heap.size l.length a0 c0 b c (ils l) (ils l)) w5) := ⟨S.out.ra, S.out.rx, S.out.kx, S.out.old, ⟨L4.out.below hb, LO.out, hL⟩⟩
  have XW : Hid (w4.heap.size < W4.heap.size) := Q4.out.lt
  have KB : Hid (gl2 < W4.heap.size ∧ gf2 < W4.heap.size ∧ gw2 < W4.heap.size) := ⟨K4.out.l.lt, K4.out.f.lt, K4.out.w.lt⟩
  clear hb hL R4 B4 K4 Q4 L4 S LO
  generalize W4.heap.size = Y at *
  generalize w4.heap.size = X4b at *
  generalize w3.heap.size = X at *
  go_wp2_with fail
  refine (neqInt64S_same _ _ _ _ _ (ils l) _ (by have := S5.out.p.l1.at_; rwa [Nat.mul_one] at this) (by have := S5.out.p.l0.at_; rwa [Nat.mul_one] at this) hl2).mono ?_
  rintro e w6 ⟨rfl, hb⟩
  have S6 := Lib.hid (S5.out.below LsP.below hb)
  clear hb S5
  go_wp2_with fail
  refine wp_region_held_drew (S := NL w n la lk fa fk wa wk X4b X gl2 gf2 gw2 (LsP w X Y l.length a0 c0 b c (ils l) (ils l))) (by kernel_rfl) (S6.out.below LsP.below (Below.refl _ _).drew) (fun hHeld => ?_)
  clear S6
  refine take_do (i := 0) (v := (ntV n (some ⟨gl2, 0, none⟩) n.ln (some ⟨gf2, 0, none⟩) n.fn (some ⟨gw2, 0, none⟩) n.wn)) rfl (by kernel_rfl) (by kernel_rfl) (by kernel_rfl) (fun _ _ _ h => h) (by rfl) ?_ (by assumption) ?_
  · intro w hSw
    obtain ⟨⟨a0, a1, a2, a3⟩, _⟩ := rowN4 hSw.rx
    go_simp
  simp only [Act.put, List.setIfInBounds_toArray, List.set_cons_zero, List.set_cons_succ]
  refine take_do (i := 1) (v := (ntV n la lk fa fk wa wk)) rfl (by kernel_rfl) (by kernel_rfl) (by kernel_rfl) (fun _ _ _ h => h) (by rfl) ?_ (by assumption) ?_
  · intro w hSw
    obtain ⟨⟨a0, a1, a2, a3⟩, _⟩ := rowN4 hSw.ra
    go_simp
  simp only [Act.put, List.setIfInBounds_toArray, List.set_cons_zero, List.set_cons_succ]
  refine take_call (i := 2) rfl (by kernel_rfl) (fun K2 hK => ?_)
  go_simp
  refine (toNet_any n la lk fa fk wa wk _ (H.out.below hHeld.old) HS.out).mono ?_
  rintro e w6 ⟨⟨gl3, gf3, gw3, rfl, hk6⟩, hb6⟩
  have HK6 := Lib.hid hk6
  go_wp2_with fail
  refine hK.out _ _ (hHeld.below LsP.below hb6) (fun hHeld2 => ?_)
  clear hK hHeld hb6 hk6
  refine take_call (i := 3) rfl (by kernel_rfl) (fun K2 hK => ?_)
  go_simp
  refine (eqNet_same n _ _ _ _ _ _ _ _ _ _ _ _ _ hHeld2.kx.at_ HK6.out.at_ HS.out).mono ?_
  rintro e w7 ⟨rfl, hb7⟩
  go_wp2_with fail
  refine hK.out _ _ (hHeld2.below LsP.below hb7) (fun hHeld => ?_)
  clear hK hHeld2 hb7
  refine take_do (i := 4) (v := (.bool false)) rfl (by kernel_rfl) (by kernel_rfl) (by kernel_rfl) (fun _ _ _ h => h) (by rfl) ?_ (by assumption) ?_
  · intro w hSw
    go_simp
  simp only [Act.put, List.setIfInBounds_toArray, List.set_cons_zero, List.set_cons_succ]
  refine wpAnyH_done (by kernel_rfl) ?_ _
  have S8 := Lib.hid hHeld
  clear hHeld HK6
  obtain ⟨⟨r0, r1, r2, r3⟩, _⟩ := rowN4 S8.out.rx
  go_wp2_with fail
  refine (markNet_any n X gl2 gf2 gw2 n.ln n.fn n.wn _ S8.out.kx HS.out).mono ?_
  rintro e w9 ⟨⟨M, rfl, hM⟩, ho⟩
  clear r0 r1 r2 r3
  have x1 := X4.out
  have x2 := XW.out
  have x3 := KB.out
  have x4 := S8.out.kx.lo
  have P9 : Hid (LsP w X Y l.length a0 c0 b c (ils l) (ils l) w9) := by
    have p := S8.out.p
    refine ⟨?_, p.lo, p.l1.same (fun k h1 h2 => ho.block k h2 (by omega) (by omega) (by omega))⟩
    rcases p.l0 with k | ⟨g, e, k1, k2⟩
    · exact Or.inl k
    · have := p.lo g e
      exact Or.inr ⟨g, e, k1, k2.block (ho.block g k2.lt (by omega) (by omega) (by omega))⟩
  have R9 : Hid (w9.rowIs w.heap.size 26 4 (rowN (ntL n la lk fa fk wa wk))) := S8.out.ra.of_block (ho.block _ S8.out.ra.lt (by omega) (by omega) (by omega))
  have B9 : Hid (Below w.heap.size w w9) := S8.out.old.trans ⟨ho.os, ho.tape, ho.output, ho.size, fun k hk => ho.block k (by have := S8.out.old.size; omega) (by omega) (by omega) (by omega)⟩
  clear ho S8 x3 x4 KB
  have hM0 : ¬ (M : Int) < 0 := by omega
  go_wp2_with fail
  refine (neqInt64S_same _ _ _ _ _ (ils l) _ (by have := P9.out.l1.at_; rwa [Nat.mul_one] at this) (by have := P9.out.l0.at_; rwa [Nat.mul_one] at this) hl2).mono ?_
  rintro e w10 ⟨rfl, hb⟩
  have P10 := Lib.hid (LsP.below _ _ hb P9.out)
  have R10 := Lib.hid (nrow_below R9.out hb)
  have B10 : Hid (Below w.heap.size w w10) := B9.out.trans (hb.mono B9.out.size)
  clear hb P9 R9 B9
  go_wp2_with fail
  refine (nmarkLs _ P10.out.l1 hl2).mono ?_
  rintro e w11 ⟨rfl, hmk, hc, hc2⟩
  have hown : ∀ k, b = some ⟨k, 0, none⟩ → Y ≤ k := fun k e => (P10.out.l1.lt e).1
  have P11 : Hid (LsP w X Y l.length a0 c0 b c (ils l) (mk1 1) w11) := by
    have p := P10.out
    refine ⟨?_, p.lo, hmk⟩
    rcases p.l0 with k | ⟨g, e, k1, k2⟩
    · exact Or.inl k
    · have := p.lo g e
      exact Or.inr ⟨g, e, k1, k2.block (hc g k2.lt (fun e => by have := hown g e; omega))⟩
  have R11 : Hid (w11.rowIs w.heap.size 26 4 (rowN (ntL n la lk fa fk wa wk))) := R10.out.of_block (hc _ R10.out.lt (fun e => by have := hown _ e; omega))
  have B11 : Hid (Below w.heap.size w w11) := B10.out.trans ⟨hc2.1, hc2.2.1, hc2.2.2.1, hc2.2.2.2, fun k hk => hc k (by have := B10.out.size; omega) (fun e => by have := hown k e; omega)⟩
  clear hmk hc hc2 hown P10 R10 B10 x1 x2
  obtain ⟨Q, hQ⟩ : ∃ Q : Nat, Q = 1 + l.length := ⟨_, rfl⟩
  have HQ : Hid (1 + l.length = Q) := hQ.symm
  rw [← hQ]
  have hQ0 : ¬ (Q : Int) < 0 := by omega
  clear hQ
  go_wp2_with fail
  refine (nheldLs _ P11.out.l1 hl2).mono ?_
  rintro e w12 ⟨rfl, rfl⟩
  rw [HQ.out]
  obtain ⟨⟨r0, r1, r2, r3⟩, _⟩ := rowN4 R11.out
  go_wp2_with fail
  refine (toNet_any n la lk fa fk wa wk _ (H.out.below B11.out) HS.out).mono ?_
  rintro e w13 ⟨⟨gl4, gf4, gw4, rfl, hk⟩, hb⟩
  have P13 := Lib.hid (LsP.below _ _ hb P11.out)
  have B13 : Hid (Below w.heap.size w w13) := B11.out.trans (hb.mono B11.out.size)
  have K13 := Lib.hid hk
  clear hb hk P11 B11 R11 r0 r1 r2 r3
  go_wp2_with fail
  refine (HIM.out _ _ _ _ _ _ _ K13.out.at_).mono ?_
  rintro e w14 ⟨⟨b2, c2, rfl, hL⟩, hb⟩
  have P14 := Lib.hid (LsP.below _ _ hb P13.out)
  have B14 : Hid (Below w.heap.size w w14) := B13.out.trans (hb.mono B13.out.size)
  have G14 := Lib.hid hL
  clear hb hL P13 B13 K13
  go_wp2_with fail
  refine (neqInt64S_same _ _ _ _ _ (ils l) _ (by have := G14.out.at_; rwa [Nat.mul_one] at this) (by have := P14.out.l0.at_; rwa [Nat.mul_one] at this) hl2).mono ?_
  rintro e w15 ⟨rfl, hb⟩
  have P15 := Lib.hid (LsP.below _ _ hb P14.out)
  have B15 : Hid (Below w.heap.size w w15) := B14.out.trans (hb.mono B14.out.size)
  clear hb P14 B14 G14
  go_wp2_with fail
  refine (nheldLs _ P15.out.l1 hl2).mono ?_
  rintro e w16 ⟨rfl, rfl⟩
  rw [HQ.out]
  go_wp2_with fail
  go_ret
  exact ⟨rfl, B15.out⟩
end Go.Proofs.Ytljdkclbmmglpaa
