/-
  The law FnExactTubeDecay.
-/
import Derived.Test.YtjmnehlgefpheaaTbLs
import Derived.Test.YtjmnehlgefpheaaTbDc
namespace Go.Proofs.Ytjmnehlgefpheaa
open Go.RowKit Go.Deep

set_option maxRecDepth 100000 in
set_option maxHeartbeats 8000000 in
theorem tDecay_law (w : World) (r : Int) (a : Option Addr) (n k : Nat) (f : Nat → Int) (h1 : IsIn a (n * 3) f w) (hm1 : n ≤ 9223372036854775807) (mill : Int) :
    Calls Try.prog 4 #[tbV r a n k, .int .i64 mill] w fun e w' => e = .returned (.bool true) ∧ Below w.heap.size w w' := by
  obtain ⟨l, rfl, hl⟩ := isIn_list h1
  have H1 := Lib.hid hl
  obtain ⟨R, hR⟩ : ∃ R, R = Tb.decR r l mill := ⟨_, rfl⟩
  obtain ⟨L, hL⟩ : ∃ L, L = Tb.decL r l mill := ⟨_, rfl⟩
  have HLL : Hid (L.length ≤ 1048576) := by
    show _ ≤ _
    rw [hL]
    by_cases h : Tb.Right r l ∧ 0 ≤ mill ∧ mill ≤ 1000
    · rw [(Tb.dec_yes h).2]; simp; have := h.1.1.2; omega
    · rw [(Tb.dec_no h).2]; simp
  have SPEC : Hid (∀ (g k : Nat) (W : World), IsAt (some ⟨g, 0, none⟩) (l.length * 3) (Tb.fl l) W → Calls Try.prog 12 #[tbV r (some ⟨g, 0, none⟩) l.length k, .int .i64 mill] W fun e w' => TbEnd W.heap.size R L e w' ∧ Below W.heap.size W w') := fun g k W h => by rw [hR, hL]; exact sDecay_any r _ l k mill W h
  have IMPL : Hid (∀ (g k : Nat) (W : World), IsAt (some ⟨g, 0, none⟩) (l.length * 3) (Tb.fl l) W → Calls Try.prog 13 #[tbV r (some ⟨g, 0, none⟩) l.length k, .int .i64 mill] W fun e w' => TbEnd W.heap.size R L e w' ∧ Below W.heap.size W w') := fun g k W h => by rw [hR, hL]; exact implDecay_any r _ l k mill W h
  clear hR hL
  obtain ⟨W, hW⟩ : ∃ W, W = w.alloc (.cells #[.int .i64 r, .slice a l.length k] 24) := ⟨_, rfl⟩
  have HB : Hid (Below w.heap.size w W) := by show Below _ _ _; rw [hW]; exact nbel_alloc _ _
  have HR : Hid (W.rowIs w.heap.size 24 2 (rowN [.int .i64 r, .slice a l.length k])) := by show World.rowIs _ _ _ _ _; rw [hW]; exact rowN_alloc w _ _
  have HW := Lib.hid hW
  have HM1 := Lib.hid hm1
  clear hW h1 hl hm1
  go_enter Try.func4, Try.ntmps4
  go_wp2_with fail
  rw [← HW.out]
  refine (szTube_any r a l.length k 1048576 _ (by omega) HM1.out).mono ?_
  rintro e w1 ⟨hz, hb1⟩
  have HB1 : Hid (Below w.heap.size w w1) := HB.out.trans (hb1.mono HB.out.size)
  have HR1 := Lib.hid (nrow_below HR.out hb1)
  obtain ⟨⟨a0, a1⟩, _⟩ := rowN2 HR1.out
  clear hb1 HR HB HW
  rcases hz with ⟨z, rfl, hz⟩ | ⟨hn1, rfl⟩
  · go_wp2_with fail
    go_ret
    exact ⟨rfl, HB1.out⟩
  have hz : ¬ ((1048576 - l.length : Nat) : Int) < 0 := by omega
  have N1 := Lib.hid hn1
  clear hn1
  go_wp2_with fail
  refine (toTube_any r a l.length k (Tb.fl l) _ (H1.out.below HB1.out) N1.out).mono ?_
  rintro e w2 ⟨⟨g1, rfl, _, hk⟩, hb⟩
  have HR2 := Lib.hid (nrow_below HR1.out hb)
  have HB2 : Hid (Below w.heap.size w w2) := HB1.out.trans (hb.mono HB1.out.size)
  have HK2 := Lib.hid hk
  clear a0 a1 hb hk HR1 HB1
  go_wp2_with fail
  refine (SPEC.out g1 l.length _ HK2.out.at_).mono ?_
  rintro e w3 ⟨⟨a6, c6, rfl, ho6⟩, hb⟩
  obtain ⟨W3, hW3⟩ : ∃ W3, W3 = w3.alloc (.cells #[.int .i64 R, .slice a6 L.length c6] 29) := ⟨_, rfl⟩
  have hb3 : Below w3.heap.size w3 W3 := by rw [hW3]; exact nbel_alloc _ _
  have R6 : Hid (W3.rowIs w3.heap.size 29 2 (rowN [.int .i64 R, .slice a6 L.length c6])) := by show World.rowIs _ _ _ _ _; rw [hW3]; exact rowN_alloc w3 _ _
  have hws : w.heap.size < w2.heap.size := HR2.out.lt
  have T6 : Hid (TwL (w.heap.size + 1) w3.heap.size a6 L.length c6 (Tb.fl L) none 0 0 (Tb.fl L) W3) := (TwL.one (ho6.low (by omega : w.heap.size + 1 ≤ w2.heap.size)) (Nat.le_refl _)).same (fun k _ hk _ => hb3.block k hk)
  have HR3 := Lib.hid (nrow_below (nrow_below HR2.out hb) hb3)
  have hbx : Below w.heap.size w w3 := HB2.out.trans (hb.mono HB2.out.size)
  have HB3 : Hid (Below w.heap.size w W3) := hbx.trans (hb3.mono hbx.size)
  have O1 : Hid (w.heap.size < w3.heap.size) := by show _ < _; have := hb.size; omega
  have HW3 := Lib.hid hW3
  clear hb hb3 hW3 ho6 hws HR2 HB2 HK2 hbx
  obtain ⟨⟨a0, a1⟩, _⟩ := rowN2 HR3.out
  rw [HW3.out] at a0 a1
  go_wp2_with fail
  rw [← HW3.out]
  refine (toTube_any r a l.length k (Tb.fl l) _ (H1.out.below HB3.out) N1.out).mono ?_
  rintro e w4 ⟨⟨g7, rfl, hg7, hk⟩, hb⟩
  obtain ⟨W4, hW4⟩ : ∃ W4, W4 = w4.alloc (.cells #[.int .i64 r, .slice (some ⟨g7, 0, none⟩) l.length l.length] 29) := ⟨_, rfl⟩
  have hb4 : Below w4.heap.size w4 W4 := by rw [hW4]; exact nbel_alloc _ _
  have R7 : Hid (W4.rowIs w4.heap.size 29 2 (rowN [.int .i64 r, .slice (some ⟨g7, 0, none⟩) l.length l.length])) := by show World.rowIs _ _ _ _ _; rw [hW4]; exact rowN_alloc w4 _ _
  have K7 : Hid (IsBlk 39 g7 (l.length * 3) (Tb.fl l) W4) := hk.below hb4
  have O3 : Hid (g7 < w4.heap.size) := hk.lt
  have O2 : Hid (w3.heap.size < g7) := by show _ < _; have := R6.out.lt; omega
  have hbt := hb.trans (hb4.mono hb.size)
  have R6' := Lib.hid (nrow_below R6.out hbt)
  have T6' := Lib.hid (T6.out.same (fun k _ _ hk => hbt.block k hk))
  have HR4 := Lib.hid (nrow_below HR3.out hbt)
  have HB4 : Hid (Below w.heap.size w W4) := HB3.out.trans (hbt.mono HB3.out.size)
  have HW4 := Lib.hid hW4
  clear hb hb4 hbt hW4 hk a0 a1 HR3 HB3 R6 T6 hg7 HW3
  obtain ⟨⟨x0, x1⟩, _⟩ := rowN2 R7.out
  rw [HW4.out] at x0 x1
  go_wp2_with fail
  rw [← HW4.out]
  refine (IMPL.out g7 l.length _ K7.out.at_).mono ?_
  rintro e w5 ⟨⟨a8, c8, rfl, ho8⟩, hb⟩
  obtain ⟨W5, hW5⟩ : ∃ W5, W5 = w5.alloc (.cells #[.int .i64 R, .slice a8 L.length c8] 29) := ⟨_, rfl⟩
  have hb5 : Below w5.heap.size w5 W5 := by rw [hW5]; exact nbel_alloc _ _
  have hbt := hb.trans (hb5.mono hb.size)
  have h7l := R7.out.lt
  have LS0 : Hid (Ls w.heap.size w3.heap.size g7 w4.heap.size w5.heap.size 29 2 (rowN [.int .i64 r, .slice a l.length k]) (rowN [.int .i64 R, .slice a6 L.length c6]) (rowN [.int .i64 r, .slice (some ⟨g7, 0, none⟩) l.length l.length]) (rowN [.int .i64 R, .slice a8 L.length c8]) l.length (Tb.fl l) (TwL (w.heap.size + 1) w3.heap.size a6 L.length c6 (Tb.fl L) none 0 0 (Tb.fl L)) (TwL (w4.heap.size + 1) w5.heap.size a8 L.length c8 (Tb.fl L) none 0 0 (Tb.fl L)) w W5) :=
    ⟨nrow_below HR4.out hbt, nrow_below R6'.out hbt, T6'.out.same (fun k _ _ hk => hbt.block k hk), nrow_below R7.out hbt, K7.out.below hbt, by rw [hW5]; exact rowN_alloc w5 _ _, (TwL.one (ho8.low (by omega : w4.heap.size + 1 ≤ W4.heap.size)) (Nat.le_refl _)).same (fun k _ hk _ => hb5.block k hk), O1.out, O2.out, O3.out, by have := hb.size; omega, HB4.out.trans (hbt.mono HB4.out.size)⟩
  have HW5 := Lib.hid hW5
  clear hb hb5 hbt hW5 ho8 x0 x1 HW4 h7l HR4 HB4 R6' T6' R7 K7
  obtain ⟨⟨y0, y1⟩, _⟩ := rowN2 LS0.out.r8
  obtain ⟨⟨u0, u1⟩, _⟩ := rowN2 LS0.out.r6
  rw [HW5.out] at y0 y1 u0 u1
  go_wp2_with fail
  rw [← HW5.out]
  clear y0 y1 u0 u1 HW5
  refine (eqTube_same R a8 a6 L.length c8 c6 (Tb.fl L) _ LS0.out.t8.x.at_ LS0.out.t6.x.at_ HLL.out).mono ?_
  rintro e w6 ⟨rfl, hb⟩
  have LS1 : Hid (Ls w.heap.size w3.heap.size g7 w4.heap.size w5.heap.size 29 2 (rowN [.int .i64 r, .slice a l.length k]) (rowN [.int .i64 R, .slice a6 L.length c6]) (rowN [.int .i64 r, .slice (some ⟨g7, 0, none⟩) l.length l.length]) (rowN [.int .i64 R, .slice a8 L.length c8]) l.length (Tb.fl l) (TwL (w.heap.size + 1) w3.heap.size a6 L.length c6 (Tb.fl L) none 0 0 (Tb.fl L)) (TwL (w4.heap.size + 1) w5.heap.size a8 L.length c8 (Tb.fl L) none 0 0 (Tb.fl L)) w w6) := LS0.out.same TwL.stab TwL.stab hb
  clear hb LS0
  go_wp2_with fail
  refine wp_region_held_drew (S := Ls w.heap.size w3.heap.size g7 w4.heap.size w5.heap.size 29 2 (rowN [.int .i64 r, .slice a l.length k]) (rowN [.int .i64 R, .slice a6 L.length c6]) (rowN [.int .i64 r, .slice (some ⟨g7, 0, none⟩) l.length l.length]) (rowN [.int .i64 R, .slice a8 L.length c8]) l.length (Tb.fl l) (TwL (w.heap.size + 1) w3.heap.size a6 L.length c6 (Tb.fl L) none 0 0 (Tb.fl L)) (TwL (w4.heap.size + 1) w5.heap.size a8 L.length c8 (Tb.fl L) none 0 0 (Tb.fl L)) w) (by kernel_rfl) (LS1.out.same TwL.stab TwL.stab (Below.refl _ _).drew) (fun hHeld => ?_)
  clear LS1
  refine take_do (i := 0) (v := tbV r (some ⟨g7, 0, none⟩) l.length l.length) rfl (by kernel_rfl) (by kernel_rfl) (by kernel_rfl) (fun _ _ _ h => h) (by rfl) ?_ (by assumption) ?_
  · intro w hSw
    obtain ⟨⟨x0, x1⟩, _⟩ := rowN2 hSw.r7
    go_simp
  simp only [Act.put, List.setIfInBounds_toArray, List.set_cons_zero, List.set_cons_succ]
  refine take_do (i := 1) (v := tbV r a l.length k) rfl (by kernel_rfl) (by kernel_rfl) (by kernel_rfl) (fun _ _ _ h => h) (by rfl) ?_ (by assumption) ?_
  · intro w hSw
    obtain ⟨⟨x0, x1⟩, _⟩ := rowN2 hSw.arg
    go_simp
  simp only [Act.put, List.setIfInBounds_toArray, List.set_cons_zero, List.set_cons_succ]
  refine take_call (i := 2) rfl (by kernel_rfl) (fun K2 hK => ?_)
  go_simp
  refine (toTube_any r a l.length k (Tb.fl l) _ (H1.out.below hHeld.bel) N1.out).mono ?_
  rintro e w7 ⟨⟨g9, rfl, _, hk9⟩, hb⟩
  have HK9 := Lib.hid hk9
  go_wp2_with fail
  refine hK.out _ _ (hHeld.same TwL.stab TwL.stab hb) (fun hHeld2 => ?_)
  clear hK hHeld hb hk9
  refine take_call (i := 3) rfl (by kernel_rfl) (fun K2 hK => ?_)
  go_simp
  refine (eqTube_same r _ _ l.length l.length l.length (Tb.fl l) _ hHeld2.k7.at_ HK9.out.at_ N1.out).mono ?_
  rintro e w8 ⟨rfl, hb⟩
  go_wp2_with fail
  refine hK.out _ _ (hHeld2.same TwL.stab TwL.stab hb) (fun hHeld => ?_)
  clear hK hHeld2 hb
  refine take_do (i := 4) (v := .bool false) rfl (by kernel_rfl) (by kernel_rfl) (by kernel_rfl) (fun _ _ _ h => h) (by rfl) ?_ (by assumption) ?_
  · intro w hSw
    go_simp
  simp only [Act.put, List.setIfInBounds_toArray, List.set_cons_zero, List.set_cons_succ]
  refine wpAnyH_done (by kernel_rfl) ?_ _
  have LS2 : Hid (Ls w.heap.size w3.heap.size g7 w4.heap.size w5.heap.size 29 2 (rowN [.int .i64 r, .slice a l.length k]) (rowN [.int .i64 R, .slice a6 L.length c6]) (rowN [.int .i64 r, .slice (some ⟨g7, 0, none⟩) l.length l.length]) (rowN [.int .i64 R, .slice a8 L.length c8]) l.length (Tb.fl l) (TwL (w.heap.size + 1) w3.heap.size a6 L.length c6 (Tb.fl L) none 0 0 (Tb.fl L)) (TwL (w4.heap.size + 1) w5.heap.size a8 L.length c8 (Tb.fl L) none 0 0 (Tb.fl L)) w w8) := hHeld
  clear hHeld HK9
  obtain ⟨⟨x0, x1⟩, _⟩ := rowN2 LS2.out.r7
  go_wp2_with fail
  refine (markTube_any 0 r (some ⟨g7, 0, none⟩) l.length l.length 1 (Tb.fl l) _ (Or.inr ⟨g7, rfl, Nat.zero_le _, LS2.out.k7⟩) N1.out (by omega)).mono ?_
  rintro e w9 ⟨rfl, hk, ho⟩
  have hk' : IsBlk 39 g7 (l.length * 3) (mk1 1) w9 := by
    rcases hk with h | ⟨g, e, _, h⟩
    · cases h.1
    · cases e; exact h
  have LS3 : Hid (Ls w.heap.size w3.heap.size g7 w4.heap.size w5.heap.size 29 2 (rowN [.int .i64 r, .slice a l.length k]) (rowN [.int .i64 R, .slice a6 L.length c6]) (rowN [.int .i64 r, .slice (some ⟨g7, 0, none⟩) l.length l.length]) (rowN [.int .i64 R, .slice a8 L.length c8]) l.length (mk1 1) (TwL (w.heap.size + 1) w3.heap.size a6 L.length c6 (Tb.fl L) none 0 0 (Tb.fl L)) (TwL (w4.heap.size + 1) w5.heap.size a8 L.length c8 (Tb.fl L) none 0 0 (Tb.fl L)) w w9) := LS2.out.mark7 TwL.stab TwL.stab hk' ho
  obtain ⟨Z, hZ⟩ : ∃ Z : Nat, Z = 1 + l.length * 3 := ⟨_, rfl⟩
  rw [← hZ]
  have hZ0 : ¬ (Z : Int) < 0 := by omega
  clear hk hk' ho hZ x0 x1 LS2
  obtain ⟨⟨y0, y1⟩, _⟩ := rowN2 LS3.out.r8
  obtain ⟨⟨u0, u1⟩, _⟩ := rowN2 LS3.out.r6
  go_wp2_with fail
  refine (eqTube_same R a8 a6 L.length c8 c6 (Tb.fl L) _ LS3.out.t8.x.at_ LS3.out.t6.x.at_ HLL.out).mono ?_
  rintro e w10 ⟨rfl, hb⟩
  have LS4 : Hid (Ls w.heap.size w3.heap.size g7 w4.heap.size w5.heap.size 29 2 (rowN [.int .i64 r, .slice a l.length k]) (rowN [.int .i64 R, .slice a6 L.length c6]) (rowN [.int .i64 r, .slice (some ⟨g7, 0, none⟩) l.length l.length]) (rowN [.int .i64 R, .slice a8 L.length c8]) l.length (mk1 1) (TwL (w.heap.size + 1) w3.heap.size a6 L.length c6 (Tb.fl L) none 0 0 (Tb.fl L)) (TwL (w4.heap.size + 1) w5.heap.size a8 L.length c8 (Tb.fl L) none 0 0 (Tb.fl L)) w w10) := LS3.out.same TwL.stab TwL.stab hb
  clear hb LS3 y0 y1 u0 u1
  obtain ⟨⟨y0, y1⟩, _⟩ := rowN2 LS4.out.r8
  go_wp2_with fail
  refine (markTube_any 0 R a8 L.length c8 1 (Tb.fl L) _ LS4.out.t8.x HLL.out (by omega)).mono ?_
  rintro e w11 ⟨rfl, hk, ho⟩
  have LS5 : Hid (Ls w.heap.size w3.heap.size g7 w4.heap.size w5.heap.size 29 2 (rowN [.int .i64 r, .slice a l.length k]) (rowN [.int .i64 R, .slice a6 L.length c6]) (rowN [.int .i64 r, .slice (some ⟨g7, 0, none⟩) l.length l.length]) (rowN [.int .i64 R, .slice a8 L.length c8]) l.length (mk1 1) (TwL (w.heap.size + 1) w3.heap.size a6 L.length c6 (Tb.fl L) none 0 0 (Tb.fl L)) (TwL (w4.heap.size + 1) w5.heap.size a8 L.length c8 (mk1 1) none 0 0 (Tb.fl L)) w w11) := LS4.out.mark8 TwL.stab ⟨hk, Or.inl ⟨rfl, rfl, rfl⟩, LS4.out.t8.bx, LS4.out.t8.by_, LS4.out.t8.ne⟩ (fun k hk hne => ho.block k hk (fun e => hne (LS4.out.t8.bx k e))) ⟨ho.os, ho.tape, ho.output, ho.size⟩
  obtain ⟨M, hM⟩ : ∃ M : Nat, M = 1 + L.length * 3 := ⟨_, rfl⟩
  rw [← hM]
  have HM := Lib.hid hM
  clear hk ho hM y0 y1 LS4
  obtain ⟨⟨y0, y1⟩, _⟩ := rowN2 LS5.out.r8
  go_wp2_with fail
  refine (heldTube_any 0 R a8 L.length c8 1 _ LS5.out.t8.x HLL.out (by omega)).mono ?_
  rintro e w12 ⟨rfl, hb⟩
  rw [← HM.out]
  have LS6 : Hid (Ls w.heap.size w3.heap.size g7 w4.heap.size w5.heap.size 29 2 (rowN [.int .i64 r, .slice a l.length k]) (rowN [.int .i64 R, .slice a6 L.length c6]) (rowN [.int .i64 r, .slice (some ⟨g7, 0, none⟩) l.length l.length]) (rowN [.int .i64 R, .slice a8 L.length c8]) l.length (mk1 1) (TwL (w.heap.size + 1) w3.heap.size a6 L.length c6 (Tb.fl L) none 0 0 (Tb.fl L)) (TwL (w4.heap.size + 1) w5.heap.size a8 L.length c8 (mk1 1) none 0 0 (Tb.fl L)) w w12) := LS5.out.same TwL.stab TwL.stab hb
  have hM0 : ¬ (M : Int) < 0 := by omega
  have hMM : ((M : Int) != (M : Int)) = false := by simp
  clear hb LS5 y0 y1
  obtain ⟨⟨a0, a1⟩, _⟩ := rowN2 LS6.out.arg
  go_wp2_with fail
  refine (toTube_any r a l.length k (Tb.fl l) _ (H1.out.below LS6.out.bel) N1.out).mono ?_
  rintro e w13 ⟨⟨g13, rfl, _, hk⟩, hb⟩
  have LS7 : Hid (Ls w.heap.size w3.heap.size g7 w4.heap.size w5.heap.size 29 2 (rowN [.int .i64 r, .slice a l.length k]) (rowN [.int .i64 R, .slice a6 L.length c6]) (rowN [.int .i64 r, .slice (some ⟨g7, 0, none⟩) l.length l.length]) (rowN [.int .i64 R, .slice a8 L.length c8]) l.length (mk1 1) (TwL (w.heap.size + 1) w3.heap.size a6 L.length c6 (Tb.fl L) none 0 0 (Tb.fl L)) (TwL (w4.heap.size + 1) w5.heap.size a8 L.length c8 (mk1 1) none 0 0 (Tb.fl L)) w w13) := LS6.out.same TwL.stab TwL.stab hb
  have HK13 := Lib.hid hk
  clear hb hk LS6 a0 a1
  go_wp2_with fail
  refine (IMPL.out g13 l.length _ HK13.out.at_).mono ?_
  rintro e w14 ⟨⟨a12, c12, rfl, ho12⟩, hb⟩
  obtain ⟨W14, hW14⟩ : ∃ W14, W14 = w14.alloc (.cells #[.int .i64 R, .slice a12 L.length c12] 29) := ⟨_, rfl⟩
  have hb14 : Below w14.heap.size w14 W14 := by rw [hW14]; exact nbel_alloc _ _
  have R12 : Hid (W14.rowIs w14.heap.size 29 2 (rowN [.int .i64 R, .slice a12 L.length c12])) := by show World.rowIs _ _ _ _ _; rw [hW14]; exact rowN_alloc w14 _ _
  have O12 := Lib.hid (ho12.below hb14)
  have LS8 : Hid (Ls w.heap.size w3.heap.size g7 w4.heap.size w5.heap.size 29 2 (rowN [.int .i64 r, .slice a l.length k]) (rowN [.int .i64 R, .slice a6 L.length c6]) (rowN [.int .i64 r, .slice (some ⟨g7, 0, none⟩) l.length l.length]) (rowN [.int .i64 R, .slice a8 L.length c8]) l.length (mk1 1) (TwL (w.heap.size + 1) w3.heap.size a6 L.length c6 (Tb.fl L) none 0 0 (Tb.fl L)) (TwL (w4.heap.size + 1) w5.heap.size a8 L.length c8 (mk1 1) none 0 0 (Tb.fl L)) w W14) := (LS7.out.same TwL.stab TwL.stab hb).same TwL.stab TwL.stab hb14
  have HW14 := Lib.hid hW14
  clear hb hb14 hW14 ho12 LS7 HK13
  obtain ⟨⟨y0, y1⟩, _⟩ := rowN2 R12.out
  obtain ⟨⟨u0, u1⟩, _⟩ := rowN2 LS8.out.r6
  rw [HW14.out] at y0 y1 u0 u1
  go_wp2_with fail
  rw [← HW14.out]
  clear y0 y1 u0 u1 HW14
  refine (eqTube_same R a12 a6 L.length c12 c6 (Tb.fl L) _ O12.out.at_ LS8.out.t6.x.at_ HLL.out).mono ?_
  rintro e w15 ⟨rfl, hb⟩
  have LS9 : Hid (Ls w.heap.size w3.heap.size g7 w4.heap.size w5.heap.size 29 2 (rowN [.int .i64 r, .slice a l.length k]) (rowN [.int .i64 R, .slice a6 L.length c6]) (rowN [.int .i64 r, .slice (some ⟨g7, 0, none⟩) l.length l.length]) (rowN [.int .i64 R, .slice a8 L.length c8]) l.length (mk1 1) (TwL (w.heap.size + 1) w3.heap.size a6 L.length c6 (Tb.fl L) none 0 0 (Tb.fl L)) (TwL (w4.heap.size + 1) w5.heap.size a8 L.length c8 (mk1 1) none 0 0 (Tb.fl L)) w w15) := LS8.out.same TwL.stab TwL.stab hb
  clear hb LS8 R12 O12
  obtain ⟨⟨y0, y1⟩, _⟩ := rowN2 LS9.out.r8
  go_wp2_with fail
  refine (heldTube_any 0 R a8 L.length c8 1 _ LS9.out.t8.x HLL.out (by omega)).mono ?_
  rintro e w16 ⟨rfl, hb⟩
  rw [← HM.out]
  have HBE : Hid (Below w.heap.size w w16) := LS9.out.bel.trans (hb.mono LS9.out.bel.size)
  clear hb LS9 y0 y1
  go_wp2_with fail
  go_ret
  exact ⟨rfl, HBE.out⟩
end Go.Proofs.Ytjmnehlgefpheaa
