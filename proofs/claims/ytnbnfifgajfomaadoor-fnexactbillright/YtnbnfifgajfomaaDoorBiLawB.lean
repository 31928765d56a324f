/-
  The law FnExactBillRight.
-/
import Derived.Test.YtnbnfifgajfomaaDoorBiRs
import Derived.Test.YtnbnfifgajfomaaDoorBiEx
namespace Go.Proofs.YtnbnfifgajfomaaDoor
open Go.RowKit Go.Deep

/-- What stands in the law ahead of the program's call. -/
structure LcA (t : Bi.T) (la : Option Addr) (lk : Nat) (X : Bi.Bl) (n : Nat) (b : Option Addr) (kb : Nat) (w W : World) : Prop where
  ra : W.rowIs w.heap.size 44 4 (rowN (tfL t la lk))
  rb : W.rowIs (w.heap.size + 1) 52 7 (rowN (blL X n b kb))
  bel : Below w.heap.size w W
/-- And behind it. -/
structure LcB (t : Bi.T) (la : Option Addr) (lk : Nat) (X : Bi.Bl) (n : Nat) (b : Option Addr) (kb : Nat) (L : Nat → Int) (s9 g9 s10 g10 : Nat) (w W : World) : Prop where
  ra : W.rowIs w.heap.size 44 4 (rowN (tfL t la lk))
  rb : W.rowIs (w.heap.size + 1) 52 7 (rowN (blL X n b kb))
  r9 : W.rowIs s9 25 4 (rowN (tfL t (some ⟨g9, 0, none⟩) t.bn))
  k9 : IsBlk 73 g9 (t.bn * 2) t.B W
  r10 : W.rowIs s10 30 7 (rowN (blL X n (some ⟨g10, 0, none⟩) n))
  k10 : IsBlk 2 g10 n L W
  bel : Below w.heap.size w W
section
variable {t : Bi.T} {la : Option Addr} {lk : Nat} {X : Bi.Bl} {n : Nat} {b : Option Addr} {kb : Nat} {L : Nat → Int} {s9 g9 s10 g10 : Nat} {w W W' : World}
theorem LcA.below (h : LcA t la lk X n b kb w W) (hb : Below W.heap.size W W') : LcA t la lk X n b kb w W' := ⟨nrow_below h.ra hb, nrow_below h.rb hb, h.bel.trans (hb.mono h.bel.size)⟩
theorem LcB.below (h : LcB t la lk X n b kb L s9 g9 s10 g10 w W) (hb : Below W.heap.size W W') : LcB t la lk X n b kb L s9 g9 s10 g10 w W' := ⟨nrow_below h.ra hb, nrow_below h.rb hb, nrow_below h.r9 hb, h.k9.below hb, nrow_below h.r10 hb, h.k10.below hb, h.bel.trans (hb.mono h.bel.size)⟩
end
theorem isat_in {a : Option Addr} {N : Nat} {f : Nat → Int} {w : World} (h : IsAt a N f w) : IsIn a N f w := by
  rcases h with h | ⟨b, e, h⟩
  · exact Or.inl h
  · exact Or.inr ⟨b, 0, e, fun j hj => by rw [Nat.zero_add]; exact h j hj⟩
set_option maxRecDepth 100000 in
set_option maxHeartbeats 16000000 in
theorem billRight_law (w : World) (t : Bi.T) (la : Option Addr) (lk : Nat) (h : IsIn la (t.bn * 2) t.B w) (hl : t.bn ≤ 9223372036854775807) (x : Int) (X : Bi.Bl) (n : Nat) (L : Nat → Int) (b : Option Addr) (kb : Nat) (hL : IsIn b n L w) (hln : n ≤ 9223372036854775807) (hz : -9223372036854775808 ≤ X.days ∧ X.days ≤ 9223372036854775807) (hg : Et w) :
    Calls Tryd.prog 6 #[tfV t la lk, .int .i64 x, blV X n b kb] w fun e w' => e = .returned (.bool true) ∧ Below w.heap.size w w' := by
  have H := Lib.hid h
  have HL := Lib.hid hL
  have HG := Lib.hid hg
  have HZ := Lib.hid hz
  obtain ⟨W, hW⟩ : ∃ W, W = (w.alloc (.cells #[.int .i64 t.day, .slice la t.bn lk, .int .i64 t.sew, .int .i64 t.tax] 44)).alloc (.cells #[.int .i64 X.days, .slice b n kb, .int .i64 X.sew, .int .i64 X.net, .int .i64 X.tax, .int .i64 X.gross, .int .i64 X.code] 52) := ⟨_, rfl⟩
  have S0 : Hid (LcA t la lk X n b kb w W) := by
    show LcA _ _ _ _ _ _ _ _ _
    rw [hW]
    exact ⟨nrow_below (rowN_alloc w _ _) (nbel_alloc _ _), rowN_alloc' (by simp) _ _, (nbel_alloc _ _).alloc (by simp) _⟩
  have HW := Lib.hid hW
  clear h hL hg hW hz
  go_enter Tryd.func6, Tryd.ntmps6
  go_wp2_with fail
  rw [← HW.out]
  clear HW
  refine (szTariff_any t la lk 1048576 _ (by omega) hl).mono ?_
  rintro e w1 ⟨hz, hb⟩
  have S1 := Lib.hid (S0.out.below hb)
  clear hb S0
  rcases hz with ⟨z, rfl, hz⟩ | ⟨hs, rfl⟩
  · go_wp2_with fail
    go_ret
    exact ⟨rfl, S1.out.bel⟩
  have HS := Lib.hid hs
  obtain ⟨l1, hl1⟩ : ∃ l1, l1 = 1048576 - t.bn := ⟨_, rfl⟩
  rw [← hl1]
  have hz0 : ¬ (l1 : Int) < 0 := by omega
  have hl2 : l1 ≤ 1048576 := by omega
  clear hs hl1
  obtain ⟨⟨y0, y1, y2, y3, y4, y5, y6⟩, _⟩ := rowN7 S1.out.rb
  go_wp2_with fail
  refine (szBill_any X n b kb l1 _ hl2 hln).mono ?_
  rintro e w2 ⟨hz, hb⟩
  have S2 := Lib.hid (S1.out.below hb)
  clear hb S1 y0 y1 y2 y3 y4 y5 y6 hz0
  rcases hz with ⟨z, rfl, hz⟩ | ⟨hs, rfl⟩
  · go_wp2_with fail
    go_ret
    exact ⟨rfl, S2.out.bel⟩
  have HSN : Hid (n ≤ 1048576) := by show _ ≤ _; omega
  have hz0 : ¬ ((l1 - n : Nat) : Int) < 0 := by omega
  clear hs
  obtain ⟨bb, hbe⟩ : ∃ bb, bb = Bi.dB (Bi.BRight t x ⟨X, n, L⟩) := ⟨_, rfl⟩
  have HBE := Lib.hid hbe
  clear hbe
  go_wp2_with fail
  refine wp_region_held_drew (S := LcA t la lk X n b kb w) (by kernel_rfl) (S2.out.below (Below.refl _ _).drew) (fun hHeld => ?_)
  clear S2
  refine take_do (i := 0) (v := (tfV t la lk)) rfl (by kernel_rfl) (by kernel_rfl) (by kernel_rfl) (fun _ _ _ h => h) (by rfl) ?_ (by assumption) ?_
  · intro w hSw
    obtain ⟨⟨a0, a1, a2, a3⟩, _⟩ := rowN4 hSw.ra
    obtain ⟨⟨b0, b1, b2, b3, b4, b5, b6⟩, _⟩ := rowN7 hSw.rb
    go_simp
  simp only [Act.put, List.setIfInBounds_toArray, List.set_cons_zero, List.set_cons_succ]
  refine take_do (i := 2) (v := (.int .i64 x)) rfl (by kernel_rfl) (by kernel_rfl) (by kernel_rfl) (fun _ _ _ h => h) (by rfl) ?_ (by assumption) ?_
  · intro w hSw
    go_simp
  simp only [Act.put, List.setIfInBounds_toArray, List.set_cons_zero, List.set_cons_succ]
  refine take_do (i := 3) (v := (blV X n b kb)) rfl (by kernel_rfl) (by kernel_rfl) (by kernel_rfl) (fun _ _ _ h => h) (by rfl) ?_ (by assumption) ?_
  · intro w hSw
    obtain ⟨⟨a0, a1, a2, a3⟩, _⟩ := rowN4 hSw.ra
    obtain ⟨⟨b0, b1, b2, b3, b4, b5, b6⟩, _⟩ := rowN7 hSw.rb
    go_simp
  simp only [Act.put, List.setIfInBounds_toArray, List.set_cons_zero, List.set_cons_succ]
  refine take_call (i := 1) rfl (by kernel_rfl) (fun K2 hK => ?_)
  go_simp
  refine (toTariff_any t la lk _ (H.out.below hHeld.bel) HS.out).mono ?_
  rintro e w7 ⟨⟨g1, rfl, _, hk1⟩, hb⟩
  have HK1 := Lib.hid hk1
  go_wp2_with fail
  refine hK.out _ _ (hHeld.below hb) (fun hHeld2 => ?_)
  clear hK hHeld hb hk1
  refine take_call (i := 4) rfl (by kernel_rfl) (fun K2 hK => ?_)
  go_simp
  refine (toBill_any X n L b kb _ (HL.out.below hHeld2.bel) HSN.out).mono ?_
  rintro e w8 ⟨⟨g2, rfl, _, hk2⟩, hb⟩
  have HK2 := Lib.hid hk2
  have HK1b := Lib.hid (HK1.out.below hb)
  go_wp2_with fail
  refine hK.out _ _ (hHeld2.below hb) (fun hHeld => ?_)
  clear hK hHeld2 hb hk2 HK1
  refine take_call (i := 5) rfl (by kernel_rfl) (fun K2 hK => ?_)
  go_simp
  refine (specBRight_any t _ _ x ⟨X, n, L⟩ _ _ _ HK1b.out.at_ hl (isat_in HK2.out.at_)).mono ?_
  rintro e w9 ⟨rfl, hb⟩
  rw [← HBE.out]
  go_wp2_with fail
  refine hK.out _ _ (hHeld.below hb) (fun hHeld2 => ?_)
  clear hK hHeld hb HK1b HK2
  have hHeld := hHeld2
  clear hHeld2
  refine take_do (i := 6) (v := (.bool bb)) rfl (by kernel_rfl) (by kernel_rfl) (by kernel_rfl) (fun _ _ _ h => h) (by rfl) ?_ (by assumption) ?_
  · intro w hSw
    go_simp
  simp only [Act.put, List.setIfInBounds_toArray, List.set_cons_zero, List.set_cons_succ]
  refine wpAnyH_done (by kernel_rfl) ?_ _
  have S3 := Lib.hid hHeld
  clear hHeld
  obtain ⟨⟨r0, r1, r2, r3⟩, _⟩ := rowN4 S3.out.ra
  go_wp2_with fail
  clear r0 r1 r2 r3
  refine (toTariff_any t la lk _ (H.out.below S3.out.bel) HS.out).mono ?_
  rintro e w10 ⟨⟨g9, rfl, _, hk⟩, hb⟩
  obtain ⟨W10, hW10⟩ : ∃ W10, W10 = w10.alloc (.cells #[.int .i64 t.day, .slice (some ⟨g9, 0, none⟩) t.bn t.bn, .int .i64 t.sew, .int .i64 t.tax] 25) := ⟨_, rfl⟩
  have S4 : Hid (LcA t la lk X n b kb w W10) := by show LcA _ _ _ _ _ _ _ _ _; rw [hW10]; exact (S3.out.below hb).below (nbel_alloc _ _)
  have R9 : Hid (W10.rowIs w10.heap.size 25 4 (rowN (tfL t (some ⟨g9, 0, none⟩) t.bn))) := by show World.rowIs _ _ _ _ _; rw [hW10]; exact rowN_alloc w10 _ _
  have K9 : Hid (IsBlk 73 g9 (t.bn * 2) t.B W10) := by show IsBlk _ _ _ _ _; rw [hW10]; exact hk.below (nbel_alloc _ _)
  have HW10 := Lib.hid hW10
  clear hb hk hW10 S3
  obtain ⟨⟨y0, y1, y2, y3, y4, y5, y6⟩, _⟩ := rowN7 S4.out.rb
  rw [HW10.out] at y0 y1 y2 y3 y4 y5 y6
  go_wp2_with fail
  rw [← HW10.out]
  clear y0 y1 y2 y3 y4 y5 y6
  clear HW10
  refine (toBill_any X n L b kb _ (HL.out.below S4.out.bel) HSN.out).mono ?_
  rintro e w11 ⟨⟨g10, rfl, _, hk⟩, hb⟩
  obtain ⟨W11, hW11⟩ : ∃ W11, W11 = w11.alloc (.cells #[.int .i64 X.days, .slice (some ⟨g10, 0, none⟩) n n, .int .i64 X.sew, .int .i64 X.net, .int .i64 X.tax, .int .i64 X.gross, .int .i64 X.code] 30) := ⟨_, rfl⟩
  have hb11 : Below W10.heap.size W10 W11 := hb.trans (by rw [hW11]; exact (nbel_alloc _ _).mono hb.size)
  have S5 : Hid (LcB t la lk X n b kb L w10.heap.size g9 w11.heap.size g10 w W11) := by
    have q := S4.out.below hb11
    exact ⟨q.ra, q.rb, nrow_below R9.out hb11, K9.out.below hb11, by rw [hW11]; exact rowN_alloc w11 _ _, by rw [hW11]; exact hk.below (nbel_alloc _ _), q.bel⟩
  have HW11 := Lib.hid hW11
  clear hb hk hW11 hb11 S4 R9 K9
  obtain ⟨⟨r0, r1, r2, r3⟩, _⟩ := rowN4 S5.out.r9
  obtain ⟨⟨y0, y1, y2, y3, y4, y5, y6⟩, _⟩ := rowN7 S5.out.r10
  rw [HW11.out] at r0 r1 r2 r3 y0 y1 y2 y3 y4 y5 y6
  go_wp2_with fail
  rw [← HW11.out]
  clear r0 r1 r2 r3
  clear y0 y1 y2 y3 y4 y5 y6
  clear HW11
  refine (implBRight_any t _ _ x ⟨X, n, L⟩ _ _ _ S5.out.k9.at_ hl (isat_in S5.out.k10.at_) HZ.out (HG.out.below S5.out.bel)).mono ?_
  rintro e w12 ⟨rfl, hb⟩
  rw [← HBE.out]
  have S6 := Lib.hid (S5.out.below hb)
  clear hb S5
  have hbb : (bb != bb) = false := by simp
  go_wp2_with fail
  refine wp_region_held_drew (S := LcB t la lk X n b kb L w10.heap.size g9 w11.heap.size g10 w) (by kernel_rfl) (S6.out.below (Below.refl _ _).drew) (fun hHeld => ?_)
  clear S6
  refine take_do (i := 0) (v := (tfV t (some ⟨g9, 0, none⟩) t.bn)) rfl (by kernel_rfl) (by kernel_rfl) (by kernel_rfl) (fun _ _ _ h => h) (by rfl) ?_ (by assumption) ?_
  · intro w hSw
    obtain ⟨⟨a0, a1, a2, a3⟩, _⟩ := rowN4 hSw.ra
    obtain ⟨⟨c0, c1, c2, c3⟩, _⟩ := rowN4 hSw.r9
    go_simp
  simp only [Act.put, List.setIfInBounds_toArray, List.set_cons_zero, List.set_cons_succ]
  refine take_do (i := 1) (v := (tfV t la lk)) rfl (by kernel_rfl) (by kernel_rfl) (by kernel_rfl) (fun _ _ _ h => h) (by rfl) ?_ (by assumption) ?_
  · intro w hSw
    obtain ⟨⟨a0, a1, a2, a3⟩, _⟩ := rowN4 hSw.ra
    obtain ⟨⟨c0, c1, c2, c3⟩, _⟩ := rowN4 hSw.r9
    go_simp
  simp only [Act.put, List.setIfInBounds_toArray, List.set_cons_zero, List.set_cons_succ]
  refine take_call (i := 2) rfl (by kernel_rfl) (fun K2 hK => ?_)
  go_simp
  refine (toTariff_any t la lk _ (H.out.below hHeld.bel) HS.out).mono ?_
  rintro e w13 ⟨⟨gl3, rfl, _, hk6⟩, hb6⟩
  have HK6 := Lib.hid hk6
  go_wp2_with fail
  refine hK.out _ _ (hHeld.below hb6) (fun hHeld2 => ?_)
  clear hK hHeld hb6 hk6
  refine take_call (i := 3) rfl (by kernel_rfl) (fun K2 hK => ?_)
  go_simp
  refine (eqTariff_same t _ _ _ _ _ hHeld2.k9.at_ HK6.out.at_ HS.out).mono ?_
  rintro e w14 ⟨rfl, hb7⟩
  go_wp2_with fail
  refine hK.out _ _ (hHeld2.below hb7) (fun hHeld => ?_)
  clear hK hHeld2 hb7
  refine take_do (i := 4) (v := (.bool false)) rfl (by kernel_rfl) (by kernel_rfl) (by kernel_rfl) (fun _ _ _ h => h) (by rfl) ?_ (by assumption) ?_
  · intro w hSw
    go_simp
  simp only [Act.put, List.setIfInBounds_toArray, List.set_cons_zero, List.set_cons_succ]
  refine wpAnyH_done (by kernel_rfl) ?_ _
  have S7 := Lib.hid hHeld
  clear hHeld HK6
  go_wp2_with fail
  refine wp_region_held_drew (S := LcB t la lk X n b kb L w10.heap.size g9 w11.heap.size g10 w) (by kernel_rfl) (S7.out.below (Below.refl _ _).drew) (fun hHeld => ?_)
  clear S7
  refine take_do (i := 0) (v := (blV X n (some ⟨g10, 0, none⟩) n)) rfl (by kernel_rfl) (by kernel_rfl) (by kernel_rfl) (fun _ _ _ h => h) (by rfl) ?_ (by assumption) ?_
  · intro w hSw
    obtain ⟨⟨b0, b1, b2, b3, b4, b5, b6⟩, _⟩ := rowN7 hSw.rb
    obtain ⟨⟨c0, c1, c2, c3, c4, c5, c6⟩, _⟩ := rowN7 hSw.r10
    go_simp
  simp only [Act.put, List.setIfInBounds_toArray, List.set_cons_zero, List.set_cons_succ]
  refine take_do (i := 1) (v := (blV X n b kb)) rfl (by kernel_rfl) (by kernel_rfl) (by kernel_rfl) (fun _ _ _ h => h) (by rfl) ?_ (by assumption) ?_
  · intro w hSw
    obtain ⟨⟨b0, b1, b2, b3, b4, b5, b6⟩, _⟩ := rowN7 hSw.rb
    obtain ⟨⟨c0, c1, c2, c3, c4, c5, c6⟩, _⟩ := rowN7 hSw.r10
    go_simp
  simp only [Act.put, List.setIfInBounds_toArray, List.set_cons_zero, List.set_cons_succ]
  refine take_call (i := 2) rfl (by kernel_rfl) (fun K2 hK => ?_)
  go_simp
  refine (toBill_any X n L b kb _ (HL.out.below hHeld.bel) HSN.out).mono ?_
  rintro e w15 ⟨⟨gl3, rfl, _, hk6⟩, hb6⟩
  have HK6 := Lib.hid hk6
  go_wp2_with fail
  refine hK.out _ _ (hHeld.below hb6) (fun hHeld2 => ?_)
  clear hK hHeld hb6 hk6
  refine take_call (i := 3) rfl (by kernel_rfl) (fun K2 hK => ?_)
  go_simp
  refine (eqBill_same X n L _ _ _ _ _ (isat_in hHeld2.k10.at_) (isat_in HK6.out.at_) HSN.out).mono ?_
  rintro e w16 ⟨rfl, hb7⟩
  go_wp2_with fail
  refine hK.out _ _ (hHeld2.below hb7) (fun hHeld => ?_)
  clear hK hHeld2 hb7
  refine take_do (i := 4) (v := (.bool false)) rfl (by kernel_rfl) (by kernel_rfl) (by kernel_rfl) (fun _ _ _ h => h) (by rfl) ?_ (by assumption) ?_
  · intro w hSw
    go_simp
  simp only [Act.put, List.setIfInBounds_toArray, List.set_cons_zero, List.set_cons_succ]
  refine wpAnyH_done (by kernel_rfl) ?_ _
  have S8 := Lib.hid hHeld
  clear hHeld HK6
  go_wp2_with fail
  go_ret
  exact ⟨rfl, S8.out.bel⟩
end Go.Proofs.YtnbnfifgajfomaaDoor
