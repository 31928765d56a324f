/-
  The law FnExactBillMake.
-/
import Derived.Test.YtnbnfifgajfomaaDoorBiMi
import Derived.Test.YtnbnfifgajfomaaDoorBiMs
import Derived.Test.YtnbnfifgajfomaaDoorBiEx
namespace Go.Proofs.YtnbnfifgajfomaaDoor
open Go.RowKit Go.Deep

namespace Bi
noncomputable def ansX (t : T) (d x : Int) : Bl := if dB (Ok t d x) = true then bill t d x else bad
noncomputable def ansN (t : T) (d x : Int) : Nat := if dB (Ok t d x) = true then t.bn else 0
theorem ansN_le (t : T) (d x : Int) : ansN t d x ≤ 10 := by
  unfold ansN
  by_cases h : Ok t d x
  · rw [dB_tt h, if_pos rfl]; exact h.1.2.1.1.2
  · rw [dB_ff h]; simp
end Bi
theorem BlEnd.tell {B : Nat} {t : Bi.T} {d x : Int} {e : Ending} {W : World} (h : BlEnd B t d x e W) : ∃ a c, e = .returned (blV (Bi.ansX t d x) (Bi.ansN t d x) a c) ∧ QsOwn B (Bi.ansN t d x) a c (Bi.line t x) W := by
  unfold Bi.ansX Bi.ansN
  rcases h with ⟨h, e⟩ | ⟨h, a, c, e, k⟩
  · rw [Bi.dB_ff h]; exact ⟨none, 0, by simpa using e, Or.inl ⟨rfl, rfl, rfl⟩⟩
  · rw [Bi.dB_tt h]; exact ⟨a, c, by simpa using e, by simpa using k⟩
/-- What stands in the law between its calls. -/
structure LbS (t : Bi.T) (la : Option Addr) (lk : Nat) (X : Bi.Bl) (N s8 : Nat) (a5 : Option Addr) (c5 s9 g9 s10 h10 : Nat) (a6 : Option Addr) (c6 : Nat) (U V F : Nat → Int) (w W : World) : Prop where
  ra : W.rowIs w.heap.size 44 4 (rowN (tfL t la lk))
  r8 : W.rowIs s8 30 7 (rowN (blL X N a5 c5))
  t8 : QsOwn w.heap.size N a5 c5 U W
  r9 : W.rowIs s9 25 4 (rowN (tfL t (some ⟨g9, 0, none⟩) t.bn))
  k9 : IsBlk 73 g9 (t.bn * 2) F W
  r10 : W.rowIs s10 30 7 (rowN (blL X N a6 c6))
  t10 : QsOwn h10 N a6 c6 V W
  o : s8 < h10 ∧ s9 < h10 ∧ g9 < h10 ∧ h10 ≤ s10 ∧ w.heap.size < h10 ∧ w.heap.size ≤ s8 ∧ w.heap.size ≤ g9 ∧ ∀ k, (Value.slice a5 N c5).ownBlock = some k → k < h10
  bel : Below w.heap.size w W
section
variable {t : Bi.T} {la : Option Addr} {lk : Nat} {X : Bi.Bl} {N s8 : Nat} {a5 : Option Addr} {c5 s9 g9 s10 h10 : Nat} {a6 : Option Addr} {c6 : Nat} {U V V' F F' : Nat → Int} {w W W' : World}
theorem LbS.below (h : LbS t la lk X N s8 a5 c5 s9 g9 s10 h10 a6 c6 U V F w W) (hb : Below W.heap.size W W') : LbS t la lk X N s8 a5 c5 s9 g9 s10 h10 a6 c6 U V F w W' :=
  ⟨nrow_below h.ra hb, nrow_below h.r8 hb, h.t8.below hb, nrow_below h.r9 hb, h.k9.below hb, nrow_below h.r10 hb, h.t10.below hb, h.o, h.bel.trans (hb.mono h.bel.size)⟩
theorem LbS.markB (h : LbS t la lk X N s8 a5 c5 s9 g9 s10 h10 a6 c6 U V F w W) (ht : QsOwn h10 N a6 c6 V' W') (hk : ∀ k, k < W.heap.size → (Value.slice a6 N c6).ownBlock ≠ some k → W'.heap[k]? = W.heap[k]?) (hm : W'.os = W.os ∧ W'.tape = W.tape ∧ W'.output = W.output ∧ W.heap.size ≤ W'.heap.size) : LbS t la lk X N s8 a5 c5 s9 g9 s10 h10 a6 c6 U V' F w W' := by
  have o := h.o
  have lt : ∀ k, (Value.slice a6 N c6).ownBlock = some k → h10 ≤ k := fun k e => (h.t10.lt e).1
  have ne : ∀ k, k < h10 → (Value.slice a6 N c6).ownBlock ≠ some k := fun k hk e => by have := lt k e; omega
  exact ⟨h.ra.of_block (hk _ h.ra.lt (ne _ o.2.2.2.2.1)), h.r8.of_block (hk _ h.r8.lt (ne _ o.1)), h.t8.same (fun k e h2 => hk k h2 (ne _ (o.2.2.2.2.2.2.2 k e))), h.r9.of_block (hk _ h.r9.lt (ne _ o.2.1)), h.k9.block (hk _ h.k9.lt (ne _ o.2.2.1)), h.r10.of_block (hk _ h.r10.lt (h.t10.ne h.r10 (by decide))), ht, o, h.bel.trans ⟨hm.1, hm.2.1, hm.2.2.1, hm.2.2.2, fun k hk2 => hk k (by have := h.ra.lt; omega) (ne _ (by omega))⟩⟩
theorem LbS.markT (h : LbS t la lk X N s8 a5 c5 s9 g9 s10 h10 a6 c6 U V F w W) (ht : LsOwn 73 2 w.heap.size t.bn (some ⟨g9, 0, none⟩) t.bn F' W') (hk : ∀ k, k < W.heap.size → some (⟨g9, 0, none⟩ : Addr) ≠ some ⟨k, 0, none⟩ → W'.heap[k]? = W.heap[k]?) (hm : W'.os = W.os ∧ W'.tape = W.tape ∧ W'.output = W.output ∧ W.heap.size ≤ W'.heap.size) : LbS t la lk X N s8 a5 c5 s9 g9 s10 h10 a6 c6 U V F' w W' := by
  have o := h.o
  have rne : ∀ {s n : Nat} {T : TypeId} {G : Nat → Value}, W.rowIs s T n G → T ≠ 73 → W'.rowIs s T n G := fun {s n T G} hr hT => hr.of_block (hk s hr.lt (fun e => by
    cases e
    obtain ⟨_, q1, _⟩ := hr
    obtain ⟨_, _, _, q2, _⟩ := h.k9
    obtain ⟨_, q3, _⟩ := q2
    rw [q1] at q3
    simp at q3
    exact hT q3.2))
  have qne : ∀ {B : Nat} {a : Option Addr} {c : Nat} {f : Nat → Int}, QsOwn B N a c f W → QsOwn B N a c f W' := fun {B a c f} hq => hq.same (fun k e hl => hk k hl (fun e2 => by
    cases e2
    rcases hq with ⟨rfl, _⟩ | ⟨g, o, rfl, _, m, G, _, hr, _⟩
    · cases e
    · cases e
      obtain ⟨_, q1, _⟩ := hr
      obtain ⟨_, _, _, q2, _⟩ := h.k9
      obtain ⟨_, q3, _⟩ := q2
      rw [q1] at q3
      simp at q3))
  refine ⟨rne h.ra (by decide), rne h.r8 (by decide), qne h.t8, rne h.r9 (by decide), ?_, rne h.r10 (by decide), qne h.t10, o, h.bel.trans ⟨hm.1, hm.2.1, hm.2.2.1, hm.2.2.2, fun k hk2 => hk k (by have := h.ra.lt; omega) (fun e => by cases e; omega)⟩⟩
  rcases ht with ⟨e, _⟩ | ⟨g, e, _, h2⟩
  · cases e
  · cases e; exact h2
end
set_option maxRecDepth 100000 in
set_option maxHeartbeats 16000000 in
theorem billMake_law (w : World) (t : Bi.T) (la : Option Addr) (lk : Nat) (h : IsIn la (t.bn * 2) t.B w) (hl : t.bn ≤ 9223372036854775807) (d x : Int) (hg : Et w) :
    Calls Tryd.prog 5 #[tfV t la lk, .int .i64 d, .int .i64 x] w fun e w' => e = .returned (.bool true) ∧ Below w.heap.size w w' := by
  have H := Lib.hid h
  have HG := Lib.hid hg
  obtain ⟨W, hW⟩ : ∃ W, W = w.alloc (.cells #[.int .i64 t.day, .slice la t.bn lk, .int .i64 t.sew, .int .i64 t.tax] 44) := ⟨_, rfl⟩
  have R0 : Hid (W.rowIs w.heap.size 44 4 (rowN (tfL t la lk))) := by show W.rowIs _ _ _ _; rw [hW]; exact rowN_alloc w _ _
  have B0 : Hid (Below w.heap.size w W) := by show Below _ _ _; rw [hW]; exact nbel_alloc _ _
  have HW := Lib.hid hW
  clear h hg hW
  obtain ⟨X, hX⟩ : ∃ X, X = Bi.ansX t d x := ⟨_, rfl⟩
  obtain ⟨N, hN⟩ : ∃ N, N = Bi.ansN t d x := ⟨_, rfl⟩
  obtain ⟨U, hU⟩ : ∃ U, U = Bi.line t x := ⟨_, rfl⟩
  have hN1 : N ≤ 1048576 := by rw [hN]; have := Bi.ansN_le t d x; omega
  have HX := Lib.hid hX
  have HN := Lib.hid hN
  have HU := Lib.hid hU
  have HN1 := Lib.hid hN1
  clear hX hN hU hN1
  go_enter Tryd.func5, Tryd.ntmps5
  go_wp2_with fail
  rw [← HW.out]
  clear HW
  refine (szTariff_any t la lk 1048576 _ (by omega) hl).mono ?_
  rintro e w1 ⟨hz, hb⟩
  have R1 := Lib.hid (nrow_below R0.out hb)
  have B1 : Hid (Below w.heap.size w w1) := B0.out.trans (hb.mono B0.out.size)
  clear hb R0 B0
  rcases hz with ⟨z, rfl, hz⟩ | ⟨hs, rfl⟩
  · go_wp2_with fail
    go_ret
    exact ⟨rfl, B1.out⟩
  have HS := Lib.hid hs
  have hz0 : ¬ ((1048576 - t.bn : Nat) : Int) < 0 := by omega
  clear hs
  obtain ⟨⟨r0, r1, r2, r3⟩, _⟩ := rowN4 R1.out
  go_wp2_with fail
  refine (toTariff_any t la lk _ (H.out.below B1.out) HS.out).mono ?_
  rintro e w2 ⟨⟨g2, rfl, _, hk⟩, hb⟩
  have R2 := Lib.hid (nrow_below R1.out hb)
  have B2 : Hid (Below w.heap.size w w2) := B1.out.trans (hb.mono B1.out.size)
  have K2 := Lib.hid hk
  clear hb hk R1 B1 r0 r1 r2 r3 hz0
  go_wp2_with fail
  refine (specBill_any t _ _ d x _ K2.out.at_ hl).mono ?_
  rintro e w3 ⟨hE, hb⟩
  obtain ⟨a5, c5, rfl, hown⟩ := hE.tell
  rw [← HX.out, ← HN.out]
  rw [← HN.out, ← HU.out] at hown
  obtain ⟨W3, hW3⟩ : ∃ W3, W3 = w3.alloc (.cells #[.int .i64 X.days, .slice a5 N c5, .int .i64 X.sew, .int .i64 X.net, .int .i64 X.tax, .int .i64 X.gross, .int .i64 X.code] 30) := ⟨_, rfl⟩
  obtain ⟨s8, hs8⟩ : ∃ s, s = w3.heap.size := ⟨_, rfl⟩
  have hb3 : Below w2.heap.size w2 W3 := hb.trans (by rw [hW3]; exact (nbel_alloc _ _).mono hb.size)
  have R3 := Lib.hid (nrow_below R2.out hb3)
  have B3 : Hid (Below w.heap.size w W3) := B2.out.trans (hb3.mono B2.out.size)
  have R83 : Hid (W3.rowIs s8 30 7 (rowN (blL X N a5 c5))) := by show World.rowIs _ _ _ _ _; rw [hW3, hs8]; exact rowN_alloc w3 _ _
  have T83 : Hid (QsOwn w.heap.size N a5 c5 U W3) := by show QsOwn _ _ _ _ _ _; rw [hW3]; exact (hown.low B2.out.size).below (nbel_alloc _ _)
  have O8 : Hid (w.heap.size ≤ s8) := by show _ ≤ _; rw [hs8]; exact Nat.le_trans B2.out.size hb.size
  have HW3 := Lib.hid hW3
  have HS8 := Lib.hid hs8
  clear hb hb3 hE hown hW3 hs8 R2 B2 K2
  obtain ⟨⟨r0, r1, r2, r3⟩, _⟩ := rowN4 R3.out
  rw [HW3.out] at r0 r1 r2 r3
  go_wp2_with fail
  rw [← HW3.out, ← HS8.out]
  clear HW3 HS8 r0 r1 r2 r3
  refine (toTariff_any t la lk _ (H.out.below B3.out) HS.out).mono ?_
  rintro e w4 ⟨⟨g9, rfl, hg9, hk⟩, hb⟩
  obtain ⟨W4, hW4⟩ : ∃ W4, W4 = w4.alloc (.cells #[.int .i64 t.day, .slice (some ⟨g9, 0, none⟩) t.bn t.bn, .int .i64 t.sew, .int .i64 t.tax] 25) := ⟨_, rfl⟩
  obtain ⟨s9, hs9⟩ : ∃ s, s = w4.heap.size := ⟨_, rfl⟩
  have hb4 : Below W3.heap.size W3 W4 := hb.trans (by rw [hW4]; exact (nbel_alloc _ _).mono hb.size)
  have R4 := Lib.hid (nrow_below R3.out hb4)
  have B4 : Hid (Below w.heap.size w W4) := B3.out.trans (hb4.mono B3.out.size)
  have R84 := Lib.hid (nrow_below R83.out hb4)
  have T84 := Lib.hid (T83.out.below hb4)
  have R94 : Hid (W4.rowIs s9 25 4 (rowN (tfL t (some ⟨g9, 0, none⟩) t.bn))) := by show World.rowIs _ _ _ _ _; rw [hW4, hs9]; exact rowN_alloc w4 _ _
  have K94 : Hid (IsBlk 73 g9 (t.bn * 2) t.B W4) := by show IsBlk _ _ _ _ _; rw [hW4]; exact hk.below (nbel_alloc _ _)
  have O9 : Hid (w.heap.size ≤ g9) := Nat.le_trans B3.out.size hg9
  have HW4 := Lib.hid hW4
  have HS9 := Lib.hid hs9
  clear hb hb4 hk hW4 hs9 hg9 R3 B3 R83 T83
  obtain ⟨⟨r0, r1, r2, r3⟩, _⟩ := rowN4 R94.out
  rw [HW4.out, HS9.out] at r0 r1 r2 r3
  go_wp2_with fail
  rw [← HW4.out, ← HS9.out]
  clear HW4 HS9 r0 r1 r2 r3
  refine (implBill_any t _ _ d x _ K94.out.at_ hl (HG.out.below B4.out)).mono ?_
  rintro e w5 ⟨hE, hb⟩
  obtain ⟨a6, c6, rfl, hown⟩ := hE.tell
  rw [← HX.out, ← HN.out]
  rw [← HN.out, ← HU.out] at hown
  obtain ⟨h10, hh10⟩ : ∃ h, h = W4.heap.size := ⟨_, rfl⟩
  rw [← hh10] at hown
  obtain ⟨W5, hW5⟩ : ∃ W5, W5 = w5.alloc (.cells #[.int .i64 X.days, .slice a6 N c6, .int .i64 X.sew, .int .i64 X.net, .int .i64 X.tax, .int .i64 X.gross, .int .i64 X.code] 30) := ⟨_, rfl⟩
  obtain ⟨s10, hs10⟩ : ∃ s, s = w5.heap.size := ⟨_, rfl⟩
  have hb5 : Below W4.heap.size W4 W5 := hb.trans (by rw [hW5]; exact (nbel_alloc _ _).mono hb.size)
  have LS0 : Hid (LbS t la lk X N s8 a5 c5 s9 g9 s10 h10 a6 c6 U (U) (t.B) w W5) := by
    refine ⟨nrow_below R4.out hb5, nrow_below R84.out hb5, T84.out.below hb5, nrow_below R94.out hb5, K94.out.below hb5, by rw [hW5, hs10]; exact rowN_alloc w5 _ _, by rw [hW5]; exact hown.below (nbel_alloc _ _), ⟨by rw [hh10]; exact R84.out.lt, by rw [hh10]; exact R94.out.lt, by rw [hh10]; exact K94.out.lt, by rw [hh10, hs10]; exact hb.size, by rw [hh10]; exact R4.out.lt, O8.out, O9.out, fun k e => by rw [hh10]; exact (T84.out.lt e).2⟩, B4.out.trans (hb5.mono B4.out.size)⟩
  have HW5 := Lib.hid hW5
  have HS10 := Lib.hid hs10
  clear hb hb5 hE hown hW5 hs10 hh10 R4 B4 R84 T84 R94 K94 O8 O9
  obtain ⟨⟨y0, y1, y2, y3, y4, y5, y6⟩, _⟩ := rowN7 LS0.out.r10
  obtain ⟨⟨u0, u1, u2, u3, u4, u5, u6⟩, _⟩ := rowN7 LS0.out.r8
  rw [HW5.out, HS10.out] at y0 y1 y2 y3 y4 y5 y6
  rw [HW5.out] at u0 u1 u2 u3 u4 u5 u6
  go_wp2_with fail
  rw [← HW5.out, ← HS10.out]
  clear y0 y1 y2 y3 y4 y5 y6 u0 u1 u2 u3 u4 u5 u6
  clear HW5 HS10
  refine (eqBill_same X N U a6 a5 c6 c5 _ LS0.out.t10.in_ LS0.out.t8.in_ HN1.out).mono ?_
  rintro e w6 ⟨rfl, hb⟩
  have LS1 : Hid (LbS t la lk X N s8 a5 c5 s9 g9 s10 h10 a6 c6 U (U) (t.B) w w6) := LS0.out.below hb
  clear hb LS0
  go_wp2_with fail
  refine wp_region_held_drew (S := LbS t la lk X N s8 a5 c5 s9 g9 s10 h10 a6 c6 U (U) (t.B) w) (by kernel_rfl) (LS1.out.below (Below.refl _ _).drew) (fun hHeld => ?_)
  clear LS1
  refine take_do (i := 0) (v := (tfV t (some ⟨g9, 0, none⟩) t.bn)) rfl (by kernel_rfl) (by kernel_rfl) (by kernel_rfl) (fun _ _ _ h => h) (by rfl) ?_ (by assumption) ?_
  · intro w hSw
    obtain ⟨⟨a0, a1, a2, a3⟩, _⟩ := rowN4 hSw.r9
    go_simp
  simp only [Act.put, List.setIfInBounds_toArray, List.set_cons_zero, List.set_cons_succ]
  refine take_do (i := 1) (v := (tfV t la lk)) rfl (by kernel_rfl) (by kernel_rfl) (by kernel_rfl) (fun _ _ _ h => h) (by rfl) ?_ (by assumption) ?_
  · intro w hSw
    obtain ⟨⟨a0, a1, a2, a3⟩, _⟩ := rowN4 hSw.ra
    go_simp
  simp only [Act.put, List.setIfInBounds_toArray, List.set_cons_zero, List.set_cons_succ]
  refine take_call (i := 2) rfl (by kernel_rfl) (fun K2 hK => ?_)
  go_simp
  refine (toTariff_any t la lk _ (H.out.below hHeld.bel) HS.out).mono ?_
  rintro e w7 ⟨⟨gl3, rfl, _, hk6⟩, hb6⟩
  have HK6 := Lib.hid hk6
  go_wp2_with fail
  refine hK.out _ _ (hHeld.below hb6) (fun hHeld2 => ?_)
  clear hK hHeld hb6 hk6
  refine take_call (i := 3) rfl (by kernel_rfl) (fun K2 hK => ?_)
  go_simp
  refine (eqTariff_same t _ _ _ _ _ hHeld2.k9.at_ HK6.out.at_ HS.out).mono ?_
  rintro e w8 ⟨rfl, hb7⟩
  go_wp2_with fail
  refine hK.out _ _ (hHeld2.below hb7) (fun hHeld => ?_)
  clear hK hHeld2 hb7
  refine take_do (i := 4) (v := (.bool false)) rfl (by kernel_rfl) (by kernel_rfl) (by kernel_rfl) (fun _ _ _ h => h) (by rfl) ?_ (by assumption) ?_
  · intro w hSw
    go_simp
  simp only [Act.put, List.setIfInBounds_toArray, List.set_cons_zero, List.set_cons_succ]
  refine wpAnyH_done (by kernel_rfl) ?_ _
  have LS2 := Lib.hid hHeld
  clear hHeld HK6
  obtain ⟨⟨r0, r1, r2, r3⟩, _⟩ := rowN4 LS2.out.r9
  go_wp2_with fail
  clear r0 r1 r2 r3
  refine (markTariff_any t (B := w.heap.size) (f := t.B) _ (Or.inr ⟨g9, rfl, LS2.out.o.2.2.2.2.2.2.1, LS2.out.k9⟩) HS.out).mono ?_
  rintro e w9 ⟨rfl, hm, hk, hr⟩
  have LS3 : Hid (LbS t la lk X N s8 a5 c5 s9 g9 s10 h10 a6 c6 U (U) (mk1 1) w w9) := LS2.out.markT hm hk hr
  clear hm hk hr LS2
  obtain ⟨K, hK⟩ : ∃ K : Nat, K = 1 + t.bn * 2 := ⟨_, rfl⟩
  rw [← hK]
  have hK0 : ¬ (K : Int) < 0 := by omega
  clear hK
  obtain ⟨⟨y0, y1, y2, y3, y4, y5, y6⟩, _⟩ := rowN7 LS3.out.r10
  obtain ⟨⟨u0, u1, u2, u3, u4, u5, u6⟩, _⟩ := rowN7 LS3.out.r8
  go_wp2_with fail
  clear y0 y1 y2 y3 y4 y5 y6 u0 u1 u2 u3 u4 u5 u6
  refine (eqBill_same X N U a6 a5 c6 c5 _ LS3.out.t10.in_ LS3.out.t8.in_ HN1.out).mono ?_
  rintro e w10 ⟨rfl, hb⟩
  have LS4 : Hid (LbS t la lk X N s8 a5 c5 s9 g9 s10 h10 a6 c6 U (U) (mk1 1) w w10) := LS3.out.below hb
  clear hb LS3
  obtain ⟨⟨y0, y1, y2, y3, y4, y5, y6⟩, _⟩ := rowN7 LS4.out.r10
  go_wp2_with fail
  clear y0 y1 y2 y3 y4 y5 y6
  refine (markBill_any X N _ LS4.out.t10 HN1.out).mono ?_
  rintro e w11 ⟨rfl, hm, hk, hr⟩
  have LS5 : Hid (LbS t la lk X N s8 a5 c5 s9 g9 s10 h10 a6 c6 U (mk1 1) (mk1 1) w w11) := LS4.out.markB hm hk hr
  clear hm hk hr LS4
  obtain ⟨Q, hQ⟩ : ∃ Q : Nat, Q = 1 + N := ⟨_, rfl⟩
  have HQ : Hid (1 + N = Q) := hQ.symm
  rw [← hQ]
  have hQ0 : ¬ (Q : Int) < 0 := by omega
  have hQQ : ((Q : Int) != (Q : Int)) = false := by simp
  clear hQ
  obtain ⟨⟨y0, y1, y2, y3, y4, y5, y6⟩, _⟩ := rowN7 LS5.out.r10
  go_wp2_with fail
  clear y0 y1 y2 y3 y4 y5 y6
  refine (heldBill_any X N _ LS5.out.t10 HN1.out).mono ?_
  rintro e w12 ⟨rfl, hb⟩
  rw [HQ.out]
  have LS6 : Hid (LbS t la lk X N s8 a5 c5 s9 g9 s10 h10 a6 c6 U (mk1 1) (mk1 1) w w12) := LS5.out.below hb
  clear hb LS5
  obtain ⟨⟨r0, r1, r2, r3⟩, _⟩ := rowN4 LS6.out.ra
  go_wp2_with fail
  clear r0 r1 r2 r3
  refine (toTariff_any t la lk _ (H.out.below LS6.out.bel) HS.out).mono ?_
  rintro e w13 ⟨⟨g13, rfl, _, hk⟩, hb⟩
  have LS7 : Hid (LbS t la lk X N s8 a5 c5 s9 g9 s10 h10 a6 c6 U (mk1 1) (mk1 1) w w13) := LS6.out.below hb
  have K13 := Lib.hid hk
  clear hb hk LS6
  go_wp2_with fail
  refine (implBill_any t _ _ d x _ K13.out.at_ hl (HG.out.below LS7.out.bel)).mono ?_
  rintro e w14 ⟨hE, hb⟩
  obtain ⟨a9, c9, rfl, hown⟩ := hE.tell
  rw [← HX.out, ← HN.out]
  rw [← HN.out, ← HU.out] at hown
  obtain ⟨W14, hW14⟩ : ∃ W, W = w14.alloc (.cells #[.int .i64 X.days, .slice a9 N c9, .int .i64 X.sew, .int .i64 X.net, .int .i64 X.tax, .int .i64 X.gross, .int .i64 X.code] 30) := ⟨_, rfl⟩
  have hb14 : Below w13.heap.size w13 W14 := hb.trans (by rw [hW14]; exact (nbel_alloc _ _).mono hb.size)
  have LS8 : Hid (LbS t la lk X N s8 a5 c5 s9 g9 s10 h10 a6 c6 U (mk1 1) (mk1 1) w W14) := LS7.out.below hb14
  have O14 : Hid (QsOwn w13.heap.size N a9 c9 U W14) := by show QsOwn _ _ _ _ _ _; rw [hW14]; exact hown.below (nbel_alloc _ _)
  have R14 : Hid (W14.rowIs w14.heap.size 30 7 (rowN (blL X N a9 c9))) := by show World.rowIs _ _ _ _ _; rw [hW14]; exact rowN_alloc w14 _ _
  have HW14 := Lib.hid hW14
  clear hb hb14 hE hown hW14 LS7 K13
  obtain ⟨⟨y0, y1, y2, y3, y4, y5, y6⟩, _⟩ := rowN7 R14.out
  obtain ⟨⟨u0, u1, u2, u3, u4, u5, u6⟩, _⟩ := rowN7 LS8.out.r8
  rw [HW14.out] at y0 y1 y2 y3 y4 y5 y6 u0 u1 u2 u3 u4 u5 u6
  go_wp2_with fail
  rw [← HW14.out]
  clear y0 y1 y2 y3 y4 y5 y6 u0 u1 u2 u3 u4 u5 u6
  clear HW14
  refine (eqBill_same X N U a9 a5 c9 c5 _ O14.out.in_ LS8.out.t8.in_ HN1.out).mono ?_
  rintro e w15 ⟨rfl, hb⟩
  have LS9 : Hid (LbS t la lk X N s8 a5 c5 s9 g9 s10 h10 a6 c6 U (mk1 1) (mk1 1) w w15) := LS8.out.below hb
  clear hb LS8 O14 R14
  obtain ⟨⟨y0, y1, y2, y3, y4, y5, y6⟩, _⟩ := rowN7 LS9.out.r10
  go_wp2_with fail
  clear y0 y1 y2 y3 y4 y5 y6
  refine (heldBill_any X N _ LS9.out.t10 HN1.out).mono ?_
  rintro e w16 ⟨rfl, hb⟩
  rw [HQ.out]
  have LS10 : Hid (LbS t la lk X N s8 a5 c5 s9 g9 s10 h10 a6 c6 U (mk1 1) (mk1 1) w w16) := LS9.out.below hb
  clear hb LS9
  go_wp2_with fail
  go_ret
  exact ⟨rfl, LS10.out.bel⟩
end Go.Proofs.YtnbnfifgajfomaaDoor
