/-
  The law FnExactAccountRun.
-/
import Derived.Test.YtnbnfifgajfomaaDoorBiAr
import Derived.Test.YtnbnfifgajfomaaDoorBiAs
import Derived.Test.YtnbnfifgajfomaaDoorBiEx
namespace Go.Proofs.YtnbnfifgajfomaaDoor
open Go.RowKit Go.Deep

theorem Bi.ansO_le (E : Nat → Int) (n : Nat) : (Bi.ansO E n).length ≤ 100 := by
  unfold Bi.ansO
  by_cases h : Bi.code E n = 0
  · rw [if_pos h]
    have := Bi.good_of h
    have := (Bi.inv_at n this.2).len
    omega
  · rw [if_neg h]; simp
/-- What stands in the law between its calls. -/
structure LaS (n : Nat) (cr pd cd : Int) (N s5 : Nat) (a5 : Option Addr) (c5 g9 s6 h6 : Nat) (a6 : Option Addr) (c6 : Nat) (U V F : Nat → Int) (w W : World) : Prop where
  k9 : IsBlk 41 g9 (n * 2) F W
  r5 : W.rowIs s5 38 4 (rowN (acL cr pd cd N a5 c5))
  t5 : QsOwn w.heap.size N a5 c5 U W
  r6 : W.rowIs s6 38 4 (rowN (acL cr pd cd N a6 c6))
  t6 : QsOwn h6 N a6 c6 V W
  o : s5 < h6 ∧ g9 < h6 ∧ w.heap.size ≤ h6 ∧ w.heap.size ≤ g9 ∧ ∀ k, (Value.slice a5 N c5).ownBlock = some k → k < h6
  bel : Below w.heap.size w W
section
variable {n : Nat} {cr pd cd : Int} {N s5 : Nat} {a5 : Option Addr} {c5 g9 s6 h6 : Nat} {a6 : Option Addr} {c6 : Nat} {U V V' F F' : Nat → Int} {w W W' : World}
theorem LaS.below (h : LaS n cr pd cd N s5 a5 c5 g9 s6 h6 a6 c6 U V F w W) (hb : Below W.heap.size W W') : LaS n cr pd cd N s5 a5 c5 g9 s6 h6 a6 c6 U V F w W' :=
  ⟨h.k9.below hb, nrow_below h.r5 hb, h.t5.below hb, nrow_below h.r6 hb, h.t6.below hb, h.o, h.bel.trans (hb.mono h.bel.size)⟩
theorem LaS.markA (h : LaS n cr pd cd N s5 a5 c5 g9 s6 h6 a6 c6 U V F w W) (ht : QsOwn h6 N a6 c6 V' W') (hk : ∀ k, k < W.heap.size → (Value.slice a6 N c6).ownBlock ≠ some k → W'.heap[k]? = W.heap[k]?) (hm : W'.os = W.os ∧ W'.tape = W.tape ∧ W'.output = W.output ∧ W.heap.size ≤ W'.heap.size) : LaS n cr pd cd N s5 a5 c5 g9 s6 h6 a6 c6 U V' F w W' := by
  have o := h.o
  have lt : ∀ k, (Value.slice a6 N c6).ownBlock = some k → h6 ≤ k := fun k e => (h.t6.lt e).1
  have ne : ∀ k, k < h6 → (Value.slice a6 N c6).ownBlock ≠ some k := fun k hk e => by have := lt k e; omega
  have b := h.bel.size
  exact ⟨h.k9.block (hk _ h.k9.lt (ne _ o.2.1)), h.r5.of_block (hk _ h.r5.lt (ne _ o.1)), h.t5.same (fun k e h2 => hk k h2 (ne _ (o.2.2.2.2 k e))), h.r6.of_block (hk _ h.r6.lt (h.t6.ne h.r6 (by decide))), ht, o, h.bel.trans ⟨hm.1, hm.2.1, hm.2.2.1, hm.2.2.2, fun k hk2 => hk k (by omega) (ne _ (by omega))⟩⟩
theorem LaS.markE (h : LaS n cr pd cd N s5 a5 c5 g9 s6 h6 a6 c6 U V F w W) (ht : IsBlk 41 g9 (n * 2) F' W') (hk : ∀ k, k < W.heap.size → k ≠ g9 → W'.heap[k]? = W.heap[k]?) (hm : W'.os = W.os ∧ W'.tape = W.tape ∧ W'.output = W.output ∧ W.heap.size ≤ W'.heap.size) : LaS n cr pd cd N s5 a5 c5 g9 s6 h6 a6 c6 U V F' w W' := by
  have o := h.o
  have rne : ∀ {s : Nat} {G : Nat → Value}, W.rowIs s 38 4 G → W'.rowIs s 38 4 G := fun {s G} hr => hr.of_block (hk s hr.lt (fun e => by
    subst e
    obtain ⟨_, q1, _⟩ := hr
    obtain ⟨_, _, _, q2, _⟩ := h.k9
    obtain ⟨_, q3, _⟩ := q2
    rw [q1] at q3
    simp at q3))
  have qne : ∀ {B : Nat} {a : Option Addr} {c : Nat} {f : Nat → Int}, QsOwn B N a c f W → QsOwn B N a c f W' := fun {B a c f} hq => hq.same (fun k e hl => hk k hl (fun e2 => by
    subst e2
    rcases hq with ⟨rfl, _⟩ | ⟨g, o, rfl, _, m, G, _, hr, _⟩
    · cases e
    · cases e
      obtain ⟨_, q1, _⟩ := hr
      obtain ⟨_, _, _, q2, _⟩ := h.k9
      obtain ⟨_, q3, _⟩ := q2
      rw [q1] at q3
      simp at q3))
  have b := h.bel.size
  exact ⟨ht, rne h.r5, qne h.t5, rne h.r6, qne h.t6, o, h.bel.trans ⟨hm.1, hm.2.1, hm.2.2.1, hm.2.2.2, fun k hk2 => hk k (by omega) (by omega)⟩⟩
end
set_option maxRecDepth 100000 in
set_option maxHeartbeats 16000000 in
theorem accountRun_law (w : World) (la : Option Addr) (n cap : Nat) (E : Nat → Int) (h : IsIn la (n * 2) E w) (hl : n ≤ 9223372036854775807) (hg : Et w ∧ TabOk w) :
    Calls Tryd.prog 7 #[.slice la n cap] w fun e w' => e = .returned (.bool true) ∧ Below w.heap.size w w' := by
  have H := Lib.hid h
  have HG := Lib.hid hg
  clear h hg
  by_cases hbig : 1048576 < n
  · go_enter Tryd.func7, Tryd.ntmps7
    go_wp2_with fail
    refine (nszEntry_over la n cap 1048576 _ hbig (by omega) hl).mono ?_
    rintro e w1 ⟨rfl, rfl⟩
    go_wp2_with fail
    go_ret
    exact ⟨rfl, Below.refl _ _⟩
  have hn : n ≤ 1048576 := by omega
  have hz : ¬ ((1048576 - n : Nat) : Int) < 0 := by omega
  obtain ⟨cr, hcr⟩ : ∃ x, x = Bi.ansC E n := ⟨_, rfl⟩
  obtain ⟨pd, hpd⟩ : ∃ x, x = Bi.ansP E n := ⟨_, rfl⟩
  obtain ⟨cd, hcd⟩ : ∃ x, x = Bi.code E n := ⟨_, rfl⟩
  obtain ⟨N, hN⟩ : ∃ N, N = (Bi.ansO E n).length := ⟨_, rfl⟩
  obtain ⟨U, hU⟩ : ∃ U, U = qf (Bi.ansO E n) := ⟨_, rfl⟩
  have hN1 : N ≤ 1048576 := by rw [hN]; have := Bi.ansO_le E n; omega
  have HC := Lib.hid hcr
  have HP := Lib.hid hpd
  have HD := Lib.hid hcd
  have HN := Lib.hid hN
  have HU := Lib.hid hU
  have HN1 := Lib.hid hN1
  have HNS := Lib.hid hn
  clear hcr hpd hcd hN hU hN1 hbig hl
  go_enter Tryd.func7, Tryd.ntmps7
  go_wp2_with fail
  refine (nszEntry_in la n cap 1048576 _ hn (by omega)).mono ?_
  rintro e w1 ⟨rfl, hw1⟩
  rw [hw1]
  clear hw1 w1
  go_wp2_with fail
  refine (ntoEntryS_any la n cap E _ H.out HNS.out).mono ?_
  rintro e w3 ⟨⟨rfl, hk⟩, hb⟩
  have B3 : Hid (Below w.heap.size w w3) := hb
  have K3 := Lib.hid hk
  clear hb hk hz
  go_wp2_with fail
  refine (specAcc_any _ n n E _ K3.out.at_ (by have := HNS.out; omega)).mono ?_
  rintro e w4 ⟨hE, hb⟩
  obtain ⟨a5, c5, rfl, hown⟩ := hE
  rw [← HC.out, ← HP.out, ← HD.out, ← HN.out]
  rw [← HN.out, ← HU.out] at hown
  obtain ⟨W5, hW5⟩ : ∃ W5, W5 = w4.alloc (.cells #[.slice a5 N c5, .int .i64 cr, .int .i64 pd, .int .i64 cd] 38) := ⟨_, rfl⟩
  obtain ⟨s5, hs5⟩ : ∃ s, s = w4.heap.size := ⟨_, rfl⟩
  have hb5 : Below w3.heap.size w3 W5 := hb.trans (by rw [hW5]; exact (nbel_alloc _ _).mono hb.size)
  have B5 : Hid (Below w.heap.size w W5) := B3.out.trans (hb5.mono B3.out.size)
  have R5 : Hid (W5.rowIs s5 38 4 (rowN (acL cr pd cd N a5 c5))) := by show World.rowIs _ _ _ _ _; rw [hW5, hs5]; exact rowN_alloc w4 _ _
  have O5 : Hid (QsOwn w.heap.size N a5 c5 U W5) := by show QsOwn _ _ _ _ _ _; rw [hW5]; exact (hown.low B3.out.size).below (nbel_alloc _ _)
  have HW5 := Lib.hid hW5
  have HS5 := Lib.hid hs5
  clear hb hb5 hown hW5 hs5 B3 K3
  go_wp2_with fail
  rw [← HW5.out, ← HS5.out]
  clear HW5 HS5
  refine (ntoEntryS_any la n cap E _ (H.out.below B5.out) HNS.out).mono ?_
  rintro e w6 ⟨⟨rfl, hk⟩, hb⟩
  obtain ⟨g9, hg9⟩ : ∃ g, g = W5.heap.size := ⟨_, rfl⟩
  rw [← hg9] at hk ⊢
  have HGW : Hid (w.heap.size ≤ g9) := by show _ ≤ _; rw [hg9]; exact B5.out.size
  have B6 : Hid (Below w.heap.size w w6) := B5.out.trans (hb.mono B5.out.size)
  have O6 := Lib.hid (O5.out.below hb)
  have R6 := Lib.hid (nrow_below R5.out hb)
  have K6 := Lib.hid hk
  clear hb hk O5 R5 B5 hg9
  obtain ⟨h6, hh6⟩ : ∃ h, h = w6.heap.size := ⟨_, rfl⟩
  go_wp2_with fail
  refine (implAcc_any _ n n E _ K6.out.at_ ⟨HG.out.1.below B6.out, tab_below HG.out.2 B6.out⟩).mono ?_
  rintro e w8 ⟨hE, hb⟩
  obtain ⟨a6, c6, rfl, hown⟩ := hE
  rw [← HC.out, ← HP.out, ← HD.out, ← HN.out]
  rw [← HN.out, ← HU.out] at hown
  rw [← hh6] at hown
  obtain ⟨W9, hW9⟩ : ∃ W9, W9 = w8.alloc (.cells #[.slice a6 N c6, .int .i64 cr, .int .i64 pd, .int .i64 cd] 38) := ⟨_, rfl⟩
  obtain ⟨s6, hs6⟩ : ∃ s, s = w8.heap.size := ⟨_, rfl⟩
  have hb9 : Below w6.heap.size w6 W9 := hb.trans (by rw [hW9]; exact (nbel_alloc _ _).mono hb.size)
  have LS0 : Hid (LaS n cr pd cd N s5 a5 c5 g9 s6 h6 a6 c6 U (U) (E) w W9) := by
    refine ⟨K6.out.below hb9, nrow_below R6.out hb9, O6.out.below hb9, by rw [hW9, hs6]; exact rowN_alloc w8 _ _, by rw [hW9]; exact hown.below (nbel_alloc _ _), ⟨by rw [hh6]; exact R6.out.lt, by rw [hh6]; exact K6.out.lt, by rw [hh6]; exact B6.out.size, HGW.out, fun k e => by rw [hh6]; exact (O6.out.lt e).2⟩, B6.out.trans (hb9.mono B6.out.size)⟩
  have HW9 := Lib.hid hW9
  have HS6 := Lib.hid hs6
  clear hb hb9 hown hW9 hs6 hh6 O6 R6 K6 B6 HGW
  obtain ⟨⟨y0, y1, y2, y3⟩, _⟩ := rowN4 LS0.out.r6
  obtain ⟨⟨u0, u1, u2, u3⟩, _⟩ := rowN4 LS0.out.r5
  rw [HW9.out, HS6.out] at y0 y1 y2 y3
  rw [HW9.out] at u0 u1 u2 u3
  go_wp2_with fail
  rw [← HW9.out, ← HS6.out]
  clear y0 y1 y2 y3 u0 u1 u2 u3
  clear HW9 HS6
  refine (eqAccount_same cr pd cd N U a6 a5 c6 c5 _ LS0.out.t6.in_ LS0.out.t5.in_ HN1.out).mono ?_
  rintro e w10 ⟨rfl, hb⟩
  have LS1 : Hid (LaS n cr pd cd N s5 a5 c5 g9 s6 h6 a6 c6 U (U) (E) w w10) := LS0.out.below hb
  clear hb LS0
  go_wp2_with fail
  refine (ntoEntryS_any la n cap E _ (H.out.below LS1.out.bel) HNS.out).mono ?_
  rintro e w11 ⟨⟨rfl, hk⟩, hb⟩
  have LS2 : Hid (LaS n cr pd cd N s5 a5 c5 g9 s6 h6 a6 c6 U (U) (E) w w11) := LS1.out.below hb
  have K11 := Lib.hid hk
  clear hb hk LS1
  go_wp2_with fail
  refine (neqEntryS_same _ _ n n n E _ LS2.out.k9.at_ K11.out.at_ HNS.out).mono ?_
  rintro e w12 ⟨rfl, hb⟩
  have LS3 : Hid (LaS n cr pd cd N s5 a5 c5 g9 s6 h6 a6 c6 U (U) (E) w w12) := LS2.out.below hb
  clear hb LS2 K11
  go_wp2_with fail
  refine (nmarkEntryS_any g9 n n 1 E _ LS3.out.k9 HNS.out (by omega)).mono ?_
  rintro e w13 ⟨rfl, hmk, ho⟩
  have LS4 : Hid (LaS n cr pd cd N s5 a5 c5 g9 s6 h6 a6 c6 U (U) (mk1 1) w w13) := LS3.out.markE hmk (fun k hk hne => ho.block k hk hne) ⟨ho.os, ho.tape, ho.output, ho.size⟩
  clear hmk ho LS3
  obtain ⟨K, hK⟩ : ∃ K : Nat, K = 1 + n * 2 := ⟨_, rfl⟩
  rw [← hK]
  have hK0 : ¬ (K : Int) < 0 := by omega
  clear hK
  obtain ⟨⟨y0, y1, y2, y3⟩, _⟩ := rowN4 LS4.out.r6
  obtain ⟨⟨u0, u1, u2, u3⟩, _⟩ := rowN4 LS4.out.r5
  go_wp2_with fail
  clear y0 y1 y2 y3 u0 u1 u2 u3
  refine (eqAccount_same cr pd cd N U a6 a5 c6 c5 _ LS4.out.t6.in_ LS4.out.t5.in_ HN1.out).mono ?_
  rintro e w14 ⟨rfl, hb⟩
  have LS5 : Hid (LaS n cr pd cd N s5 a5 c5 g9 s6 h6 a6 c6 U (U) (mk1 1) w w14) := LS4.out.below hb
  clear hb LS4
  obtain ⟨⟨y0, y1, y2, y3⟩, _⟩ := rowN4 LS5.out.r6
  go_wp2_with fail
  clear y0 y1 y2 y3
  refine (markAccount_any cr pd cd N _ LS5.out.t6 HN1.out).mono ?_
  rintro e w15 ⟨rfl, hm, hk, hr⟩
  have LS6 : Hid (LaS n cr pd cd N s5 a5 c5 g9 s6 h6 a6 c6 U (mk1 1) (mk1 1) w w15) := LS5.out.markA hm hk hr
  clear hm hk hr LS5
  obtain ⟨Q, hQ⟩ : ∃ Q : Nat, Q = 1 + N := ⟨_, rfl⟩
  have HQ : Hid (1 + N = Q) := hQ.symm
  rw [← hQ]
  have hQ0 : ¬ (Q : Int) < 0 := by omega
  have hQQ : ((Q : Int) != (Q : Int)) = false := by simp
  clear hQ
  obtain ⟨⟨y0, y1, y2, y3⟩, _⟩ := rowN4 LS6.out.r6
  go_wp2_with fail
  clear y0 y1 y2 y3
  refine (heldAccount_any cr pd cd N _ LS6.out.t6 HN1.out).mono ?_
  rintro e w16 ⟨rfl, hb⟩
  rw [HQ.out]
  have LS7 : Hid (LaS n cr pd cd N s5 a5 c5 g9 s6 h6 a6 c6 U (mk1 1) (mk1 1) w w16) := LS6.out.below hb
  clear hb LS6
  go_wp2_with fail
  refine (ntoEntryS_any la n cap E _ (H.out.below LS7.out.bel) HNS.out).mono ?_
  rintro e w18 ⟨⟨rfl, hk⟩, hb⟩
  have LS9 : Hid (LaS n cr pd cd N s5 a5 c5 g9 s6 h6 a6 c6 U (mk1 1) (mk1 1) w w18) := LS7.out.below hb
  have K18 := Lib.hid hk
  clear hb hk LS7
  go_wp2_with fail
  refine (implAcc_any _ n n E _ K18.out.at_ ⟨HG.out.1.below LS9.out.bel, tab_below HG.out.2 LS9.out.bel⟩).mono ?_
  rintro e w19 ⟨hE, hb⟩
  obtain ⟨a9, c9, rfl, hown⟩ := hE
  rw [← HC.out, ← HP.out, ← HD.out, ← HN.out]
  rw [← HN.out, ← HU.out] at hown
  obtain ⟨W20, hW20⟩ : ∃ W, W = w19.alloc (.cells #[.slice a9 N c9, .int .i64 cr, .int .i64 pd, .int .i64 cd] 38) := ⟨_, rfl⟩
  have hb20 : Below w18.heap.size w18 W20 := hb.trans (by rw [hW20]; exact (nbel_alloc _ _).mono hb.size)
  have LS10 : Hid (LaS n cr pd cd N s5 a5 c5 g9 s6 h6 a6 c6 U (mk1 1) (mk1 1) w W20) := LS9.out.below hb20
  have O20 : Hid (QsOwn w18.heap.size N a9 c9 U W20) := by show QsOwn _ _ _ _ _ _; rw [hW20]; exact hown.below (nbel_alloc _ _)
  have R20 : Hid (W20.rowIs w19.heap.size 38 4 (rowN (acL cr pd cd N a9 c9))) := by show World.rowIs _ _ _ _ _; rw [hW20]; exact rowN_alloc w19 _ _
  have HW20 := Lib.hid hW20
  clear hb hb20 hown hW20 LS9 K18
  obtain ⟨⟨y0, y1, y2, y3⟩, _⟩ := rowN4 R20.out
  obtain ⟨⟨u0, u1, u2, u3⟩, _⟩ := rowN4 LS10.out.r5
  rw [HW20.out] at y0 y1 y2 y3 u0 u1 u2 u3
  go_wp2_with fail
  rw [← HW20.out]
  clear y0 y1 y2 y3 u0 u1 u2 u3
  clear HW20
  refine (eqAccount_same cr pd cd N U a9 a5 c9 c5 _ O20.out.in_ LS10.out.t5.in_ HN1.out).mono ?_
  rintro e w21 ⟨rfl, hb⟩
  have LS11 : Hid (LaS n cr pd cd N s5 a5 c5 g9 s6 h6 a6 c6 U (mk1 1) (mk1 1) w w21) := LS10.out.below hb
  clear hb LS10 O20 R20
  obtain ⟨⟨y0, y1, y2, y3⟩, _⟩ := rowN4 LS11.out.r6
  go_wp2_with fail
  clear y0 y1 y2 y3
  refine (heldAccount_any cr pd cd N _ LS11.out.t6 HN1.out).mono ?_
  rintro e w22 ⟨rfl, hb⟩
  rw [HQ.out]
  have LS12 : Hid (LaS n cr pd cd N s5 a5 c5 g9 s6 h6 a6 c6 U (mk1 1) (mk1 1) w w22) := LS11.out.below hb
  clear hb LS11
  go_wp2_with fail
  go_ret
  exact ⟨rfl, LS12.out.bel⟩
end Go.Proofs.YtnbnfifgajfomaaDoor
