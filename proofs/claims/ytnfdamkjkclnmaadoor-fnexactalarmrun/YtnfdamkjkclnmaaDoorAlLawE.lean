/-
  The law FnExactAlarmRun.
-/
import Derived.Test.YtnfdamkjkclnmaaDoorAlR1
import Derived.Test.YtnfdamkjkclnmaaDoorAlR2
namespace Go.Proofs.YtnfdamkjkclnmaaDoor
open Go.RowKit Go.Deep

set_option maxRecDepth 100000 in
set_option maxHeartbeats 16000000 in
theorem alarmRun_law (w : World) (m : Al.A) (la : Option Addr) (n cap : Nat) (R : Nat → Int) (h : IsIn la (n * 2) R w) (hl : n ≤ 9223372036854775807) (hg : Et w) :
    Calls Tryd.prog 4 #[alV m, .slice la n cap] w fun e w' => e = .returned (.bool true) ∧ Below w.heap.size w w' := by
  obtain ⟨W, hW⟩ : ∃ W, W = w.alloc (.cells #[.int .i64 m.hi, .int .i64 m.lo, .int .i64 m.dl, .int .i64 m.st, .int .i64 m.ct, .int .i64 m.sh] 37) := ⟨_, rfl⟩
  have BW : Hid (Below w.heap.size w W) := by show Below _ _ _; rw [hW]; exact nbel_alloc _ _
  have ARG : Hid (W.rowIs w.heap.size 37 6 (rowN (alL m))) := by show World.rowIs _ _ _ _ _; rw [hW]; exact rowN_alloc w _ _
  have HW := Lib.hid hW
  have H := Lib.hid h
  have HG := Lib.hid hg
  clear hW h hg
  by_cases hbig : 1048576 < n
  · go_enter Tryd.func4, Tryd.ntmps4
    go_wp2_with fail
    rw [← HW.out]
    refine (nszAct_over la n cap 1048576 _ hbig (by omega) hl).mono ?_
    rintro e w1 ⟨rfl, rfl⟩
    go_wp2_with fail
    go_ret
    exact ⟨rfl, BW.out⟩
  have hn : n ≤ 1048576 := by omega
  have hz : ¬ ((1048576 - n : Nat) : Int) < 0 := by omega
  obtain ⟨X, hX⟩ : ∃ X, X = Al.ansM (n ≤ 300 ∧ Al.RunOk m R n) (Al.run m R n) := ⟨_, rfl⟩
  obtain ⟨N, hN⟩ : ∃ N, N = Al.ansN (n ≤ 300 ∧ Al.RunOk m R n) (Al.rings m R n).length := ⟨_, rfl⟩
  obtain ⟨x, hx⟩ : ∃ x, x = Al.ansC (n ≤ 300 ∧ Al.RunOk m R n) (Al.runC n) := ⟨_, rfl⟩
  obtain ⟨U, hU⟩ : ∃ U, U = Ln.fl (Al.rings m R n) := ⟨_, rfl⟩
  have hN1 : N ≤ 1048576 := by rw [hN]; unfold Al.ansN; have := Al.rings_len m R n; split <;> omega
  have HX := Lib.hid hX
  have HN := Lib.hid hN
  have Hx := Lib.hid hx
  have HU := Lib.hid hU
  have HN1 := Lib.hid hN1
  have HNS := Lib.hid hn
  clear hX hN hx hU hN1 hbig
  go_enter Tryd.func4, Tryd.ntmps4
  go_wp2_with fail
  rw [← HW.out]
  clear HW
  refine (nszAct_in la n cap 1048576 _ hn (by omega)).mono ?_
  rintro e w1 ⟨rfl, hw1⟩
  subst hw1
  obtain ⟨⟨a0, a1, a2, a3, a4, a5⟩, _⟩ := rowN6 ARG.out
  go_wp2_with fail
  clear a0 a1 a2 a3 a4 a5
  refine (toAlarm_any m _).mono ?_
  rintro e w2 ⟨rfl, hb⟩
  have B2 : Hid (Below w.heap.size w w2) := BW.out.trans (hb.mono BW.out.size)
  have A2 := Lib.hid (nrow_below ARG.out hb)
  clear hb ARG BW hz
  go_wp2_with fail
  refine (ntoActS_any la n cap R _ (H.out.below B2.out) HNS.out).mono ?_
  rintro e w3 ⟨⟨rfl, hk⟩, hb⟩
  have B3 : Hid (Below w.heap.size w w3) := B2.out.trans (hb.mono B2.out.size)
  have A3 := Lib.hid (nrow_below A2.out hb)
  have K3 := Lib.hid hk
  clear hb hk A2 B2
  go_wp2_with fail
  refine (specARun_any m _ n n R _ K3.out.at_ HNS.out).mono ?_
  rintro e w4 ⟨hE, hb⟩
  obtain ⟨a5, c5, rfl, hown⟩ := hE.tell
  rw [← HX.out, ← HN.out, ← Hx.out]
  rw [← HN.out, ← HU.out] at hown
  have B4 : Hid (Below w.heap.size w w4) := B3.out.trans (hb.mono B3.out.size)
  have A4 := Lib.hid (nrow_below A3.out hb)
  have O4 := Lib.hid (hown.low B3.out.size)
  clear hb hE hown A3 B3 K3
  obtain ⟨W5, hW5⟩ : ∃ W5, W5 = w4.alloc (.cells #[.int .i64 X.hi, .int .i64 X.lo, .int .i64 X.dl, .int .i64 X.st, .int .i64 X.ct, .int .i64 X.sh, .slice a5 N c5, .int .i64 x] 34) := ⟨_, rfl⟩
  obtain ⟨s5, hs5⟩ : ∃ s, s = w4.heap.size := ⟨_, rfl⟩
  have hb5 : Below w4.heap.size w4 W5 := by rw [hW5]; exact nbel_alloc _ _
  have R5 : Hid (W5.rowIs s5 34 8 (rowN (aoL X a5 N c5 x))) := by show World.rowIs _ _ _ _ _; rw [hW5, hs5]; exact rowN_alloc w4 _ _
  have B5 : Hid (Below w.heap.size w W5) := B4.out.trans (hb5.mono B4.out.size)
  have A5 := Lib.hid (nrow_below A4.out hb5)
  have O5 := Lib.hid (O4.out.below hb5)
  have S5 : Hid (w.heap.size ≤ s5) := by show _ ≤ _; rw [hs5]; exact B4.out.size
  have HW5 := Lib.hid hW5
  have HS5 := Lib.hid hs5
  clear hW5 hs5 hb5 A4 B4 O4
  go_wp2_with fail
  rw [← HW5.out, ← HS5.out]
  clear HW5 HS5
  refine (ntoActS_any la n cap R _ (H.out.below B5.out) HNS.out).mono ?_
  rintro e w6 ⟨⟨rfl, hk⟩, hb⟩
  obtain ⟨g9, hg9⟩ : ∃ g, g = W5.heap.size := ⟨_, rfl⟩
  rw [← hg9] at hk ⊢
  have HGW : Hid (w.heap.size ≤ g9) := by show _ ≤ _; rw [hg9]; exact B5.out.size
  have B6 : Hid (Below w.heap.size w w6) := B5.out.trans (hb.mono B5.out.size)
  have A6 := Lib.hid (nrow_below A5.out hb)
  have O6 := Lib.hid (O5.out.below hb)
  have R6 := Lib.hid (nrow_below R5.out hb)
  have K6 := Lib.hid hk
  clear hb hk A5 O5 R5 hg9
  obtain ⟨⟨a0, a1, a2, a3, a4, a5⟩, _⟩ := rowN6 A6.out
  go_wp2_with fail
  clear a0 a1 a2 a3 a4 a5
  refine (toAlarm_any m _).mono ?_
  rintro e w7 ⟨rfl, hb⟩
  have B7 : Hid (Below w.heap.size w w7) := B6.out.trans (hb.mono B6.out.size)
  have A7 := Lib.hid (nrow_below A6.out hb)
  have O7 := Lib.hid (O6.out.below hb)
  have R7 := Lib.hid (nrow_below R6.out hb)
  have K7 := Lib.hid (K6.out.below hb)
  clear hb A6 O6 R6 K6 B6
  obtain ⟨h6, hh6⟩ : ∃ h, h = w7.heap.size := ⟨_, rfl⟩
  have T7 : Hid (s5 < h6 ∧ g9 < h6 ∧ w.heap.size < h6 ∧ ∀ k, a5 = some ⟨k, 0, none⟩ → k < h6) := by
    show _ ∧ _
    rw [hh6]
    exact ⟨R7.out.lt, K7.out.lt, A7.out.lt, fun k e => (O7.out.lt e).2⟩
  go_wp2_with fail
  refine (implARun_any m _ n n R _ K7.out.at_ HNS.out (HG.out.below B7.out)).mono ?_
  rintro e w8 ⟨hE, hb⟩
  obtain ⟨a6, c6, rfl, hown⟩ := hE.tell
  rw [← HX.out, ← HN.out, ← Hx.out]
  rw [← HN.out, ← HU.out, ← hh6] at hown
  obtain ⟨W9, hW9⟩ : ∃ W9, W9 = w8.alloc (.cells #[.int .i64 X.hi, .int .i64 X.lo, .int .i64 X.dl, .int .i64 X.st, .int .i64 X.ct, .int .i64 X.sh, .slice a6 N c6, .int .i64 x] 34) := ⟨_, rfl⟩
  obtain ⟨s6, hs6⟩ : ∃ s, s = w8.heap.size := ⟨_, rfl⟩
  have hb9 : Below w7.heap.size w7 W9 := hb.trans (by rw [hW9]; exact (nbel_alloc _ _).mono hb.size)
  have LS0 : Hid (La w.heap.size h6 (fun V => V.rowIs w.heap.size 37 6 (rowN (alL m)) ∧ IsBlk 31 g9 (n * 2) (R) V) X N x s5 a5 c5 s6 a6 c6 U (U) w W9) := by
    refine ⟨⟨nrow_below A7.out hb9, K7.out.below hb9⟩, nrow_below R7.out hb9, O7.out.below hb9, ?_, ?_, ⟨S5.out, T7.out.1, ?_, T7.out.2.2.2⟩, B7.out.trans (hb9.mono B7.out.size)⟩
    · rw [hW9, hs6]; exact rowN_alloc w8 _ _
    · rw [hW9]; exact hown.below (nbel_alloc _ _)
    · rw [hs6, hh6]; exact hb.size
  have ST : ∀ f, AlStb h6 (fun V => V.rowIs w.heap.size 37 6 (rowN (alL m)) ∧ IsBlk 31 g9 (n * 2) f V) := fun f W W' hb a => ⟨a.1.of_block (hb _ T7.out.2.2.1 a.1.lt), a.2.block (hb _ T7.out.2.1 a.2.lt)⟩
  have HST := Lib.hid ST
  have HW9 := Lib.hid hW9
  have HS6 := Lib.hid hs6
  clear hb hb9 hE hown hW9 hs6 hh6 A7 O7 R7 K7 B7 ST
  obtain ⟨⟨y0, y1, y2, y3, y4, y5, y6, y7⟩, _⟩ := rowN8 LS0.out.r6
  obtain ⟨⟨u0, u1, u2, u3, u4, u5, u6, u7⟩, _⟩ := rowN8 LS0.out.r5
  rw [HW9.out, HS6.out] at y0 y1 y2 y3 y4 y5 y6 y7
  rw [HW9.out] at u0 u1 u2 u3 u4 u5 u6 u7
  go_wp2_with fail
  rw [← HW9.out, ← HS6.out]
  clear y0 y1 y2 y3 y4 y5 y6 y7 u0 u1 u2 u3 u4 u5 u6 u7
  clear HW9 HS6
  refine (eqAlarmOut_same X a6 a5 N c6 c5 x U _ LS0.out.t6.at_ LS0.out.t5.at_ HN1.out).mono ?_
  rintro e w10 ⟨rfl, hb⟩
  have LS1 : Hid (La w.heap.size h6 (fun V => V.rowIs w.heap.size 37 6 (rowN (alL m)) ∧ IsBlk 31 g9 (n * 2) (R) V) X N x s5 a5 c5 s6 a6 c6 U (U) w w10) := LS0.out.below (HST.out _) hb
  clear hb LS0
  go_wp2_with fail
  refine (ntoActS_any la n cap R _ (H.out.below LS1.out.bel) HNS.out).mono ?_
  rintro e w11 ⟨⟨rfl, hk⟩, hb⟩
  have LS2 : Hid (La w.heap.size h6 (fun V => V.rowIs w.heap.size 37 6 (rowN (alL m)) ∧ IsBlk 31 g9 (n * 2) (R) V) X N x s5 a5 c5 s6 a6 c6 U (U) w w11) := LS1.out.below (HST.out _) hb
  have K11 := Lib.hid hk
  clear hb hk LS1
  go_wp2_with fail
  refine (neqActS_same _ _ n n n R _ LS2.out.a.2.at_ K11.out.at_ HNS.out).mono ?_
  rintro e w12 ⟨rfl, hb⟩
  have LS3 : Hid (La w.heap.size h6 (fun V => V.rowIs w.heap.size 37 6 (rowN (alL m)) ∧ IsBlk 31 g9 (n * 2) (R) V) X N x s5 a5 c5 s6 a6 c6 U (U) w w12) := LS2.out.below (HST.out _) hb
  clear hb LS2 K11
  go_wp2_with fail
  refine (nmarkActS_any g9 n n 1 R _ LS3.out.a.2 HNS.out (by omega)).mono ?_
  rintro e w13 ⟨rfl, hmk, ho⟩
  have LS4 : Hid (La w.heap.size h6 (fun V => V.rowIs w.heap.size 37 6 (rowN (alL m)) ∧ IsBlk 31 g9 (n * 2) (mk1 1) V) X N x s5 a5 c5 s6 a6 c6 U (U) w w13) := by
    have q := LS3.out
    have o := q.o5
    have t7 := T7.out
    have wl : w.heap.size ≠ g9 := by
      intro e
      obtain ⟨_, q1, _⟩ := q.a.1
      obtain ⟨_, _, _, q2, _⟩ := q.a.2
      obtain ⟨_, q3, _⟩ := q2
      rw [← e, q1] at q3
      simp at q3
    have s5g : s5 ≠ g9 := by
      intro e
      obtain ⟨_, q1, _⟩ := q.r5
      obtain ⟨_, _, _, q2, _⟩ := q.a.2
      obtain ⟨_, q3, _⟩ := q2
      rw [← e, q1] at q3
      simp at q3
    refine ⟨⟨q.a.1.of_block (ho.block _ q.a.1.lt wl), hmk⟩, q.r5.of_block (ho.block _ q.r5.lt s5g), q.t5.same (fun k e hk => ho.block k hk (fun e2 => ?_)), q.r6.of_block (ho.block _ q.r6.lt (by omega)), q.t6.same (fun k e hk => ho.block k hk (by have := (q.t6.lt e).1; omega)), o, q.bel.trans ⟨ho.os, ho.tape, ho.output, ho.size, fun k hk => ho.block k (by have := q.bel.size; omega) (by have := HGW.out; omega)⟩⟩
    subst e2
    rcases q.t5 with h | ⟨g', e', _, h2⟩
    · rw [h.1] at e; cases e
    · rw [e'] at e
      cases e
      obtain ⟨_, _, _, q1, _⟩ := h2
      obtain ⟨_, q3, _⟩ := q1
      obtain ⟨_, _, _, q2, _⟩ := q.a.2
      obtain ⟨_, q4, _⟩ := q2
      rw [q3] at q4
      simp at q4
  clear hmk ho LS3
  obtain ⟨K, hK⟩ : ∃ K : Nat, K = 1 + n * 2 := ⟨_, rfl⟩
  rw [← hK]
  have hK0 : ¬ (K : Int) < 0 := by omega
  clear hK
  obtain ⟨⟨y0, y1, y2, y3, y4, y5, y6, y7⟩, _⟩ := rowN8 LS4.out.r6
  obtain ⟨⟨u0, u1, u2, u3, u4, u5, u6, u7⟩, _⟩ := rowN8 LS4.out.r5
  go_wp2_with fail
  clear y0 y1 y2 y3 y4 y5 y6 y7 u0 u1 u2 u3 u4 u5 u6 u7
  refine (eqAlarmOut_same X a6 a5 N c6 c5 x U _ LS4.out.t6.at_ LS4.out.t5.at_ HN1.out).mono ?_
  rintro e w14 ⟨rfl, hb⟩
  have LS5 : Hid (La w.heap.size h6 (fun V => V.rowIs w.heap.size 37 6 (rowN (alL m)) ∧ IsBlk 31 g9 (n * 2) (mk1 1) V) X N x s5 a5 c5 s6 a6 c6 U (U) w w14) := LS4.out.below (HST.out _) hb
  clear hb LS4
  obtain ⟨⟨y0, y1, y2, y3, y4, y5, y6, y7⟩, _⟩ := rowN8 LS5.out.r6
  go_wp2_with fail
  clear y0 y1 y2 y3 y4 y5 y6 y7
  refine (markAlarmOut_any X x _ LS5.out.t6 HN1.out).mono ?_
  rintro e w15 ⟨rfl, hm, hk, hr⟩
  have LS6 : Hid (La w.heap.size h6 (fun V => V.rowIs w.heap.size 37 6 (rowN (alL m)) ∧ IsBlk 31 g9 (n * 2) (mk1 1) V) X N x s5 a5 c5 s6 a6 c6 U (mk1 1) w w15) := LS5.out.mark (HST.out _) hm hk hr
  clear hm hk hr LS5
  obtain ⟨Q, hQ⟩ : ∃ Q : Nat, Q = 1 + N * 2 := ⟨_, rfl⟩
  have HQ : Hid (1 + N * 2 = Q) := hQ.symm
  rw [← hQ]
  have hQ0 : ¬ (Q : Int) < 0 := by omega
  have hQQ : ((Q : Int) != (Q : Int)) = false := by simp
  clear hQ
  obtain ⟨⟨y0, y1, y2, y3, y4, y5, y6, y7⟩, _⟩ := rowN8 LS6.out.r6
  go_wp2_with fail
  clear y0 y1 y2 y3 y4 y5 y6 y7
  refine (heldAlarmOut_any X x _ LS6.out.t6 HN1.out).mono ?_
  rintro e w16 ⟨rfl, hb⟩
  rw [HQ.out]
  have LS7 : Hid (La w.heap.size h6 (fun V => V.rowIs w.heap.size 37 6 (rowN (alL m)) ∧ IsBlk 31 g9 (n * 2) (mk1 1) V) X N x s5 a5 c5 s6 a6 c6 U (mk1 1) w w16) := LS6.out.below (HST.out _) hb
  clear hb LS6
  obtain ⟨⟨a0, a1, a2, a3, a4, a5⟩, _⟩ := rowN6 LS7.out.a.1
  go_wp2_with fail
  clear a0 a1 a2 a3 a4 a5
  refine (toAlarm_any m _).mono ?_
  rintro e w17 ⟨rfl, hb⟩
  have LS8 : Hid (La w.heap.size h6 (fun V => V.rowIs w.heap.size 37 6 (rowN (alL m)) ∧ IsBlk 31 g9 (n * 2) (mk1 1) V) X N x s5 a5 c5 s6 a6 c6 U (mk1 1) w w17) := LS7.out.below (HST.out _) hb
  clear hb LS7
  go_wp2_with fail
  refine (ntoActS_any la n cap R _ (H.out.below LS8.out.bel) HNS.out).mono ?_
  rintro e w18 ⟨⟨rfl, hk⟩, hb⟩
  have LS9 : Hid (La w.heap.size h6 (fun V => V.rowIs w.heap.size 37 6 (rowN (alL m)) ∧ IsBlk 31 g9 (n * 2) (mk1 1) V) X N x s5 a5 c5 s6 a6 c6 U (mk1 1) w w18) := LS8.out.below (HST.out _) hb
  have K18 := Lib.hid hk
  clear hb hk LS8
  go_wp2_with fail
  refine (implARun_any m _ n n R _ K18.out.at_ HNS.out (HG.out.below LS9.out.bel)).mono ?_
  rintro e w19 ⟨hE, hb⟩
  obtain ⟨a9, c9, rfl, hown⟩ := hE.tell
  rw [← HX.out, ← HN.out, ← Hx.out]
  rw [← HN.out, ← HU.out] at hown
  obtain ⟨W20, hW20⟩ : ∃ W, W = w19.alloc (.cells #[.int .i64 X.hi, .int .i64 X.lo, .int .i64 X.dl, .int .i64 X.st, .int .i64 X.ct, .int .i64 X.sh, .slice a9 N c9, .int .i64 x] 34) := ⟨_, rfl⟩
  have hb20 : Below w18.heap.size w18 W20 := hb.trans (by rw [hW20]; exact (nbel_alloc _ _).mono hb.size)
  have LS10 : Hid (La w.heap.size h6 (fun V => V.rowIs w.heap.size 37 6 (rowN (alL m)) ∧ IsBlk 31 g9 (n * 2) (mk1 1) V) X N x s5 a5 c5 s6 a6 c6 U (mk1 1) w W20) := LS9.out.below (HST.out _) hb20
  have O20 : Hid (RgOwn w18.heap.size N a9 c9 U W20) := by show RgOwn _ _ _ _ _ _; rw [hW20]; exact hown.below (nbel_alloc _ _)
  have R20 : Hid (W20.rowIs w19.heap.size 34 8 (rowN (aoL X a9 N c9 x))) := by show World.rowIs _ _ _ _ _; rw [hW20]; exact rowN_alloc w19 _ _
  have HW20 := Lib.hid hW20
  clear hb hb20 hE hown hW20 LS9 K18
  obtain ⟨⟨y0, y1, y2, y3, y4, y5, y6, y7⟩, _⟩ := rowN8 R20.out
  obtain ⟨⟨u0, u1, u2, u3, u4, u5, u6, u7⟩, _⟩ := rowN8 LS10.out.r5
  rw [HW20.out] at y0 y1 y2 y3 y4 y5 y6 y7 u0 u1 u2 u3 u4 u5 u6 u7
  go_wp2_with fail
  rw [← HW20.out]
  clear y0 y1 y2 y3 y4 y5 y6 y7 u0 u1 u2 u3 u4 u5 u6 u7
  clear HW20
  refine (eqAlarmOut_same X a9 a5 N c9 c5 x U _ O20.out.at_ LS10.out.t5.at_ HN1.out).mono ?_
  rintro e w21 ⟨rfl, hb⟩
  have LS11 : Hid (La w.heap.size h6 (fun V => V.rowIs w.heap.size 37 6 (rowN (alL m)) ∧ IsBlk 31 g9 (n * 2) (mk1 1) V) X N x s5 a5 c5 s6 a6 c6 U (mk1 1) w w21) := LS10.out.below (HST.out _) hb
  clear hb LS10 O20 R20
  obtain ⟨⟨y0, y1, y2, y3, y4, y5, y6, y7⟩, _⟩ := rowN8 LS11.out.r6
  go_wp2_with fail
  clear y0 y1 y2 y3 y4 y5 y6 y7
  refine (heldAlarmOut_any X x _ LS11.out.t6 HN1.out).mono ?_
  rintro e w22 ⟨rfl, hb⟩
  rw [HQ.out]
  have LS12 : Hid (La w.heap.size h6 (fun V => V.rowIs w.heap.size 37 6 (rowN (alL m)) ∧ IsBlk 31 g9 (n * 2) (mk1 1) V) X N x s5 a5 c5 s6 a6 c6 U (mk1 1) w w22) := LS11.out.below (HST.out _) hb
  clear hb LS11
  go_wp2_with fail
  go_ret
  exact ⟨rfl, LS12.out.bel⟩
end Go.Proofs.YtnfdamkjkclnmaaDoor
