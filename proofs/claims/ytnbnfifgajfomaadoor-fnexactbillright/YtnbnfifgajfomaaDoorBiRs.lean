/-
  Right bills: the model's.
-/
import Derived.Test.YtnbnfifgajfomaaDoorBiMs
import Derived.Test.YtnbnfifgajfomaaDoorBiR
import Derived.BigQuiet
namespace Go.Proofs.YtnbnfifgajfomaaDoor
open Go.RowKit Go.Deep

/-- Two bills that are the same. -/
def Bi.Alike (X : Bi.Bl) (n : Nat) (f : Nat → Int) (Y : Bi.Bl) (m : Nat) (g : Nat → Int) : Prop := X = Y ∧ n = m ∧ ∀ i, i < m → f i = g i
set_option maxRecDepth 100000 in
set_option maxHeartbeats 8000000 in
theorem l16Same_any (X : Bi.Bl) (n : Nat) (a : Option Addr) (ka : Nat) (f : Nat → Int) (Y : Bi.Bl) (m : Nat) (b : Option Addr) (kb : Nat) (g : Nat → Int) (w : World) (h1 : IsIn a n f w) (h2 : IsIn b m g w) (hn : n ≤ 1048576) :
    Calls Tryd.prog 57 #[blV X n a ka, blV Y m b kb] w fun e w' => e = .returned (.bool (Bi.dB (Bi.Alike X n f Y m g))) ∧ Below w.heap.size w w' := by
  obtain ⟨W, hW⟩ : ∃ W, W = (w.alloc (.cells #[.int .i64 X.days, .slice a n ka, .int .i64 X.sew, .int .i64 X.net, .int .i64 X.tax, .int .i64 X.gross, .int .i64 X.code] 30)).alloc (.cells #[.int .i64 Y.days, .slice b m kb, .int .i64 Y.sew, .int .i64 Y.net, .int .i64 Y.tax, .int .i64 Y.gross, .int .i64 Y.code] 30) := ⟨_, rfl⟩
  have BW : Hid (Below w.heap.size w W) := by show Below _ _ _; rw [hW]; exact (nbel_alloc _ _).alloc (by simp) _
  have RX : Hid (W.rowIs w.heap.size 30 7 (rowN (blL X n a ka))) := by show W.rowIs _ _ _ _; rw [hW]; exact nrow_below (rowN_alloc w _ _) (nbel_alloc _ _)
  have RY : Hid (W.rowIs (w.heap.size + 1) 30 7 (rowN (blL Y m b kb))) := by show W.rowIs _ _ _ _; rw [hW]; exact rowN_alloc' (by simp) _ _
  have H1 := Lib.hid (h1.below BW.out)
  have H2 := Lib.hid (h2.below BW.out)
  have HW := Lib.hid hW
  clear hW h1 h2
  by_cases c0 : X.days = Y.days
  case neg =>
    have d0 : (X.days != Y.days) = true := by simp [c0]
    have HE : Hid (Bi.dB (Bi.Alike X n f Y m g) = false) := Bi.dB_ff (fun h => c0 (by rw [h.1]))
    clear c0
    go_enter Tryd.func57, Tryd.ntmps57
    go_wp2_with fail
    go_ret
    exact ⟨by rw [HE.out]; rfl, by rw [← HW.out]; exact BW.out⟩
  have d0 : (X.days != Y.days) = false := by simp [c0]
  have C0 := Lib.hid c0
  clear c0
  by_cases c1 : X.sew = Y.sew
  case neg =>
    have d1 : (X.sew != Y.sew) = true := by simp [c1]
    have HE : Hid (Bi.dB (Bi.Alike X n f Y m g) = false) := Bi.dB_ff (fun h => c1 (by rw [h.1]))
    clear c1
    go_enter Tryd.func57, Tryd.ntmps57
    go_wp2_with fail
    go_ret
    exact ⟨by rw [HE.out]; rfl, by rw [← HW.out]; exact BW.out⟩
  have d1 : (X.sew != Y.sew) = false := by simp [c1]
  have C1 := Lib.hid c1
  clear c1
  by_cases c2 : X.net = Y.net
  case neg =>
    have d2 : (X.net != Y.net) = true := by simp [c2]
    have HE : Hid (Bi.dB (Bi.Alike X n f Y m g) = false) := Bi.dB_ff (fun h => c2 (by rw [h.1]))
    clear c2
    go_enter Tryd.func57, Tryd.ntmps57
    go_wp2_with fail
    go_ret
    exact ⟨by rw [HE.out]; rfl, by rw [← HW.out]; exact BW.out⟩
  have d2 : (X.net != Y.net) = false := by simp [c2]
  have C2 := Lib.hid c2
  clear c2
  by_cases c3 : X.tax = Y.tax
  case neg =>
    have d3 : (X.tax != Y.tax) = true := by simp [c3]
    have HE : Hid (Bi.dB (Bi.Alike X n f Y m g) = false) := Bi.dB_ff (fun h => c3 (by rw [h.1]))
    clear c3
    go_enter Tryd.func57, Tryd.ntmps57
    go_wp2_with fail
    go_ret
    exact ⟨by rw [HE.out]; rfl, by rw [← HW.out]; exact BW.out⟩
  have d3 : (X.tax != Y.tax) = false := by simp [c3]
  have C3 := Lib.hid c3
  clear c3
  by_cases c4 : X.gross = Y.gross
  case neg =>
    have d4 : (X.gross != Y.gross) = true := by simp [c4]
    have HE : Hid (Bi.dB (Bi.Alike X n f Y m g) = false) := Bi.dB_ff (fun h => c4 (by rw [h.1]))
    clear c4
    go_enter Tryd.func57, Tryd.ntmps57
    go_wp2_with fail
    go_ret
    exact ⟨by rw [HE.out]; rfl, by rw [← HW.out]; exact BW.out⟩
  have d4 : (X.gross != Y.gross) = false := by simp [c4]
  have C4 := Lib.hid c4
  clear c4
  by_cases c5 : X.code = Y.code
  case neg =>
    have d5 : (X.code != Y.code) = true := by simp [c5]
    have HE : Hid (Bi.dB (Bi.Alike X n f Y m g) = false) := Bi.dB_ff (fun h => c5 (by rw [h.1]))
    clear c5
    go_enter Tryd.func57, Tryd.ntmps57
    go_wp2_with fail
    go_ret
    exact ⟨by rw [HE.out]; rfl, by rw [← HW.out]; exact BW.out⟩
  have d5 : (X.code != Y.code) = false := by simp [c5]
  have C5 := Lib.hid c5
  clear c5
  have HXY : Hid (X = Y) := by
    show X = Y
    have a0 := C0.out
    have a1 := C1.out
    have a2 := C2.out
    have a3 := C3.out
    have a4 := C4.out
    have a5 := C5.out
    obtain ⟨x0, x1, x2, x3, x4, x5⟩ := X
    obtain ⟨y0, y1, y2, y3, y4, y5⟩ := Y
    simp at a0 a1 a2 a3 a4 a5
    simp [a0, a1, a2, a3, a4, a5]
  by_cases c6 : n = m
  case neg =>
    have d6 : ((n : Int) != (m : Int)) = true := by simp; omega
    have HE : Hid (Bi.dB (Bi.Alike X n f Y m g) = false) := Bi.dB_ff (fun h => c6 h.2.1)
    clear c6
    go_enter Tryd.func57, Tryd.ntmps57
    go_wp2_with fail
    go_ret
    exact ⟨by rw [HE.out]; rfl, by rw [← HW.out]; exact BW.out⟩
  subst c6
  have d6 : ((n : Int) != (n : Int)) = false := by simp
  go_enter Tryd.func57, Tryd.ntmps57
  go_wp2_with fail
  rw [← HW.out]
  clear HW
  go_loopw [5] (fun iv wr => ∃ (i : Nat), i ≤ n ∧ iv = .int .i64 i ∧ Hid (∀ j, j < i → f j = g j) ∧ Hid (Below W.heap.size W wr)) (fun iv _ => n - (intOf iv).toNat)
  case atStart => exact ⟨0, Nat.zero_le _, rfl, fun j hj => absurd hj (Nat.not_lt_zero _), Below.refl _ _⟩
  case round =>
    obtain ⟨i, hi, rfl, hsm, hB⟩ := hrel
    obtain ⟨⟨x0, x1, x2, x3, x4, x5, x6⟩, _⟩ := rowN7 (nrow_below RX.out hB.out)
    obtain ⟨⟨y0, y1, y2, y3, y4, y5, y6⟩, _⟩ := rowN7 (nrow_below RY.out hB.out)
    by_cases hlt : i < n
    · have hltz : (i : Int) < (n : Int) := by omega
      have hi00 : (0 : Int) ≤ (i : Int) := by omega
      obtain ⟨g1, o1, rfl, k1⟩ := (H1.out.below hB.out).at1 hlt
      obtain ⟨g2, o2, rfl, k2⟩ := (H2.out.below hB.out).at1 hlt
      by_cases hq : f i = g i
      · have HY : Hid (∀ j, j < i + 1 → f j = g j) := fun j hj => by
          by_cases e : j = i
          · rw [e]; exact hq
          · exact hsm.out j (by omega)
        have hq2 : (f i != g i) = false := by simp [hq]
        rw [hq] at k1
        have hq3 : (g i != g i) = false := by simp
        clear hq
        go_wp2_with fail
        go_quiet (fail)
        go_wp2_with fail
        go_roundw
        case rel => exact ⟨i + 1, by omega, by go_num, HY, bndrewN hB.out _⟩
        case measure => simp [intOf]; omega
      · have HE : Hid (Bi.dB (Bi.Alike X n f Y n g) = false) := Bi.dB_ff (fun h => hq (h.2.2 i hlt))
        have hq2 : (f i != g i) = true := by simp [hq]
        clear hq
        go_wp2_with fail
        go_quiet (fail)
        go_wp2_with fail
        go_ret
        exact ⟨by rw [HE.out]; rfl, bndrewN (BW.out.trans (hB.out.mono BW.out.size)) _⟩
    · obtain rfl : i = n := by omega
      have HE : Hid (Bi.dB (Bi.Alike X i f Y i g) = true) := Bi.dB_tt ⟨HXY.out, rfl, hsm.out⟩
      go_wp2_with fail
      go_ret
      exact ⟨by rw [HE.out]; rfl, BW.out.trans (hB.out.mono BW.out.size)⟩
set_option maxRecDepth 100000 in
set_option maxHeartbeats 8000000 in
theorem specBRight_any (t : Bi.T) (a : Option Addr) (k : Nat) (x : Int) (z : Bi.Bi) (b : Option Addr) (kb : Nat) (w : World) (h : IsAt a (t.bn * 2) t.B w) (hn : t.bn ≤ 9223372036854775807) (hL : IsIn b z.n z.L w) :
    Calls Tryd.prog 24 #[tfV t a k, .int .i64 x, blV z.b z.n b kb] w fun e w' => e = .returned (.bool (Bi.dB (Bi.BRight t x z))) ∧ Below w.heap.size w w' := by
  obtain ⟨W, hW⟩ : ∃ W, W = (w.alloc (.cells #[.int .i64 t.day, .slice a t.bn k, .int .i64 t.sew, .int .i64 t.tax] 25)).alloc (.cells #[.int .i64 z.b.days, .slice b z.n kb, .int .i64 z.b.sew, .int .i64 z.b.net, .int .i64 z.b.tax, .int .i64 z.b.gross, .int .i64 z.b.code] 30) := ⟨_, rfl⟩
  have BW : Hid (Below w.heap.size w W) := by show Below _ _ _; rw [hW]; exact (nbel_alloc _ _).alloc (by simp) _
  have ARG : Hid (W.rowIs w.heap.size 25 4 (rowN (tfL t a k)) ∧ W.rowIs (w.heap.size + 1) 30 7 (rowN (blL z.b z.n b kb))) := by
    show World.rowIs _ _ _ _ _ ∧ _
    rw [hW]
    exact ⟨nrow_below (rowN_alloc w _ _) (nbel_alloc _ _), rowN_alloc' (by simp) _ _⟩
  have H := Lib.hid (h.below BW.out)
  have HL := Lib.hid (hL.below BW.out)
  have HW := Lib.hid hW
  clear hW h hL
  go_enter Tryd.func24, Tryd.ntmps24
  go_wp2_with fail
  rw [← HW.out]
  clear HW
  go_loopw [7] (fun iv wr => ∃ (i : Nat), i ≤ 1001 ∧ iv = .int .i64 i ∧ Hid (∀ j : Nat, j < i → Bi.Ok t j x ∧ ¬ Bi.Same t j x z) ∧ Hid (Below W.heap.size W wr)) (fun iv _ => 1001 - (intOf iv).toNat)
  case atStart => exact ⟨0, Nat.zero_le _, rfl, fun j hj => absurd hj (Nat.not_lt_zero _), Below.refl _ _⟩
  case round =>
    obtain ⟨i, hi, rfl, hsm, hB⟩ := hrel
    obtain ⟨⟨x0, x1, x2, x3⟩, _⟩ := rowN4 (nrow_below ARG.out.1 hB.out)
    by_cases hlt : i < 1001
    · have hltz : (i : Int) ≤ 1000 := by omega
      go_wp2_with fail
      clear x0 x1 x2 x3
      refine (specBill_any t a k (i : Int) x _ (H.out.below hB.out) hn).mono ?_
      rintro e w1 ⟨hE, hb⟩
      have B1 : Hid (Below W.heap.size W w1) := hB.out.trans (hb.mono hB.out.size)
      rcases hE with ⟨hno, rfl⟩ | ⟨hok, aN, cN, rfl, hq⟩
      · have HE : Hid (Bi.dB (Bi.BRight t x z) = false) := Bi.dB_ff (fun h => by
          obtain ⟨d, h1, _⟩ := h
          exact hno ⟨h1.1, ⟨by omega, by omega⟩, h1.2.2⟩)
        have B2 : Hid (Below w.heap.size w (w1.alloc (.cells #[.int .i64 Bi.bad.days, .slice none 0 0, .int .i64 Bi.bad.sew, .int .i64 Bi.bad.net, .int .i64 Bi.bad.tax, .int .i64 Bi.bad.gross, .int .i64 Bi.bad.code] 30))) := (BW.out.trans (B1.out.mono BW.out.size)).alloc (Nat.le_trans BW.out.size B1.out.size) _
        have hcb : (Bi.bad.code != 0) = true := rfl
        clear hno hb
        go_wp2_with fail
        go_ret
        exact ⟨by rw [HE.out]; rfl, B2.out⟩
      · obtain ⟨X, hX⟩ : ∃ X, X = Bi.bill t (i : Int) x := ⟨_, rfl⟩
        have hXc : (X.code != 0) = false := by rw [hX]; rfl
        have HX := Lib.hid hX
        have HOK := Lib.hid hok
        rw [← hX]
        obtain ⟨W2, hW2⟩ : ∃ W2, W2 = w1.alloc (.cells #[.int .i64 X.days, .slice aN t.bn cN, .int .i64 X.sew, .int .i64 X.net, .int .i64 X.tax, .int .i64 X.gross, .int .i64 X.code] 30) := ⟨_, rfl⟩
        have B2 : Hid (Below W.heap.size W W2) := by show Below _ _ _; rw [hW2]; exact B1.out.alloc B1.out.size _
        have R2 : Hid (W2.rowIs w1.heap.size 30 7 (rowN (blL X t.bn aN cN))) := by show W2.rowIs _ _ _ _; rw [hW2]; exact rowN_alloc w1 _ _
        have Q2 : Hid (IsIn aN t.bn (Bi.line t x) W2) := by show IsIn _ _ _ _; rw [hW2]; exact (hq.below (nbel_alloc _ _)).in_
        obtain ⟨⟨y0, y1, y2, y3, y4, y5, y6⟩, _⟩ := rowN7 (nrow_below ARG.out.2 B2.out)
        obtain ⟨⟨u0, u1, u2, u3, u4, u5, u6⟩, _⟩ := rowN7 R2.out
        rw [hW2] at y0 y1 y2 y3 y4 y5 y6 u0 u1 u2 u3 u4 u5 u6
        have HW2 := Lib.hid hW2
        have hok10 : t.bn ≤ 1048576 := by have := hok.1.2.1.1; omega
        clear hb hq hX hok hW2 hB
        go_wp2_with fail
        rw [← HW2.out]
        clear HW2 y0 y1 y2 y3 y4 y5 y6 u0 u1 u2 u3 u4 u5 u6
        refine (l16Same_any X t.bn aN cN (Bi.line t x) z.b z.n b kb z.L _ Q2.out (HL.out.below B2.out) hok10).mono ?_
        rintro e w3 ⟨rfl, hb⟩
        have B3 : Hid (Below W.heap.size W w3) := B2.out.trans (hb.mono B2.out.size)
        have B4 : Hid (Below w.heap.size w w3) := BW.out.trans (B3.out.mono BW.out.size)
        clear hb
        by_cases hs : Bi.Alike X t.bn (Bi.line t x) z.b z.n z.L
        · rw [Bi.dB_tt hs]
          have HE : Hid (Bi.dB (Bi.BRight t x z) = true) := Bi.dB_tt ⟨_, HOK.out, by rw [← HX.out]; exact hs.1, hs.2.1, hs.2.2⟩
          clear hs
          go_wp2_with fail
          go_ret
          exact ⟨by rw [HE.out]; rfl, B4.out⟩
        · rw [Bi.dB_ff hs]
          have HS2 : Hid (∀ j : Nat, j < i + 1 → Bi.Ok t j x ∧ ¬ Bi.Same t j x z) := fun j hj => by
            by_cases e : j = i
            · subst e; exact ⟨HOK.out, fun h => hs ⟨by rw [HX.out]; exact h.1, h.2.1, h.2.2⟩⟩
            · exact hsm.out j (by omega)
          clear hs
          go_wp2_with fail
          go_roundw
          case rel => exact ⟨i + 1, by omega, by go_num, HS2, B3⟩
          case measure => simp [intOf]; omega
    · obtain rfl : i = 1001 := by omega
      have HE : Hid (Bi.dB (Bi.BRight t x z) = false) := Bi.dB_ff (fun h => by
        obtain ⟨d, h1, h2⟩ := h
        obtain ⟨D, rfl⟩ : ∃ D : Nat, d = (D : Int) := ⟨d.toNat, by have := h1.2.1; omega⟩
        exact (hsm.out D (by have := h1.2.1; omega)).2 h2)
      go_wp2_with fail
      go_ret
      exact ⟨by rw [HE.out]; rfl, BW.out.trans (hB.out.mono BW.out.size)⟩
end Go.Proofs.YtnbnfifgajfomaaDoor
