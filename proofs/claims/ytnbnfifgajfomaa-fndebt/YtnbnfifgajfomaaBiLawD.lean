/-
  The laws FnExactPlanDebt and FnDebt.
-/
import Derived.Test.YtnbnfifgajfomaaBiD
import Derived.Test.YtnbnfifgajfomaaDrawA
import Derived.Test.YtnbnfifgajfomaaSource
import Derived.BigQuiet
namespace Go.Proofs.Ytnbnfifgajfomaa
open Go.RowKit Go.Deep

/-- What stands between the law's calls. -/
structure PdS (s N : Nat) (a5 : Option Addr) (c5 h6 : Nat) (a6 : Option Addr) (c6 : Nat) (U V : Nat → Int) (w W : World) : Prop where
  t5 : QsOwn s N a5 c5 U W
  t6 : QsOwn h6 N a6 c6 V W
  o5 : s ≤ h6 ∧ ∀ k, (Value.slice a5 N c5).ownBlock = some k → k < h6
  bel : Below s w W
theorem PdS.below {s N : Nat} {a5 : Option Addr} {c5 h6 : Nat} {a6 : Option Addr} {c6 : Nat} {U V : Nat → Int} {w W W' : World} (h : PdS s N a5 c5 h6 a6 c6 U V w W) (hs : s ≤ W.heap.size) (hb : Below W.heap.size W W') : PdS s N a5 c5 h6 a6 c6 U V w W' :=
  ⟨h.t5.below hb, h.t6.below hb, h.o5, h.bel.trans (hb.mono hs)⟩
set_option maxRecDepth 100000 in
set_option maxHeartbeats 4000000 in
theorem planDebt_law (w : World) (d m : Int) :
    Calls Try.prog 5 #[.int .i64 d, .int .i64 m] w fun e w' => e = .returned (.bool true) ∧ Below w.heap.size w w' := by
  obtain ⟨N, hN⟩ : ∃ N, N = Bi.dN d m := ⟨_, rfl⟩
  have hN1 : N ≤ 1048576 := by rw [hN]; have := Bi.dN_le d m; omega
  obtain ⟨U, hU⟩ : ∃ U, U = Bi.debt d m := ⟨_, rfl⟩
  have HN := Lib.hid hN
  have HN1 := Lib.hid hN1
  have HU := Lib.hid hU
  clear hN hN1 hU
  go_enter Try.func5, Try.ntmps5
  go_wp2_with fail
  refine (specDebt_any d m _).mono ?_
  rintro e w1 ⟨⟨a5, c5, rfl, hq⟩, hb⟩
  rw [← HN.out] at hq ⊢
  rw [← HU.out] at hq
  have B1 := Lib.hid hb
  have Q1 := Lib.hid hq
  clear hb hq
  go_wp2_with fail
  refine (implDebt_any d m _).mono ?_
  rintro e w2 ⟨⟨a6, c6, rfl, hq⟩, hb⟩
  rw [← HN.out] at hq ⊢
  rw [← HU.out] at hq
  obtain ⟨h6, hh6⟩ : ∃ h, h = w1.heap.size := ⟨_, rfl⟩
  have S2 : Hid (PdS w.heap.size N a5 c5 h6 a6 c6 U U w w2 ∧ w.heap.size ≤ w2.heap.size) := by
    rw [← hh6] at hq
    exact ⟨⟨Q1.out.below hb, hq, ⟨by rw [hh6]; exact B1.out.size, fun k e => by rw [hh6]; exact (Q1.out.lt e).2⟩, B1.out.trans (hb.mono B1.out.size)⟩, Nat.le_trans B1.out.size hb.size⟩
  clear hb hq B1 Q1 hh6
  go_wp2_with fail
  refine (qeqInt64S_same a6 a5 N c6 c5 U _ S2.out.1.t6.in_ S2.out.1.t5.in_ HN1.out).mono ?_
  rintro e w3 ⟨rfl, hb⟩
  have S3 : Hid (PdS w.heap.size N a5 c5 h6 a6 c6 U U w w3 ∧ w.heap.size ≤ w3.heap.size) := ⟨S2.out.1.below S2.out.2 hb, Nat.le_trans S2.out.2 hb.size⟩
  clear hb S2
  go_wp2_with fail
  refine (qmark _ S3.out.1.t6 HN1.out).mono ?_
  rintro e w4 ⟨rfl, hm, hk, h1, h2, h3, h4⟩
  have S4 : Hid (PdS w.heap.size N a5 c5 h6 a6 c6 U (mk1 1) w w4 ∧ w.heap.size ≤ w4.heap.size) := by
    have q := S3.out.1
    refine ⟨⟨q.t5.same (fun k e hk2 => hk k hk2 (fun e2 => by have := (q.t6.lt e2).1; have := q.o5.2 k e; omega)), hm, q.o5, q.bel.trans ⟨h1, h2, h3, h4, fun k hk2 => hk k (by have := S3.out.2; omega) (fun e => by have := (q.t6.lt e).1; have := q.o5.1; omega)⟩⟩, Nat.le_trans S3.out.2 h4⟩
  clear hm hk h1 h2 h3 h4 S3
  obtain ⟨Q, hQ⟩ : ∃ Q : Nat, Q = 1 + N := ⟨_, rfl⟩
  have HQ : Hid (1 + N = Q) := hQ.symm
  rw [← hQ]
  have hQ0 : ¬ (Q : Int) < 0 := by omega
  have hQQ : ((Q : Int) != (Q : Int)) = false := by simp
  clear hQ
  go_wp2_with fail
  refine (qheld _ S4.out.1.t6 HN1.out).mono ?_
  rintro e w5 ⟨rfl, hw5⟩
  subst hw5
  rw [HQ.out]
  go_wp2_with fail
  refine (implDebt_any d m _).mono ?_
  rintro e w6 ⟨⟨a9, c9, rfl, hq⟩, hb⟩
  rw [← HN.out] at hq ⊢
  rw [← HU.out] at hq
  have S6 : Hid (PdS w.heap.size N a5 c5 h6 a6 c6 U (mk1 1) w w6 ∧ w.heap.size ≤ w6.heap.size) := ⟨S4.out.1.below S4.out.2 hb, Nat.le_trans S4.out.2 hb.size⟩
  have Q6 := Lib.hid hq
  clear hb hq S4
  go_wp2_with fail
  refine (qeqInt64S_same a9 a5 N c9 c5 U _ Q6.out.in_ S6.out.1.t5.in_ HN1.out).mono ?_
  rintro e w7 ⟨rfl, hb⟩
  have S7 : Hid (PdS w.heap.size N a5 c5 h6 a6 c6 U (mk1 1) w w7 ∧ w.heap.size ≤ w7.heap.size) := ⟨S6.out.1.below S6.out.2 hb, Nat.le_trans S6.out.2 hb.size⟩
  clear hb S6 Q6
  go_wp2_with fail
  refine (qheld _ S7.out.1.t6 HN1.out).mono ?_
  rintro e w8 ⟨rfl, hw8⟩
  subst hw8
  rw [HQ.out]
  go_wp2_with fail
  go_ret
  exact ⟨rfl, S7.out.1.bel⟩
set_option maxRecDepth 100000 in
set_option maxHeartbeats 2000000 in
theorem bisum_any (a : Option Addr) (n cap : Nat) (f : Nat → Int) (w : World) (h : IsIn a n f w) (hn : n ≤ 1000) (hf : ∀ i, i < n → 0 ≤ f i ∧ f i ≤ 100000000000) :
    Calls Try.prog 9 #[.slice a n cap] w fun e w' => e = .returned (.int .i64 (Bi.sum f n)) ∧ w' = w := by
  have H := Lib.hid h
  have HF := Lib.hid hf
  clear h hf
  go_enter Try.func9, Try.ntmps9
  go_wp2_with fail
  go_loopw [3, 4] (fun sv iv wr => ∃ (i : Nat), i ≤ n ∧ iv = .int .i64 i ∧ sv = .int .i64 (Bi.sum f i) ∧ Hid (wr = w)) (fun _ iv _ => n - (intOf iv).toNat)
  case atStart => exact ⟨0, Nat.zero_le _, rfl, rfl, rfl⟩
  case round =>
    obtain ⟨i, hi, rfl, rfl, hW⟩ := hrel
    obtain rfl := hW.out
    clear hW
    by_cases hlt : i < n
    · have hltz : (i : Int) < (n : Int) := by omega
      obtain ⟨b, o, rfl, c0⟩ := H.out.at1 hlt
      have hs := Bi.sum_bd (f := f) (M := 100000000000) i (fun j hj => HF.out j (by omega))
      have hx := HF.out i hlt
      obtain ⟨s, hse⟩ : ∃ s, s = Bi.sum f i := ⟨_, rfl⟩
      rw [← hse] at hs ⊢
      have HS : Hid (s + f i = Bi.sum f (i + 1)) := by show _ = _; rw [hse]; rfl
      have hs0 := hs.1
      have hs1 : s ≤ 100000000000000 := by omega
      have hx0 := hx.1
      have hx1 := hx.2
      clear hse hs hx
      go_wp2_with fail
      go_roundw
      case rel => exact ⟨i + 1, by omega, by go_num, by rw [HS.out], by first | exact rfl | exact (trivial : True)⟩
      case measure => simp [intOf]; omega
    · obtain rfl : i = n := by omega
      go_wp2_with fail
      go_ret
      exact ⟨rfl, rfl⟩
set_option maxRecDepth 100000 in
set_option maxHeartbeats 2000000 in
theorem drawDebt_any (a : Option Addr) (len cap : Nat) (w : World) (h : Bytes a len w) (hl : len ≤ 4194304) :
    Calls Try.prog 6 #[.slice a len cap] w fun e w' => (∃ d m : Int, e = .returned (.tuple #[.int .i64 d, .int .i64 m])) ∧ Below w.heap.size w w' := by
  have H := Lib.hid h
  clear h
  go_enter Try.func6, Try.ntmps6
  go_wp2_with fail
  refine (source_any a len cap _ H.out hl).mono ?_
  rintro e w1 ⟨rfl, hs, hb⟩
  have HB := Lib.hid hb
  have HS := Lib.hid hs
  clear hb hs H
  go_wp2_with fail
  refine (one_any w.heap.size 10 _ HS.out (by omega)).mono ?_
  rintro e w2 ⟨⟨b, rfl⟩, hD⟩
  have HB2 : Hid (Below w.heap.size w w2) := HB.out.trans (hD.2.below (Nat.le_refl _) HB.out.size)
  have HS2 := Lib.hid hD.1
  clear hD HB HS
  cases b
  · go_wp2_with fail
    refine (n_any w.heap.size 5000 _ HS2.out (by omega)).mono ?_
    rintro e w3 ⟨⟨x, rfl, x0, x1, _⟩, hD⟩
    have HB3 : Hid (Below w.heap.size w w3) := HB2.out.trans (hD.2.below (Nat.le_refl _) HB2.out.size)
    have HS3 := Lib.hid hD.1
    clear hD HB2 HS2
    go_wp2_with fail
    refine (n_any w.heap.size 30 _ HS3.out (by omega)).mono ?_
    rintro e w4 ⟨⟨y, rfl, y0, y1, _⟩, hD⟩
    have HB4 : Hid (Below w.heap.size w w4) := HB3.out.trans (hD.2.below (Nat.le_refl _) HB3.out.size)
    clear hD HB3 HS3
    go_wp2_with fail
    exact bodyPost_ret (v := .tuple #[.int .i64 x, .int .i64 y]) (by simp only [results, Try.results6]; simp [go_sem]) rfl ⟨⟨_, _, rfl⟩, HB4.out⟩
  · go_wp2_with fail
    refine (edge_any w.heap.size _ HS2.out).mono ?_
    rintro e w3 ⟨⟨x, rfl, x0, x1⟩, hD⟩
    have HB3 : Hid (Below w.heap.size w w3) := HB2.out.trans (hD.2.below (Nat.le_refl _) HB2.out.size)
    have HS3 := Lib.hid hD.1
    clear hD HB2 HS2
    go_wp2_with fail
    refine (n_any w.heap.size 123 _ HS3.out (by omega)).mono ?_
    rintro e w4 ⟨⟨y, rfl, y0, y1, _⟩, hD⟩
    have HB4 : Hid (Below w.heap.size w w4) := HB3.out.trans (hD.2.below (Nat.le_refl _) HB3.out.size)
    have y2 := y1 (by omega)
    clear hD HB3 HS3 y1
    go_wp2_with fail
    exact bodyPost_ret (v := .tuple #[.int .i64 x, .int .i64 (y - 1)]) (by simp only [results, Try.results6]; simp [go_sem]) rfl ⟨⟨_, _, rfl⟩, HB4.out⟩
set_option maxRecDepth 100000 in
set_option maxHeartbeats 4000000 in
theorem debt_law (w : World) (a : Option Addr) (len cap : Nat) (h : Bytes a len w) (hl : len ≤ 9223372036854775807) :
    Calls Try.prog 3 #[.slice a len cap] w fun e w' => e = .returned (.bool true) ∧ Below w.heap.size w w' := by
  have H := Lib.hid h
  clear h
  by_cases hbig : (1048576 : Int) < (len : Int)
  · go_enter Try.func3, Try.ntmps3
    go_wp2_with fail
    go_ret
    exact ⟨rfl, Below.refl _ _⟩
  go_enter Try.func3, Try.ntmps3
  go_wp2_with fail
  refine (drawDebt_any a len cap _ H.out (by omega)).mono ?_
  rintro e w1 ⟨⟨d, m, rfl⟩, hb⟩
  have HB := Lib.hid hb
  clear hb H hbig
  go_wp2_with fail
  refine (specDebt_any d m _).mono ?_
  rintro e w2 ⟨⟨a5, c5, rfl, _⟩, hb⟩
  have HB2 : Hid (Below w.heap.size w w2) := HB.out.trans (hb.mono HB.out.size)
  clear hb HB
  by_cases c : Bi.DebtOk d m
  case neg =>
    rw [Bi.dN_no c]
    have HE := Lib.hid (Bi.dN_no c)
    clear c
    go_wp2_with fail
    refine (implDebt_any d m _).mono ?_
    rintro e w3 ⟨⟨a6, c6, rfl, _⟩, hb⟩
    rw [HE.out]
    have HB3 : Hid (Below w.heap.size w w3) := HB2.out.trans (hb.mono HB2.out.size)
    clear hb
    go_wp2_with fail
    go_ret
    exact ⟨rfl, HB3.out⟩
  have HC := Lib.hid c
  obtain ⟨M, hM⟩ : ∃ M : Nat, m = (M : Int) := ⟨m.toNat, by have := c.2; omega⟩
  subst hM
  have hM1 : 1 ≤ M ∧ M ≤ 120 := by have := c.2; omega
  have hMz : ((M : Int) == 0) = false := by simp; omega
  have HE : Hid (Bi.dN d (M : Int) = M) := by show _ = _; rw [Bi.dN_ok c]; simp
  rw [HE.out]
  clear c
  go_wp2_with fail
  refine (implDebt_any d (M : Int) _).mono ?_
  rintro e w3 ⟨⟨a6, c6, rfl, hq⟩, hb⟩
  rw [HE.out] at hq ⊢
  have HB3 : Hid (Below w.heap.size w w3) := HB2.out.trans (hb.mono HB2.out.size)
  have HQ := Lib.hid hq
  clear hb hq HB2
  have hMM : ((M : Int) != (M : Int)) = false := by simp
  go_wp2_with fail
  refine (bisum_any _ _ _ _ _ HQ.out.in_ (by omega) (fun i hi => by have := Bi.debt_bd HC.out i; omega)).mono ?_
  rintro e w4 ⟨rfl, hw4⟩
  subst hw4
  have HS : Bi.sum (Bi.debt d (M : Int)) M = d := by have := Bi.debt_all HC.out; simpa using this
  rw [HS]
  clear HS
  have hdd : (d != d) = false := by simp
  obtain ⟨g, o, rfl, hcell⟩ := HQ.out.in_.pos (by omega)
  have c0 := hcell 0 (by omega)
  have c1 := hcell (M - 1) (by omega)
  have hz1 : ((M : Int) - 1).toNat = M - 1 := by omega
  have hz3 : ¬ (M : Int) - 1 < 0 := by omega
  have hz4 : (M : Int) - 1 < (M : Int) := by omega
  have hz5 : (0 : Int) < (M : Int) := by omega
  have hz6 : IntKind.i64.wrap ((M : Int) - 1) = (M : Int) - 1 := by simp [IntKind.wrap, IntKind.bits, IntKind.signed]; omega
  obtain ⟨x, hx⟩ : ∃ x, x = Bi.debt d (M : Int) 0 := ⟨_, rfl⟩
  obtain ⟨y, hy⟩ : ∃ y, y = Bi.debt d (M : Int) (M - 1) := ⟨_, rfl⟩
  rw [← hx] at c0
  rw [← hy] at c1
  have hx1 : 0 ≤ x ∧ x ≤ 1000000001 := by rw [hx]; exact Bi.debt_bd HC.out 0
  have hy1 : 0 ≤ y ∧ y ≤ 1000000001 := by rw [hy]; exact Bi.debt_bd HC.out _
  have hxy : decide (x - y ≤ 1) = true := by rw [hx, hy]; exact decide_eq_true (Bi.debt_near _ _)
  have hyx : decide (y ≤ x) = true := by
    apply decide_eq_true
    rw [hx, hy]
    unfold Bi.debt
    have := HC.out.1
    have h0 := Int.emod_nonneg d (show (M : Int) ≠ 0 by omega)
    split <;> split <;> omega
  simp only [Nat.add_zero] at c0
  clear hx hy hcell
  have hz7 : IntKind.i64.wrap (x - y) = x - y := by simp [IntKind.wrap, IntKind.bits, IntKind.signed]; omega
  go_wp2_with fail
  go_quiet (fail)
  go_wp2_with fail
  go_ret
  exact ⟨rfl, HB3.out.os, HB3.out.tape, HB3.out.output, HB3.out.size, HB3.out.block⟩
end Go.Proofs.Ytnbnfifgajfomaa
