/-
  The law FnExactSewerStep.
-/
import Derived.Test.YtokbhkcpkilcmaaDoorSwEx3
import Derived.Test.YtokbhkcpkilcmaaDoorSwS4
import Derived.Deep.Cut
namespace Go.Proofs.YtokbhkcpkilcmaaDoor
open Go.RowKit Go.Deep

/-- The model answers so. -/
def SpAns (n m : Nat) (rs : Nat → Sw.Rc) (f : Nat → Int) (N : Nat) (sea code : Int) (rsA : Nat → Sw.Rc) (fl tk : Nat → Int) : Prop :=
  ∀ (a b : Option Addr) (cn cm : Nat) (w : World), RcsAt a n rs w → IntsAt b m f w → Calls Tryd.prog 8 #[.slice a n cn, .slice b m cm] w fun e w' => (∃ A : Ans, e = .returned (A.v N sea code) ∧ A.lies N rsA fl tk w' ∧ ∀ b, (A.al = some ⟨b, 0, none⟩ ∨ A.af = some ⟨b, 0, none⟩ ∨ A.at_ = some ⟨b, 0, none⟩) → b < w'.heap.size) ∧ Below w.heap.size w w'
/-- The program answers so. -/
def ImAns (n m : Nat) (rs : Nat → Sw.Rc) (f : Nat → Int) (N : Nat) (sea code : Int) (rsA : Nat → Sw.Rc) (fl tk : Nat → Int) : Prop :=
  ∀ (a b : Option Addr) (cn cm : Nat) (w : World), RcsAt a n rs w → IntsAt b m f w → Et w → Calls Tryd.prog 11 #[.slice a n cn, .slice b m cm] w fun e w' => (∃ A : Ans, e = .returned (A.v N sea code) ∧ A.own w.heap.size N rsA fl tk w') ∧ Below w.heap.size w w'
theorem step_both (n m : Nat) (rs : Nat → Sw.Rc) (f : Nat → Int) : ∃ N sea code rsA fl tk, N ≤ 1048576 ∧ SpAns n m rs f N sea code rsA fl tk ∧ ImAns n m rs f N sea code rsA fl tk := by
  cases hr : Sw.stepF n m rs f with
  | error k =>
    refine ⟨0, 0, k, rs, f, f, by omega, fun a b cn cm w h1 h2 => ?_, fun a b cn cm w h1 h2 hg => ?_⟩
    · refine (specStep_any a b n cn m cm rs f w h1 h2).mono ?_
      rw [hr]
      rintro e w' ⟨hE, hb⟩
      rcases hE with ⟨k', e1, _, rfl⟩ | ⟨st, gl, gf, gt, c, cf, ct, e1, _⟩
      · cases e1
        exact ⟨⟨⟨none, none, none, 0, 0, 0⟩, rfl, ⟨Or.inl rfl, Or.inl rfl, Or.inl rfl⟩, fun b hb => by rcases hb with e | e | e <;> cases e⟩, hb⟩
      · cases e1
    · refine (implStep_any a b n cn m cm rs f w h1 h2 hg).mono ?_
      rw [hr]
      rintro e w' ⟨hE, hb⟩
      rcases hE with ⟨k', e1, _, rfl⟩ | ⟨st, gl, gf, gt, c, cf, ct, e1, _⟩
      · cases e1
        exact ⟨⟨⟨none, none, none, 0, 0, 0⟩, rfl, Or.inl ⟨rfl, rfl⟩⟩, hb⟩
      · cases e1
  | ok st =>
    have hn := (Sw.stepF_inv hr).1.1.1
    refine ⟨n, st.sea, 0, Sw.after rs st, st.fl, st.tk, by omega, fun a b cn cm w h1 h2 => ?_, fun a b cn cm w h1 h2 hg => ?_⟩
    · refine (specStep_any a b n cn m cm rs f w h1 h2).mono ?_
      rw [hr]
      rintro e w' ⟨hE, hb⟩
      rcases hE with ⟨k', e1, _, _⟩ | ⟨st', gl, gf, gt, c, cf, ct, e1, rfl, hL⟩
      · cases e1
      · cases e1
        exact ⟨⟨⟨some ⟨gl, 0, none⟩, some ⟨gf, 0, none⟩, some ⟨gt, 0, none⟩, c, cf, ct⟩, rfl, ⟨hL.2.2.1.at_, hL.2.2.2.1.at_, hL.2.2.2.2.at_⟩, fun b hb => by
          rcases hb with e | e | e
          · cases e; exact hL.2.2.1.lt
          · cases e; exact hL.2.2.2.1.lt
          · cases e; exact hL.2.2.2.2.lt⟩, hb⟩
    · refine (implStep_any a b n cn m cm rs f w h1 h2 hg).mono ?_
      rw [hr]
      rintro e w' ⟨hE, hb⟩
      rcases hE with ⟨k', e1, _, _⟩ | ⟨st', gl, gf, gt, c, cf, ct, e1, rfl, hL⟩
      · cases e1
      · cases e1
        exact ⟨⟨⟨some ⟨gl, 0, none⟩, some ⟨gf, 0, none⟩, some ⟨gt, 0, none⟩, c, cf, ct⟩, rfl, Or.inr ⟨gl, gf, gt, rfl, rfl, rfl, hL⟩⟩, hb⟩

/-- What stands from step to step: the model's answer, the old memory. -/
structure XS (w : World) (X : Nat) (A0 : Ans) (N : Nat) (sea code : Int) (rsA : Nat → Sw.Rc) (fl tk : Nat → Int) (W : World) : Prop where
  old : Below w.heap.size w W
  rx : W.rowIs X 27 5 (A0.row N sea code)
  l0 : A0.lies N rsA fl tk W
  lo : ∀ b, (A0.al = some ⟨b, 0, none⟩ ∨ A0.af = some ⟨b, 0, none⟩ ∨ A0.at_ = some ⟨b, 0, none⟩) → b < X
  hX : w.heap.size ≤ X
section
variable {w : World} {X : Nat} {A0 : Ans} {N : Nat} {sea code : Int} {rsA : Nat → Sw.Rc} {fl tk : Nat → Int} {W W' : World}
theorem XS.below (h : XS w X A0 N sea code rsA fl tk W) (hb : Below W.heap.size W W') : XS w X A0 N sea code rsA fl tk W' :=
  ⟨h.old.trans (hb.mono h.old.size), h.rx.of_block (hb.block _ h.rx.lt), h.l0.below hb, h.lo, h.hX⟩
theorem XS.chg (h : XS w X A0 N sea code rsA fl tk W) (h1 : ∀ k, k ≤ X → k < W.heap.size → W'.heap[k]? = W.heap[k]?) (h2 : W'.os = W.os ∧ W'.tape = W.tape ∧ W'.output = W.output ∧ W.heap.size ≤ W'.heap.size) : XS w X A0 N sea code rsA fl tk W' :=
  ⟨⟨h2.1.trans h.old.os, h2.2.1.trans h.old.tape, h2.2.2.1.trans h.old.output, Nat.le_trans h.old.size h2.2.2.2, fun k hk => (h1 k (by have := h.hX; omega) (by have := h.old.size; omega)).trans (h.old.block k hk)⟩, h.rx.of_block (h1 X (Nat.le_refl _) h.rx.lt), h.l0.same (fun b e hl => h1 b (Nat.le_of_lt (h.lo b e)) hl), h.lo, h.hX⟩
theorem row_cells {Y : Nat} {A : Ans} (h : W.rowIs Y 27 5 (A.row N sea code)) : W.cell? ⟨Y, 0, none⟩ = some (.slice A.al N A.cl) ∧ W.cell? ⟨Y, 1, none⟩ = some (.slice A.af N A.cf) ∧ W.cell? ⟨Y, 2, none⟩ = some (.slice A.at_ N A.ct) ∧ W.cell? ⟨Y, 3, none⟩ = some (.int .i64 sea) ∧ W.cell? ⟨Y, 4, none⟩ = some (.int .i64 code) :=
  ⟨h.cell (i := 0) (by omega), h.cell (i := 1) (by omega), h.cell (i := 2) (by omega), h.cell (i := 3) (by omega), h.cell (i := 4) (by omega)⟩
end
/-- The box of an answer. -/
abbrev anO (A : Ans) (N : Nat) (sea code : Int) : Obj := .cells #[.slice A.al N A.cl, .slice A.af N A.cf, .slice A.at_ N A.ct, .int .i64 sea, .int .i64 code] 27
theorem box_row (W : World) (A : Ans) (N : Nat) (sea code : Int) : (W.alloc (anO A N sea code)).rowIs W.heap.size 27 5 (A.row N sea code) :=
  World.rowIs_alloc W #[.slice A.al N A.cl, .slice A.af N A.cf, .slice A.at_ N A.ct, .int .i64 sea, .int .i64 code] 27 _ (ro5_row _ _ _ _ _)

set_option maxRecDepth 100000 in
set_option maxHeartbeats 4000000 in
theorem stepL_long (a b : Option Addr) (n cn m cm : Nat) (w : World) (hm : 1048576 < m) :
    Calls Tryd.prog 3 #[.slice a n cn, .slice b m cm] w fun e w' => e = .returned (.bool true) ∧ Below w.heap.size w w' := by
  have hz : (1048576 : Int) < (m : Int) := by omega
  go_enter Tryd.func3, Tryd.ntmps3
  go_wp2_with fail
  go_ret
  exact ⟨rfl, Below.refl _ _⟩
set_option maxRecDepth 100000 in
set_option maxHeartbeats 4000000 in
theorem stepL_over (a b : Option Addr) (n cn m cm : Nat) (w : World) (hm : m ≤ 1048576) (hn : 1048576 < n) (hn2 : n ≤ 9223372036854775807) :
    Calls Tryd.prog 3 #[.slice a n cn, .slice b m cm] w fun e w' => e = .returned (.bool true) ∧ Below w.heap.size w w' := by
  have hz : ¬ (1048576 : Int) < (m : Int) := by omega
  go_enter Tryd.func3, Tryd.ntmps3
  go_wp2_with fail
  refine (sz_over a n cn _ hn hn2).mono ?_
  rintro e w1 ⟨rfl, rfl⟩
  go_wp2_with fail
  go_ret
  exact ⟨rfl, Below.refl _ _⟩

set_option maxRecDepth 100000 in
set_option maxHeartbeats 16000000 in
theorem stepL_law (a b : Option Addr) (n cn m cm : Nat) (rs : Nat → Sw.Rc) (f : Nat → Int) (w : World) (h : RcsIn a n rs w) (h2 : IntsIn b m f w) (hn : n ≤ 1048576) (hm : m ≤ 1048576) (hg : Et w) :
    Calls Tryd.prog 3 #[.slice a n cn, .slice b m cm] w fun e w' => e = .returned (.bool true) ∧ Below w.heap.size w w' := by
  obtain ⟨N, sea, code, rsA, fl, tk, hN, hS, hI⟩ := step_both n m rs f
  have H := Lib.hid h
  have H2 := Lib.hid h2
  have HG := Lib.hid hg
  have HS := Lib.hid hS
  have HI := Lib.hid hI
  have hz : ¬ ((1048576 - n : Nat) : Int) < 0 := by omega
  have hzm : ¬ (1048576 : Int) < (m : Int) := by omega
  clear h h2 hg hS hI
  go_enter Tryd.func3, Tryd.ntmps3
  go_wp2_with fail
  refine (sz_in a n cn _ hn).mono ?_
  rintro e w1 ⟨rfl, rfl⟩
  go_wp2_with fail
  refine (toReachS_any a n cn rs _ H.out hn).mono ?_
  rintro e w2 ⟨⟨rfl, hblk⟩, hb⟩
  have B2 := Lib.hid hb
  have K2 := Lib.hid hblk
  clear hb hblk
  go_wp2_with fail
  refine (toInt64S_any b m cm f _ (H2.out.below B2.out) hm).mono ?_
  rintro e w3 ⟨⟨rfl, hblk⟩, hb⟩
  have B3 : Hid (Below w1.heap.size w1 w3) := B2.out.trans (hb.mono B2.out.size)
  have K3 : Hid (RcBlk w1.heap.size n rs w3) := K2.out.block (hb.block _ K2.out.lt)
  have J3 := Lib.hid hblk
  clear hb hblk B2 K2
  go_wp2_with fail
  refine (HS.out _ _ _ _ _ K3.out.at_ J3.out.at_).mono ?_
  rintro e w4 ⟨⟨A0, rfl, hl, hlo⟩, hb⟩
  have X4 : Hid (XS w1 w4.heap.size A0 N sea code rsA fl tk (w4.alloc (anO A0 N sea code))) := ⟨(B3.out.trans (hb.mono B3.out.size)).alloc (Nat.le_trans B3.out.size hb.size) _, box_row w4 A0 N sea code, hl.below ((Below.refl _ _).alloc (Nat.le_refl _) _), hlo, Nat.le_trans B3.out.size hb.size⟩
  have zX : w4.heap.size < (w4.alloc (anO A0 N sea code)).heap.size := by simp
  clear hl hlo hb B3 K3 J3
  obtain ⟨p1, p2, p3, p4, p5, p6⟩ := A0
  go_wp2_with fail
  generalize w4.alloc (anO ⟨p1, p2, p3, p4, p5, p6⟩ N sea code) = W4 at *
  generalize w4.heap.size = X at *
  refine (toReachS_any a n cn rs _ (H.out.below X4.out.old) hn).mono ?_
  rintro e w5 ⟨⟨rfl, hblk⟩, hb⟩
  have X5 := Lib.hid (X4.out.below hb)
  have K5 := Lib.hid hblk
  have zg : w1.heap.size ≤ X := X4.out.hX
  clear hb hblk X4
  generalize W4.heap.size = g1 at *
  go_wp2_with fail
  refine (toInt64S_any b m cm f _ (H2.out.below X5.out.old) hm).mono ?_
  rintro e w6 ⟨⟨rfl, hblk⟩, hb⟩
  have X6 := Lib.hid (X5.out.below hb)
  have K6 : Hid (RcBlk g1 n rs w6) := K5.out.block (hb.block _ K5.out.lt)
  have J6 := Lib.hid hblk
  have z12 : g1 < w5.heap.size := K5.out.lt
  clear hb hblk X5 K5
  generalize w5.heap.size = g2 at *
  go_wp2_with fail
  refine (HI.out _ _ _ _ _ K6.out.at_ J6.out.at_ (HG.out.below X6.out.old)).mono ?_
  rintro e w7 ⟨⟨A, rfl, hown⟩, hb⟩
  have z2B : g2 < w6.heap.size := J6.out.lt
  have hb7 : Below w6.heap.size w6 (w7.alloc (anO A N sea code)) := hb.alloc hb.size _
  have X7 := Lib.hid (X6.out.below hb7)
  have K7 : Hid (RcBlk g1 n rs (w7.alloc (anO A N sea code))) := K6.out.block (hb7.block _ K6.out.lt)
  have J7 : Hid (InBlk g2 m f (w7.alloc (anO A N sea code))) := J6.out.block (hb7.block _ J6.out.lt)
  have G7 := Lib.hid (hown.same (W' := w7.alloc (anO A N sea code)) (fun k _ hk => blk_alloc_lt _ _ _ hk))
  have Y7 := Lib.hid (box_row w7 A N sea code)
  have hfarY : Hid (∀ k, (A.al = some ⟨k, 0, none⟩ ∨ A.af = some ⟨k, 0, none⟩ ∨ A.at_ = some ⟨k, 0, none⟩) → w6.heap.size ≤ k ∧ k < w7.heap.size) := fun k hk => by
    rcases hown with ⟨rfl, _⟩ | ⟨gl, gf, gt, e1, e2, e3, h⟩
    · rcases hk with e | e | e <;> cases e
    · rcases hk with e | e | e
      · rw [e1] at e; cases e; exact ⟨h.1.1, h.2.2.1.lt⟩
      · rw [e2] at e; cases e; exact ⟨h.1.2.1, h.2.2.2.1.lt⟩
      · rw [e3] at e; cases e; exact ⟨h.1.2.2, h.2.2.2.2.lt⟩
  have zB : w6.heap.size ≤ w7.heap.size := hb.size
  clear hown hb hb7 X6 K6 J6
  obtain ⟨q1, q2, q3, q4, q5, q6⟩ := A
  generalize w6.heap.size = B at *
  go_upto_region 11 with fail
  generalize w7.alloc (anO ⟨q1, q2, q3, q4, q5, q6⟩ N sea code) = W7 at *
  generalize w7.heap.size = Y at *
  obtain ⟨x0, x1, x2, x3, x4⟩ := row_cells X7.out.rx
  obtain ⟨y0, y1, y2, y3, y4⟩ := row_cells Y7.out
  go_wp2_with fail
  refine (eqOutR ⟨q1, q2, q3, q4, q5, q6⟩ ⟨p1, p2, p3, p4, p5, p6⟩ N rsA fl tk sea code _ G7.out.lies X7.out.l0 hN).mono ?_
  rintro e w8 ⟨rfl, hb⟩
  have X8 := Lib.hid (X7.out.below hb)
  have K8 : Hid (RcBlk g1 n rs _) := K7.out.block (hb.block _ K7.out.lt)
  have J8 : Hid (InBlk g2 m f _) := J7.out.block (hb.block _ J7.out.lt)
  have G8 := Lib.hid (G7.out.same (fun k _ hk => hb.block k hk))
  have Y8 : Hid (World.rowIs _ Y 27 5 _) := Y7.out.of_block (hb.block _ Y7.out.lt)
  clear x0 x1 x2 x3 x4 y0 y1 y2 y3 y4
  clear hb X7 Y7 K7 J7 G7
  go_wp2_with fail
  refine (toReachS_any a n cn rs _ (H.out.below X8.out.old) hn).mono ?_
  rintro e w9 ⟨⟨rfl, hblk⟩, hb⟩
  have L9 := Lib.hid hblk
  clear hblk
  have X9 := Lib.hid (X8.out.below hb)
  have K9 : Hid (RcBlk g1 n rs _) := K8.out.block (hb.block _ K8.out.lt)
  have J9 : Hid (InBlk g2 m f _) := J8.out.block (hb.block _ J8.out.lt)
  have G9 := Lib.hid (G8.out.same (fun k _ hk => hb.block k hk))
  have Y9 : Hid (World.rowIs _ Y 27 5 _) := Y8.out.of_block (hb.block _ Y8.out.lt)
  clear hb X8 Y8 K8 J8 G8
  go_wp2_with fail
  refine (eqReachS_same _ _ n n n rs _ K9.out.at_ L9.out.at_ hn).mono ?_
  rintro e w10 ⟨rfl, hb⟩
  have X10 := Lib.hid (X9.out.below hb)
  have K10 : Hid (RcBlk g1 n rs _) := K9.out.block (hb.block _ K9.out.lt)
  have J10 : Hid (InBlk g2 m f _) := J9.out.block (hb.block _ J9.out.lt)
  have G10 := Lib.hid (G9.out.same (fun k _ hk => hb.block k hk))
  have Y10 : Hid (World.rowIs _ Y 27 5 _) := Y9.out.of_block (hb.block _ Y9.out.lt)
  clear L9
  clear hb X9 Y9 K9 J9 G9
  go_wp2_with fail
  refine (toInt64S_any b m cm f _ (H2.out.below X10.out.old) hm).mono ?_
  rintro e w11 ⟨⟨rfl, hblk⟩, hb⟩
  have L11 := Lib.hid hblk
  clear hblk
  have X11 := Lib.hid (X10.out.below hb)
  have K11 : Hid (RcBlk g1 n rs _) := K10.out.block (hb.block _ K10.out.lt)
  have J11 : Hid (InBlk g2 m f _) := J10.out.block (hb.block _ J10.out.lt)
  have G11 := Lib.hid (G10.out.same (fun k _ hk => hb.block k hk))
  have Y11 : Hid (World.rowIs _ Y 27 5 _) := Y10.out.of_block (hb.block _ Y10.out.lt)
  clear hb X10 Y10 K10 J10 G10
  go_wp2_with fail
  refine (eqInt64S_same _ _ m m m f _ J11.out.at_ L11.out.at_ hm).mono ?_
  rintro e w12 ⟨rfl, hb⟩
  have X12 := Lib.hid (X11.out.below hb)
  have K12 : Hid (RcBlk g1 n rs _) := K11.out.block (hb.block _ K11.out.lt)
  have J12 : Hid (InBlk g2 m f _) := J11.out.block (hb.block _ J11.out.lt)
  have G12 := Lib.hid (G11.out.same (fun k _ hk => hb.block k hk))
  have Y12 : Hid (World.rowIs _ Y 27 5 _) := Y11.out.of_block (hb.block _ Y11.out.lt)
  clear L11
  clear hb X11 Y11 K11 J11 G11
  go_wp2_with fail
  refine (markReachS_any g1 n n 1 rs _ K12.out hn (by omega)).mono ?_
  rintro e w13 ⟨rfl, _, ho⟩
  have hYB : B ≤ Y := zB
  have X13 := Lib.hid (X12.out.chg (fun k h1 h2 => ho.block k h2 (by omega)) ⟨ho.os, ho.tape, ho.output, ho.size⟩)
  have J13 : Hid (InBlk g2 m f w13) := J12.out.block (ho.block _ J12.out.lt (by omega))
  have G13 := Lib.hid (G12.out.same (fun k h1 h2 => ho.block k h2 (by omega)))
  have Y13 : Hid (w13.rowIs Y 27 5 _) := Y12.out.of_block (ho.block _ Y12.out.lt (by omega))
  clear ho X12 K12 J12 G12 Y12
  go_wp2_with fail
  refine (markInt64S_any g2 m m (1 + n * 6) f _ J13.out hm (by omega)).mono ?_
  rintro e w14 ⟨rfl, _, ho⟩
  have X14 := Lib.hid (X13.out.chg (fun k h1 h2 => ho.block k h2 (by omega)) ⟨ho.os, ho.tape, ho.output, ho.size⟩)
  have G14 := Lib.hid (G13.out.same (fun k h1 h2 => ho.block k h2 (by omega)))
  have Y14 : Hid (w14.rowIs Y 27 5 _) := Y13.out.of_block (ho.block _ Y13.out.lt (by omega))
  clear ho X13 J13 G13 Y13
  obtain ⟨M, hM⟩ : ∃ M : Nat, M = 1 + n * 6 + m := ⟨_, rfl⟩
  rw [← hM]
  have hM0 : ¬ (M : Int) < 0 := by omega
  clear hM
  obtain ⟨x0, x1, x2, x3, x4⟩ := row_cells X14.out.rx
  obtain ⟨y0, y1, y2, y3, y4⟩ := row_cells Y14.out
  go_wp2_with fail
  refine (eqOutR ⟨q1, q2, q3, q4, q5, q6⟩ ⟨p1, p2, p3, p4, p5, p6⟩ N rsA fl tk sea code _ G14.out.lies X14.out.l0 hN).mono ?_
  rintro e w15 ⟨rfl, hb⟩
  have X15 := Lib.hid (X14.out.below hb)
  have G15 := Lib.hid (G14.out.same (fun k _ hk => hb.block k hk))
  have Y15 : Hid (World.rowIs _ Y 27 5 _) := Y14.out.of_block (hb.block _ Y14.out.lt)
  clear x0 x1 x2 x3 x4 y0 y1 y2 y3 y4
  clear hb X14 Y14 G14
  obtain ⟨y0, y1, y2, y3, y4⟩ := row_cells Y15.out
  go_wp2_with fail
  refine (markOutR ⟨q1, q2, q3, q4, q5, q6⟩ B N rsA fl tk sea code _ G15.out hN).mono ?_
  rintro e w16 ⟨rfl, hmk, ho⟩
  have X16 := Lib.hid (X15.out.chg (fun k h1 h2 => ho.block k h2 (fun e => by have := hfarY.out k (Or.inl e); omega) (fun e => by have := hfarY.out k (Or.inr (Or.inl e)); omega) (fun e => by have := hfarY.out k (Or.inr (Or.inr e)); omega)) ⟨ho.os, ho.tape, ho.output, ho.size⟩)
  have Y16 : Hid (w16.rowIs Y 27 5 _) := Y15.out.of_block (ho.block _ Y15.out.lt (fun e => by have := hfarY.out Y (Or.inl e); omega) (fun e => by have := hfarY.out Y (Or.inr (Or.inl e)); omega) (fun e => by have := hfarY.out Y (Or.inr (Or.inr e)); omega))
  have M16 := Lib.hid hmk
  clear hmk ho X15 G15 Y15 y0 y1 y2 y3 y4
  obtain ⟨Q, hQ⟩ : ∃ Q : Nat, Q = 1 + N * 6 + N + N := ⟨_, rfl⟩
  have HQ : Hid (1 + N * 6 + N + N = Q) := hQ.symm
  rw [← hQ]
  have hQ0 : ¬ (Q : Int) < 0 := by omega
  clear hQ
  obtain ⟨y0, y1, y2, y3, y4⟩ := row_cells Y16.out
  go_wp2_with fail
  refine (heldOutR ⟨q1, q2, q3, q4, q5, q6⟩ B N sea code _ M16.out hN).mono ?_
  rintro e w17 ⟨rfl, hb⟩
  rw [HQ.out]
  have X17 := Lib.hid (X16.out.below hb)
  have M17 := Lib.hid (M16.out.same (fun k _ hk => hb.block k hk))
  have Y17 : Hid (World.rowIs _ Y 27 5 _) := Y16.out.of_block (hb.block _ Y16.out.lt)
  clear y0 y1 y2 y3 y4
  clear hb X16 Y16 M16
  go_wp2_with fail
  refine (toReachS_any a n cn rs _ (H.out.below X17.out.old) hn).mono ?_
  rintro e w18 ⟨⟨rfl, hblk⟩, hb⟩
  have L18 := Lib.hid hblk
  clear hblk
  have X18 := Lib.hid (X17.out.below hb)
  have M18 := Lib.hid (M17.out.same (fun k _ hk => hb.block k hk))
  have Y18 : Hid (World.rowIs _ Y 27 5 _) := Y17.out.of_block (hb.block _ Y17.out.lt)
  clear hb X17 Y17 M17
  go_wp2_with fail
  refine (toInt64S_any b m cm f _ (H2.out.below X18.out.old) hm).mono ?_
  rintro e w19 ⟨⟨rfl, hblk⟩, hb⟩
  have L19 := Lib.hid (L18.out.block (hb.block _ L18.out.lt))
  have R19 := Lib.hid hblk
  clear hblk L18
  have X19 := Lib.hid (X18.out.below hb)
  have M19 := Lib.hid (M18.out.same (fun k _ hk => hb.block k hk))
  have Y19 : Hid (World.rowIs _ Y 27 5 _) := Y18.out.of_block (hb.block _ Y18.out.lt)
  clear hb X18 Y18 M18
  go_wp2_with fail
  refine (HI.out _ _ _ _ _ L19.out.at_ R19.out.at_ (HG.out.below X19.out.old)).mono ?_
  rintro e w20 ⟨⟨A2, rfl, hown⟩, hb0⟩
  have hb : Below w19.heap.size w19 (w20.alloc (anO A2 N sea code)) := hb0.alloc hb0.size _
  have G20 := Lib.hid (hown.same (W' := w20.alloc (anO A2 N sea code)) (fun k _ hk => blk_alloc_lt _ _ _ hk))
  have Z20 := Lib.hid (box_row w20 A2 N sea code)
  clear hown hb0 L19 R19
  have X20 := Lib.hid (X19.out.below hb)
  have M20 := Lib.hid (M19.out.same (fun k _ hk => hb.block k hk))
  have Y20 : Hid (World.rowIs _ Y 27 5 _) := Y19.out.of_block (hb.block _ Y19.out.lt)
  clear hb X19 Y19 M19
  obtain ⟨r1, r2, r3, r4, r5, r6⟩ := A2
  go_upto_region 31 with fail
  generalize w20.alloc (anO ⟨r1, r2, r3, r4, r5, r6⟩ N sea code) = W20 at *
  generalize w20.heap.size = Z at *
  obtain ⟨x0, x1, x2, x3, x4⟩ := row_cells X20.out.rx
  obtain ⟨y0, y1, y2, y3, y4⟩ := row_cells Z20.out
  go_wp2_with fail
  refine (eqOutR ⟨r1, r2, r3, r4, r5, r6⟩ ⟨p1, p2, p3, p4, p5, p6⟩ N rsA fl tk sea code _ G20.out.lies X20.out.l0 hN).mono ?_
  rintro e w21 ⟨rfl, hb⟩
  have X21 := Lib.hid (X20.out.below hb)
  have M21 := Lib.hid (M20.out.same (fun k _ hk => hb.block k hk))
  have Y21 : Hid (World.rowIs _ Y 27 5 _) := Y20.out.of_block (hb.block _ Y20.out.lt)
  clear x0 x1 x2 x3 x4 y0 y1 y2 y3 y4 Z20 G20
  clear hb X20 Y20 M20
  obtain ⟨y0, y1, y2, y3, y4⟩ := row_cells Y21.out
  go_wp2_with fail
  refine (heldOutR ⟨q1, q2, q3, q4, q5, q6⟩ B N sea code _ M21.out hN).mono ?_
  rintro e w22 ⟨rfl, hb⟩
  rw [HQ.out]
  have X22 := Lib.hid (X21.out.below hb)
  clear hb X21 Y21 M21 y0 y1 y2 y3 y4
  go_wp2_with fail
  go_ret
  exact ⟨rfl, X22.out.old⟩
theorem stepL_all (w : World) (a : Option Addr) (n cn : Nat) (rs : Nat → Sw.Rc) (h : RcsIn a n rs w) (hn : n ≤ 9223372036854775807) (b : Option Addr) (m cm : Nat) (f : Nat → Int) (h2 : IntsIn b m f w) (_hm : m ≤ 9223372036854775807) (hg : Et w) :
    Calls Tryd.prog 3 #[.slice a n cn, .slice b m cm] w fun e w' => e = .returned (.bool true) ∧ Below w.heap.size w w' := by
  by_cases h1 : m ≤ 1048576
  · by_cases h3 : n ≤ 1048576
    · exact stepL_law a b n cn m cm rs f w h h2 h3 h1 hg
    · exact stepL_over a b n cn m cm w h1 (by omega) hn
  · exact stepL_long a b n cn m cm w (by omega)
end Go.Proofs.YtokbhkcpkilcmaaDoor
