/-
  What is told of a cycle, and LogicCycle: the program's.
-/
import Derived.Test.YtogfjomfhenhfaaGreatDoorCyI6
namespace Go.Proofs.YtogfjomfhenhfaaGreatDoor
open Go.RowKit Go.Deep

set_option maxRecDepth 100000 in
set_option maxHeartbeats 4000000 in
theorem tellC_ok (x : Cy.Ans) (a : Option Addr) (k : Nat) (b : Option Addr) (l : Nat) (c : Option Addr) (q B : Nat) (w : World) (h : CoO 2 B x.s.n k x.s.m l x.n q a b c x.s.T x.s.C x.O w) :
    Calls Tryz.prog 45 #[coV x a k b l c q, .nilIface] w fun e w' => e = .returned (coV x a k b l c q) ∧ CoO 2 B x.s.n k x.s.m l x.n q a b c x.s.T x.s.C x.O w' ∧ Below w.heap.size w w' := by
  have HL := Lib.hid h
  clear h
  go_enter Tryz.func45, Tryz.ntmps45
  go_wp2_with fail
  have hb : Below w.heap.size w ((w.alloc (.cells #[.slice a x.s.n k, .slice b x.s.m l, .bool x.s.fl, .slice c x.n q, .int .i64 x.cd] 38)).alloc (.cells #[.slice a x.s.n k, .slice b x.s.m l, .bool x.s.fl, .slice c x.n q, .int .i64 x.cd] 38)) := (nbel_alloc _ _).alloc (by simp) _
  exact bodyPost_ret (v := coV x a k b l c q) (by simp [results, Tryz.results45, go_sem]) rfl ⟨rfl, HL.out.below hb, hb⟩
set_option maxRecDepth 100000 in
set_option maxHeartbeats 4000000 in
theorem tellC_bad (t : ByteArray) (c : Int) (w : World) (hg : Et w) :
    Calls Tryz.prog 45 #[coV (Cy.no 0) none 0 none 0 none 0, errV t c] w fun e w' => e = .returned (coV (Cy.no c) none 0 none 0 none 0) ∧ Below w.heap.size w w' := by
  obtain ⟨W, hW⟩ : ∃ W, W = (w.alloc (.cells (coA (Cy.no 0) none 0 none 0 none 0) 38)).alloc (.cells #[.slice none 0 0, .slice none 0 0, .bool false, .slice none 0 0, .int .i64 0] 38) := ⟨_, rfl⟩
  have HB : Hid (Below w.heap.size w W) := by show Below _ _ _; rw [hW]; exact (nbel_alloc _ _).alloc (by simp) _
  have HO : Hid (W.rowIs (w.heap.size + 1) 38 5 (rowN [.slice none 0 0, .slice none 0 0, .bool false, .slice none 0 0, .int .i64 0])) := by show World.rowIs _ _ _ _ _; rw [hW]; exact rowN_alloc' (by simp) [.slice none 0 0, .slice none 0 0, .bool false, .slice none 0 0, .int .i64 0] _
  have HET := Lib.hid (hg.below HB.out)
  have HW := Lib.hid hW
  clear hW hg
  go_enter Tryz.func45, Tryz.ntmps45
  go_wp2_with fail
  rw [← HW.out]
  refine (codeOf_any _ c (finds_one t c) _ HET.out).mono ?_
  rintro e w1 ⟨rfl, hb⟩
  have HO1 := Lib.hid (nrow_below HO.out hb)
  have HB1 : Hid (Below w.heap.size w w1) := HB.out.trans (hb.mono HB.out.size)
  clear hb HO HB HW
  obtain ⟨⟨o0, o1, o2, o3, o4⟩, z0, z1, z2, z3, z4⟩ := rowN5 HO1.out
  have hol := HO1.out.lt
  go_wp2_with fail
  have zr := Lib.hid (cyput5 HO1.out rfl (.slice none 0 0) (.slice none 0 0) (.bool false) (.slice none 0 0) (.int .i64 c))
  have zb := Lib.hid (cybel5 (g := w.heap.size + 1) HB1.out (by omega) (.slice none 0 0) (.slice none 0 0) (.bool false) (.slice none 0 0) (.int .i64 c))
  refine bodyPost_ret (v := coV (Cy.no c) none 0 none 0 none 0) (by
    obtain ⟨⟨y0, y1, y2, y3, y4⟩, _⟩ := rowN5 zr.out
    simp only [results, Tryz.results45]
    simp [go_sem, y0, y1, y2, y3, y4, Cy.no, Cy.z0]) rfl ⟨rfl, zb.out⟩
theorem Cy.ans_code0 {p : Pg.Prog} {s : Cy.Lg} {n : Nat} {I : Nat → Int} (h : Cy.code p s n I ≠ 0) : Cy.ans p s n I = Cy.no (Cy.code p s n I) := by unfold Cy.ans; rw [if_neg h]
set_option maxRecDepth 100000 in
set_option maxHeartbeats 8000000 in
theorem implCycle_any (p : Pg.Prog) (la : Option Addr) (lk : Nat) (fa : Option Addr) (fk : Nat) (wa : Option Addr) (wk : Nat) (s : Cy.Lg) (sa : Option Addr) (sk : Nat) (sb : Option Addr) (sl : Nat) (ia : Option Addr) (iN iK : Nat) (I : Nat → Int) (w : World) (h : PgAt p la fa wa w) (hs : PgSmall p) (h2 : LgAt s sa sb w) (hs2 : LgSmall s) (h3 : IsAt ia iN I w) (hi : iN ≤ 1048576) (hk : iN ≤ iK) (hg : Et w) :
    Calls Tryz.prog 10 #[pgV p la lk fa fk wa wk, lgV s sa sk sb sl, .slice ia iN iK] w fun e w' => CoEnd w.heap.size 2 (Cy.ans p s iN I) e w' ∧ Below w.heap.size w w' := by
  obtain ⟨W, hW⟩ : ∃ W, W = ((w.alloc (.cells #[.slice la p.bn lk, .slice fa p.on fk, .slice wa p.nn wk] 27)).alloc (.cells (lgA s sa sk sb sl) 33)).alloc (.cells #[.slice none 0 0, .slice none 0 0, .bool false, .slice none 0 0, .int .i64 0] 38) := ⟨_, rfl⟩
  have S0 : Hid (CyW p la lk fa fk wa wk w.heap.size (w.heap.size + 1) s sa sk sb sl w W) := by
    show CyW _ _ _ _ _ _ _ _ _ _ _ _ _ _ _ _
    rw [hW]
    exact ⟨nrow_below (nrow_below (rowN_alloc w _ _) (nbel_alloc _ _)) (nbel_alloc _ _), nrow_below (rowN_alloc' (by simp) (lgL s sa sk sb sl) _) (nbel_alloc _ _), ((nbel_alloc _ _).alloc (by simp) _).alloc (by simp; omega) _⟩
  have Q0 : Hid (W.rowIs (w.heap.size + 1 + 1) 38 5 (rowN [.slice none 0 0, .slice none 0 0, .bool false, .slice none 0 0, .int .i64 0])) := by show World.rowIs _ _ _ _ _; rw [hW]; exact rowN_alloc' (by simp) [.slice none 0 0, .slice none 0 0, .bool false, .slice none 0 0, .int .i64 0] _
  have HA := Lib.hid (cycleOf_any p la lk fa fk wa wk s sa sk sb sl ia iN iK I W (h.below S0.out.old) hs (h2.below S0.out.old) hs2 (h3.below S0.out.old) hi hk)
  have HG := Lib.hid (hg.below S0.out.old)
  have HW := Lib.hid hW
  clear h hs hW h2 hs2 h3 hk hg
  obtain ⟨⟨x0, x1, x2⟩, _⟩ := rowN3 S0.out.bp
  obtain ⟨⟨y0, y1, y2⟩, _⟩ := rowN3 S0.out.bs
  rw [HW.out] at x0 x1 x2 y0 y1 y2
  go_enter Tryz.func10, Tryz.ntmps10
  go_wp2_with fail
  rw [← HW.out]
  clear HW x0 x1 x2 y0 y1 y2
  refine HA.out.mono ?_
  rintro e w1 ⟨he, hb⟩
  have Q1 := Lib.hid (nrow_below Q0.out hb)
  have G1 := Lib.hid (HG.out.below hb)
  have B1 : Hid (Below w.heap.size w w1) := S0.out.old.trans (hb.mono S0.out.old.size)
  have LS : Hid (w.heap.size ≤ W.heap.size ∧ w.heap.size + 1 + 1 < W.heap.size) := ⟨S0.out.old.size, Q0.out.lt⟩
  clear hb HA HG S0 Q0
  rcases he with ⟨hc, a, k, b, l, c, q, rfl, hO⟩ | ⟨hc, t, rfl⟩
  · as_aux_lemma =>
    obtain ⟨x, hx⟩ : ∃ x, x = Cy.ans p s iN I := ⟨_, rfl⟩
    have HX := Lib.hid hx
    rw [← hx] at hO ⊢
    clear hx hc
    have HO := Lib.hid hO
    clear hO
    go_wp2_with fail
    refine (tellC_ok x a k b l c q W.heap.size w1 HO.out).mono ?_
    rintro e w2 ⟨rfl, hO, hb⟩
    have O2 := Lib.hid (hO.low LS.out.1)
    have Q2 := Lib.hid (nrow_below Q1.out hb)
    have B2 : Hid (Below w.heap.size w w2) := B1.out.trans (hb.mono B1.out.size)
    clear hb hO
    obtain ⟨⟨o0, o1, o2, o3, o4⟩, z0, z1, z2, z3, z4⟩ := rowN5 Q2.out
    have hol := Q2.out.lt
    have zr := Lib.hid (cyput5 Q2.out rfl (.slice a x.s.n k) (.slice b x.s.m l) (.bool x.s.fl) (.slice c x.n q) (.int .i64 x.cd))
    have zb := Lib.hid (cybel5 (g := w.heap.size + 1 + 1) B2.out (by omega) (.slice a x.s.n k) (.slice b x.s.m l) (.bool x.s.fl) (.slice c x.n q) (.int .i64 x.cd))
    have kb := Lib.hid (fun (j : Nat) (hj : j ≠ w.heap.size + 1 + 1) => cyblk5 (W := w2) hj (.slice a x.s.n k) (.slice b x.s.m l) (.bool x.s.fl) (.slice c x.n q) (.int .i64 x.cd))
    have zl : Hid (CoO 2 w.heap.size x.s.n k x.s.m l x.n q a b c x.s.T x.s.C x.O ((((((w2).setCell ⟨w.heap.size + 1 + 1, 0, none⟩ (.slice a x.s.n k)).setCell ⟨w.heap.size + 1 + 1, 1, none⟩ (.slice b x.s.m l)).setCell ⟨w.heap.size + 1 + 1, 2, none⟩ (.bool x.s.fl)).setCell ⟨w.heap.size + 1 + 1, 3, none⟩ (.slice c x.n q)).setCell ⟨w.heap.size + 1 + 1, 4, none⟩ (.int .i64 x.cd))) := O2.out.keep (fun j e _ _ => kb.out j (by
      rintro rfl
      rcases e with e | e | e
      · exact O2.out.s.t.ne Q2.out (by decide) e
      · exact O2.out.s.c.ne Q2.out (by decide) e
      · exact O2.out.o.ne Q2.out (by decide) e))
    clear kb
    go_wp2_with fail
    refine bodyPost_ret (v := coV x a k b l c q) (by
      obtain ⟨⟨y0, y1, y2, y3, y4⟩, _⟩ := rowN5 zr.out
      simp only [results, Tryz.results10]
      simp [go_sem, y0, y1, y2, y3, y4]) rfl ⟨by rw [← HX.out]; exact ⟨a, k, b, l, c, q, rfl, zl.out⟩, zb.out⟩
  · as_aux_lemma =>
    have HE := Lib.hid (Cy.ans_code0 hc)
    obtain ⟨cd, hx⟩ : ∃ cd, cd = Cy.code p s iN I := ⟨_, rfl⟩
    rw [← hx] at HE ⊢
    clear hx hc
    go_wp2_with fail
    refine (tellC_bad t cd w1 G1.out).mono ?_
    rintro e w2 ⟨rfl, hb⟩
    have Q2 := Lib.hid (nrow_below Q1.out hb)
    have B2 : Hid (Below w.heap.size w w2) := B1.out.trans (hb.mono B1.out.size)
    clear hb
    obtain ⟨⟨o0, o1, o2, o3, o4⟩, z0, z1, z2, z3, z4⟩ := rowN5 Q2.out
    have hol := Q2.out.lt
    have zr := Lib.hid (cyput5 Q2.out rfl (.slice none 0 0) (.slice none 0 0) (.bool false) (.slice none 0 0) (.int .i64 cd))
    have zb := Lib.hid (cybel5 (g := w.heap.size + 1 + 1) B2.out (by omega) (.slice none 0 0) (.slice none 0 0) (.bool false) (.slice none 0 0) (.int .i64 cd))
    go_wp2_with fail
    refine bodyPost_ret (v := coV (Cy.no cd) none 0 none 0 none 0) (by
      obtain ⟨⟨y0, y1, y2, y3, y4⟩, _⟩ := rowN5 zr.out
      simp only [results, Tryz.results10]
      simp [go_sem, y0, y1, y2, y3, y4, Cy.no, Cy.z0]) rfl ⟨by rw [HE.out]; exact CoEnd.no cd, zb.out⟩
end Go.Proofs.YtogfjomfhenhfaaGreatDoor
