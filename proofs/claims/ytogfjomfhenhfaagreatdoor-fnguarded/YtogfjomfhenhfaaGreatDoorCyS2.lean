/-
  A cycle of a program: the model's.
-/
import Derived.Test.YtogfjomfhenhfaaGreatDoorGdA
import Derived.Deep.DeepCutAuto
import Derived.Laws.AppendOwn
namespace Go.Proofs.YtogfjomfhenhfaaGreatDoor
open Go.RowKit Go.Deep

/-- While the outs grow: the answer in the making. -/
structure CyV (p : Pg.Prog) (la : Option Addr) (lk : Nat) (fa : Option Addr) (fk : Nat) (wa : Option Addr) (wk : Nat) (s : Cy.Lg) (sa : Option Addr) (sk : Nat) (sb : Option Addr) (sl : Nat) (n nb tg cg ob m : Nat) (v : Value) (fl : Bool) (l : List Int) (T C : Nat → Int) (w W : World) : Prop where
  cl : CyL p la lk fa fk wa wk s sa sk sb sl n nb tg cg T C fl w W
  bo : W.rowIs ob 38 5 (rowN [.slice (some ⟨tg, 0, none⟩) n n, .slice (some ⟨cg, 0, none⟩) n n, .bool fl, v, .int .i64 0])
  own : W.ownsRow ob 2 1 v m (ivs l)
  o : tg < ob ∧ cg < ob ∧ w.heap.size + 1 + 1 < ob ∧ nb < ob
  hi : ob < W.heap.size
section
variable {p : Pg.Prog} {la : Option Addr} {lk : Nat} {fa : Option Addr} {fk : Nat} {wa : Option Addr} {wk : Nat} {s : Cy.Lg} {sa : Option Addr} {sk : Nat} {sb : Option Addr} {sl : Nat} {n nb tg cg ob m : Nat} {v : Value} {fl : Bool} {l : List Int} {T C : Nat → Int} {w W W' : World}
theorem CyV.below (h : CyV p la lk fa fk wa wk s sa sk sb sl n nb tg cg ob m v fl l T C w W) (hb : Below W.heap.size W W') : CyV p la lk fa fk wa wk s sa sk sb sl n nb tg cg ob m v fl l T C w W' :=
  ⟨h.cl.below hb, nrow_below h.bo hb, h.own.kept (row := none) ⟨hb.os, hb.tape, hb.output, hb.size, fun k hk _ => hb.block k hk⟩ (by cases v.ownBlock <;> simp), h.o, Nat.lt_of_lt_of_le h.hi hb.size⟩
/-- All but the list, behind an append. -/
structure CyU (p : Pg.Prog) (la : Option Addr) (lk : Nat) (fa : Option Addr) (fk : Nat) (wa : Option Addr) (wk : Nat) (s : Cy.Lg) (sa : Option Addr) (sk : Nat) (sb : Option Addr) (sl : Nat) (n nb tg cg ob : Nat) (v : Value) (fl : Bool) (T C : Nat → Int) (w W : World) : Prop where
  cl : CyL p la lk fa fk wa wk s sa sk sb sl n nb tg cg T C fl w W
  bo : W.rowIs ob 38 5 (rowN [.slice (some ⟨tg, 0, none⟩) n n, .slice (some ⟨cg, 0, none⟩) n n, .bool fl, v, .int .i64 0])
  o : tg < ob ∧ cg < ob ∧ w.heap.size + 1 + 1 < ob ∧ nb < ob
  hi : ob < W.heap.size
theorem CyV.push {o : Obj} (h : CyV p la lk fa fk wa wk s sa sk sb sl n nb tg cg ob m v fl l T C w W) (hg : (W.alloc o).grownBy W' v.ownBlock) : CyU p la lk fa fk wa wk s sa sk sb sl n nb tg cg ob v fl T C w W' := by
  have h1 := h.below (nbel_alloc W o)
  have hlo : ∀ k, v.ownBlock = some k → ob ≤ k := fun k e => (h.own.lt k e).1
  have hne : v.ownBlock ≠ some ob := by
    intro e
    rcases h.own.2 with ⟨rfl, _⟩ | ⟨g', cap, cur, rfl, _, e3, _⟩
    · cases e
    · cases e
      obtain ⟨c, q, _⟩ := h.bo
      rw [e3] at q
      simp at q
  have kp : ∀ k, k < ob → k < (W.alloc o).heap.size → W'.heap[k]? = (W.alloc o).heap[k]? := fun k hk hs => hg.block k hs (fun e => by have := hlo k e.symm; omega)
  obtain ⟨o1, o2, o3, o4⟩ := h.o
  obtain ⟨p1, p2, p3, p4⟩ := h.cl.o
  have hs1 := h1.hi
  have keepr : ∀ {j k : Nat} {S : TypeId} {F : Nat → Value}, j < ob → (W.alloc o).rowIs j S k F → W'.rowIs j S k F := fun {j k S F} hj hr => hr.of_block (kp j hj hr.lt)
  exact ⟨⟨⟨keepr (by omega) h1.cl.a.bp, keepr (by omega) h1.cl.a.bs, h1.cl.a.old.trans ⟨hg.os, hg.tape, hg.output, hg.size, fun k hk => kp k (by omega) (by omega)⟩⟩, keepr (by omega) h1.cl.rs, keepr (by omega) h1.cl.bx, h1.cl.t.block (kp _ o1 h1.cl.t.lt), h1.cl.c.block (kp _ o2 h1.cl.c.lt), h1.cl.o⟩, h1.bo.of_block (hg.block _ hs1 (fun e => hne e.symm)), h.o, Nat.lt_of_lt_of_le hs1 hg.size⟩
theorem CyU.put (h : CyU p la lk fa fk wa wk s sa sk sb sl n nb tg cg ob v fl T C w W) {v2 : Value} (ho : W.ownsRow ob 2 1 v2 m (ivs l)) : CyV p la lk fa fk wa wk s sa sk sb sl n nb tg cg ob m v2 fl l T C w (W.setCell ⟨ob, 3, none⟩ v2) := by
  obtain ⟨o1, o2, o3, o4⟩ := h.o
  have keepr : ∀ {j k : Nat} {S : TypeId} {F : Nat → Value}, j < ob → W.rowIs j S k F → (W.setCell ⟨ob, 3, none⟩ v2).rowIs j S k F := fun {j k S F} hj hr => nrow_set hr (p := ⟨ob, 3, none⟩) (by show j ≠ ob; omega) _
  have hlt : ∀ k, v2.ownBlock = some k → k ≠ ob := by
    intro k e hk
    subst hk
    rcases ho.2 with ⟨rfl, _⟩ | ⟨g', cap, cur, rfl, _, e3, _⟩
    · cases e
    · cases e
      obtain ⟨c, q, _⟩ := h.bo
      rw [e3] at q
      simp at q
  have hg : W.grownBy (W.setCell ⟨ob, 3, none⟩ v2) (some ob) := ⟨rfl, rfl, rfl, by simp, fun k _ hk => Below.heap_setCell _ _ _ _ (by show k ≠ ob; exact fun e => hk (by rw [e]))⟩
  exact ⟨⟨⟨keepr (by omega) h.cl.a.bp, keepr (by omega) h.cl.a.bs, h.cl.a.old.setCell (p := ⟨ob, 3, none⟩) (by show _ ≤ ob; omega) _⟩, keepr (by omega) h.cl.rs, keepr (by omega) h.cl.bx, h.cl.t.block (cyhs _ _ _ (by omega) _ _), h.cl.c.block (cyhs _ _ _ (by omega) _ _), h.cl.o⟩, rowN_put h.bo 3 v2 (by simp), ho.kept hg (by cases e : v2.ownBlock with | none => exact Or.inl rfl | some k => exact Or.inr (fun q => hlt k e (by cases q; rfl))), h.o, by simpa using h.hi⟩
end
theorem cydrewN {B : Nat} {w W : World} (h : Below B w W) (n : Nat) : Below B w (W.drewN n) := ⟨h.os, h.tape, h.output, h.size, h.block⟩
theorem cywrap {x : Int} (h1 : -9223372036854775808 ≤ x) (h2 : x ≤ 9223372036854775807) : IntKind.i64.wrap x = x := by simp [IntKind.wrap, IntKind.bits, IntKind.signed]; omega
theorem insTo_step {B : Nat → Pg.Bk} {i : Nat} (h : (B i).kind ≠ 1) : Pg.insTo B (i + 1) = Pg.insTo B i := Pg.insTo_no h
set_option maxRecDepth 100000 in
set_option maxHeartbeats 16000000 in
theorem specCycle_any (p : Pg.Prog) (la : Option Addr) (lk : Nat) (fa : Option Addr) (fk : Nat) (wa : Option Addr) (wk : Nat) (s : Cy.Lg) (sa : Option Addr) (sk : Nat) (sb : Option Addr) (sl : Nat) (ia : Option Addr) (iN iK : Nat) (I : Nat → Int) (w : World) (h : PgAt p la fa wa w) (hs : PgSmall p) (h2 : LgAt s sa sb w) (hs2 : LgSmall s) (h3 : IsAt ia iN I w) (hi : iN ≤ 1048576) :
    Calls Tryz.prog 42 #[pgV p la lk fa fk wa wk, lgV s sa sk sb sl, .slice ia iN iK] w fun e w' => CoEnd w.heap.size 2 (Cy.ans p s iN I) e w' ∧ Below w.heap.size w w' := by
  obtain ⟨W, hW⟩ : ∃ W, W = ((w.alloc (.cells #[.slice la p.bn lk, .slice fa p.on fk, .slice wa p.nn wk] 27)).alloc (.cells (lgA s sa sk sb sl) 33)).alloc (.cells #[.slice none 0 0, .slice none 0 0, .bool false, .slice none 0 0, .int .i64 0] 38) := ⟨_, rfl⟩
  have S0 : Hid (CyW p la lk fa fk wa wk w.heap.size (w.heap.size + 1) s sa sk sb sl w W) := by
    show CyW _ _ _ _ _ _ _ _ _ _ _ _ _ _ _ _
    rw [hW]
    exact ⟨nrow_below (nrow_below (rowN_alloc w _ _) (nbel_alloc _ _)) (nbel_alloc _ _), nrow_below (rowN_alloc' (by simp) (lgL s sa sk sb sl) _) (nbel_alloc _ _), ((nbel_alloc _ _).alloc (by simp) _).alloc (by simp; omega) _⟩
  have Q0 : Hid (W.rowIs (w.heap.size + 1 + 1) 38 5 (rowN [.slice none 0 0, .slice none 0 0, .bool false, .slice none 0 0, .int .i64 0])) := by show World.rowIs _ _ _ _ _; rw [hW]; exact rowN_alloc' (by simp) [.slice none 0 0, .slice none 0 0, .bool false, .slice none 0 0, .int .i64 0] _
  have H := Lib.hid h
  have HS := Lib.hid hs
  have H2 := Lib.hid h2
  have HS2 := Lib.hid hs2
  have H3 := Lib.hid h3
  have hb1 : p.bn ≤ 1048576 := hs.1.1
  have HW := Lib.hid hW
  clear h hs hW h2 hs2 h3
  obtain ⟨⟨x0, x1, x2⟩, _⟩ := rowN3 S0.out.bp
  obtain ⟨⟨y0, y1, y2⟩, _⟩ := rowN3 S0.out.bs
  rw [HW.out] at x0 x1 x2 y0 y1 y2
  by_cases big : 400 < iN
  · have bigz : (400 : Int) < (iN : Int) := by omega
    have HE := Lib.hid (Cy.ans_big (p := p) (s := s) (I := I) big)
    have BP := Lib.hid (nbel_alloc ((w.alloc (.cells #[.slice la p.bn lk, .slice fa p.on fk, .slice wa p.nn wk] 27)).alloc (.cells (lgA s sa sk sb sl) 33)) (.cells #[.slice none 0 0, .slice none 0 0, .bool false, .slice none 0 0, .int .i64 2] 38))
    clear big
    go_enter Tryz.func42, Tryz.ntmps42
    go_wp2_with fail
    refine bodyPost_ret (v := coV (Cy.no 2) none 0 none 0 none 0) (by
      simp only [results, Tryz.results42]
      simp [go_sem, Cy.no, Cy.z0]) rfl ⟨by rw [HE.out]; exact CoEnd.no 2, ((nbel_alloc _ _).alloc (by simp) _).alloc (by simp; omega) _⟩
  have HBG := Lib.hid big
  have bigz : ¬ (400 : Int) < (iN : Int) := by omega
  clear big
  go_enter Tryz.func42, Tryz.ntmps42
  go_wp2_with fail
  rw [← HW.out]
  clear HW x0 x1 x2 y0 y1 y2
  refine (specOf_cy p la lk fa fk wa wk s sa sk sb sl _ (H.out.below S0.out.old) HS.out (H2.out.below S0.out.old) HS2.out).mono ?_
  rintro e w1 ⟨rfl, hb⟩
  have S1 := Lib.hid (S0.out.below hb)
  have Q1 := Lib.hid (nrow_below Q0.out hb)
  clear hb S0 Q0
  by_cases k : Cy.Of p s
  · rw [dB_tt k]
    have HO := Lib.hid k
    clear k
    obtain ⟨⟨x0, x1, x2⟩, _⟩ := rowN3 S1.out.bp
    go_wp2_with fail
    clear x0 x1 x2
    refine (specIns_any p la lk fa fk wa wk _ (H.out.below S1.out.old) HS.out).mono ?_
    rintro e w2 ⟨rfl, hb⟩
    have S2 := Lib.hid (S1.out.below hb)
    have Q2 := Lib.hid (nrow_below Q1.out hb)
    clear hb S1 Q1
    by_cases k : (iN : Int) = Pg.ins p
    · have d1 : ((iN : Int) != Pg.ins p) = false := by rw [k]; simp
      have HI := Lib.hid k
      clear k
      go_wp2_with fail
      refine (call_any ia iN iK I 1 _ (H3.out.below S2.out.old) hi).mono ?_
      rintro e w3 ⟨rfl, hw⟩
      rw [hw]
      clear hw w3 d1
      by_cases k : ∀ i, i < iN → 0 ≤ I i ∧ I i ≤ 1
      · rw [dB_tt k]
        have HF : Hid (Cy.Fit p s iN I) := ⟨HO.out, HI.out, k⟩
        have HE := Lib.hid (Cy.ans_ok HBG.out HF.out)
        clear k
        obtain ⟨⟨x0, x1, x2⟩, _⟩ := rowN3 S2.out.bp
        obtain ⟨⟨y0, y1, y2⟩, _⟩ := rowN3 S2.out.bs
        have hmk := mk_i64 p.bn hb1
        have l0 := S2.out.bp.lt
        have l1 := S2.out.bs.lt
        go_wp2_with fail
        go_cut [8] (fun q Wq => ∃ nb tg cg, q = .pointer (some ⟨nb, 0, none⟩) ∧ Hid (CyL p la lk fa fk wa wk s sa sk sb sl p.bn nb tg cg (fun _ => 0) (fun _ => 0) s.fl w Wq))
        case first =>
          go_region
          · go_wp2_with fail
            go_meet
            case rel => exact ⟨w2.heap.size + 1 + 1, w2.heap.size, w2.heap.size + 1, rfl, cyl_make S2.out Q2.out (three_heap _ _ _ _).1 (three_heap _ _ _ _).2.2.2 (three_heap _ _ _ _).2.1 (three_heap _ _ _ _).2.2.1 ⟨by omega, by omega, by omega, by omega⟩⟩
          · go_wp2_with fail
            go_meet
            case rel => exact ⟨w2.heap.size + 1, w2.heap.size, w2.heap.size + 1 + 1, rfl, cyl_make S2.out Q2.out (three_heap _ _ _ _).1 (three_heap _ _ _ _).2.2.1 (three_heap _ _ _ _).2.1 (three_heap _ _ _ _).2.2.2 ⟨by omega, by omega, by omega, by omega⟩⟩
          · go_wp2_with fail
            go_meet
            case rel => exact ⟨w2.heap.size + 1 + 1, w2.heap.size + 1, w2.heap.size, rfl, cyl_make S2.out Q2.out (three_heap _ _ _ _).1 (three_heap _ _ _ _).2.2.2 (three_heap _ _ _ _).2.2.1 (three_heap _ _ _ _).2.1 ⟨by omega, by omega, by omega, by omega⟩⟩
          · go_wp2_with fail
            go_meet
            case rel => exact ⟨w2.heap.size + 1, w2.heap.size + 1 + 1, w2.heap.size, rfl, cyl_make S2.out Q2.out (three_heap _ _ _ _).1 (three_heap _ _ _ _).2.2.1 (three_heap _ _ _ _).2.2.2 (three_heap _ _ _ _).2.1 ⟨by omega, by omega, by omega, by omega⟩⟩
          · go_wp2_with fail
            go_meet
            case rel => exact ⟨w2.heap.size, w2.heap.size + 1, w2.heap.size + 1 + 1, rfl, cyl_make S2.out Q2.out (three_heap _ _ _ _).1 (three_heap _ _ _ _).2.1 (three_heap _ _ _ _).2.2.1 (three_heap _ _ _ _).2.2.2 ⟨by omega, by omega, by omega, by omega⟩⟩
          · go_wp2_with fail
            go_meet
            case rel => exact ⟨w2.heap.size, w2.heap.size + 1 + 1, w2.heap.size + 1, rfl, cyl_make S2.out Q2.out (three_heap _ _ _ _).1 (three_heap _ _ _ _).2.1 (three_heap _ _ _ _).2.2.2 (three_heap _ _ _ _).2.2.1 ⟨by omega, by omega, by omega, by omega⟩⟩
        case rest =>
          obtain ⟨nb, tg, cg, rfl, hL0⟩ := hcut
          obtain ⟨W3, hW3⟩ : ∃ Z, Z = wc := ⟨_, rfl⟩
          rw [← hW3] at hL0 ⊢
          have L3 := Lib.hid hL0.out
          clear hW3 hL0 x0 x1 x2 y0 y1 y2 hmk l0 l1 S2 Q2
          have hin := Cy.Fit.ins HF.out
          have HIN := Lib.hid hin
          clear hin
          go_wp2_with fail
          go_loopw [9, 10] (fun uv iv wr => ∃ (i : Nat), i ≤ p.bn ∧ uv = .int .i64 (Pg.insTo p.B i : Nat) ∧ iv = .int .i64 i ∧ Hid (CyL p la lk fa fk wa wk s sa sk sb sl p.bn nb tg cg (Cy.run p s I i).T (Cy.run p s I i).C s.fl w wr)) (fun _ iv _ => p.bn - (intOf iv).toNat)
          case atStart => exact ⟨0, Nat.zero_le _, rfl, rfl, L3⟩
          case round =>
            obtain ⟨i, hi2, rfl, rfl, hL⟩ := hrel
            clear L3
            by_cases hlt : i < p.bn
            · have hltz : (i : Int) < (p.bn : Int) := by omega
              obtain ⟨⟨x0, x1, x2⟩, _⟩ := rowN3 hL.out.a.bp
              obtain ⟨b, eb, c0, c1, c2, c3⟩ := (H.out.l.below hL.out.a.old).at_ hlt
              subst eb
              have hpt := (HO.out.r.b i hlt).2.2
              have hil : Pg.insTo p.B i ≤ i := Pg.insTo_le _ _
              have hkk := hpt.kind
              have hkc : (p.B i).kind = 1 ∨ (p.B i).kind = 2 ∨ (p.B i).kind = 3 ∨ (p.B i).kind = 4 ∨ (p.B i).kind = 5 ∨ (p.B i).kind = 6 ∨ (p.B i).kind = 7 := by omega
              have hbits := (Cy.run_bits HO.out HF.out.bits hi2)
              have HBT := Lib.hid hbits.1
              have HBC := Lib.hid hbits.2
              have HPT := Lib.hid hpt
              clear hkk hpt hbits
              have ln := hL.out.bx.lt
              have lt0 := hL.out.t.lt
              have lc0 := hL.out.c.lt
              have l1 := hL.out.a.bs.lt
              have fz := hL.out.t.frozen i
              have ti := hL.out.t.cell (i := i) hlt
              have hnn : (p.B i).kind = 1 ∨ (p.B i).kind ≠ 1 := by omega
              rcases hkc with hk | hk | hk | hk | hk | hk | hk
              · as_aux_lemma =>
                  have HV : Hid (Cy.vl (p.B i) i s.T s.C (Cy.run p s I i).T (I (Pg.insTo p.B i)) = I (Pg.insTo p.B i)) := Cy.vl_1 hk
                  have HC : Hid ((Cy.run p s I (i + 1)).C = (Cy.run p s I i).C) := Cy.run_C0 (Cy.ct_no (by omega))
                  have hk1 : (p.B i).kind = 1 := by omega
                  have HK1 := Lib.hid hk1
                  clear hk1 hnn
                  have q1 : ((p.B i).kind == 1) = true := by rw [hk]; rfl
                  have hu : Pg.insTo p.B i < iN := by rw [HIN.out]; exact Cy.insTo_lt hlt hk
                  have huz : ((Pg.insTo p.B i : Nat) : Int) < (iN : Int) := by omega
                  obtain ⟨ib, eib, ci⟩ := (H3.out.below hL.out.a.old).at1 hu
                  subst eib
                  have lib := World.block_lt_of_cell? _ _ ci
                  obtain ⟨⟨n0, n1, n2⟩, _⟩ := rowN3 hL.out.bx
                  clear hk
                  go_wp2_with fail
                  go_roundw
                  case rel => exact ⟨i + 1, by omega, by rw [Pg.insTo_yes HK1.out]; go_num, by go_num, by show CyL _ _ _ _ _ _ _ _ _ _ _ _ _ _ _ _ _ _ _ _ _; rw [Cy.run_T1, HV.out, HC.out]; exact (hL.out.putT i _).below (nbel_alloc _ _)⟩
                  case measure => simp [intOf]; omega
              · as_aux_lemma =>
                  have HV : Hid (Cy.vl (p.B i) i s.T s.C (Cy.run p s I i).T (I (Pg.insTo p.B i)) = min ((Cy.run p s I i).T (p.B i).a.toNat) ((Cy.run p s I i).T (p.B i).b.toNat)) := Cy.vl_2 hk
                  have HC : Hid ((Cy.run p s I (i + 1)).C = (Cy.run p s I i).C) := Cy.run_C0 (Cy.ct_no (by omega))
                  have hk1 : (p.B i).kind ≠ 1 := by omega
                  have HK1 := Lib.hid hk1
                  clear hk1 hnn
                  have q1 : ((p.B i).kind == 1) = false := by rw [hk]; rfl
                  have q2 : ((p.B i).kind == 2) = true := by rw [hk]; rfl
                  obtain ⟨a, ha, haz⟩ : ∃ a : Nat, a < i ∧ (p.B i).a = (a : Int) := ⟨_, (Cy.look_a HPT.out (by omega)).1, (Cy.look_a HPT.out (by omega)).2.symm⟩
                  have ta := hL.out.t.cell (i := a) (by omega)
                  have az : (p.B i).a.toNat = a := by omega
                  have al : (a : Int) < (p.bn : Int) := by omega
                  rw [haz] at c2
                  obtain ⟨d, hd, hdz⟩ : ∃ a : Nat, a < i ∧ (p.B i).b = (a : Int) := ⟨_, (Cy.look_b HPT.out (by omega)).1, (Cy.look_b HPT.out (by omega)).2.symm⟩
                  have td := hL.out.t.cell (i := d) (by omega)
                  have dz : (p.B i).b.toNat = d := by omega
                  have dl : (d : Int) < (p.bn : Int) := by omega
                  rw [hdz] at c3
                  rw [az, dz] at HV
                  clear hk ta td fz ti
                  go_wp2_with fail
                  obtain ⟨W1, hW1⟩ : ∃ W1, W1 = wr.alloc (.cells #[.int .i64 (p.B i).kind, .string (p.B i).name, .int .i64 a, .int .i64 d] 84) := ⟨_, rfl⟩
                  have R1 : Hid (W1.rowIs wr.heap.size 84 4 (rowN [.int .i64 (p.B i).kind, .string (p.B i).name, .int .i64 a, .int .i64 d])) := by show World.rowIs _ _ _ _ _; rw [hW1]; exact rowN_alloc wr _ _
                  have L1 := Lib.hid (hL.out.below (nbel_alloc wr (.cells #[.int .i64 (p.B i).kind, .string (p.B i).name, .int .i64 a, .int .i64 d] 84)))
                  rw [← hW1] at L1 ⊢
                  clear hW1 hL
                  refine wp_region_held_drew (S := fun V => Below W1.heap.size W1 V) (by kernel_rfl) (Below.refl _ _).drew (fun hHeld => ?_)
                  obtain ⟨Z, hZ⟩ : ∃ Z, Z = W1.drew := ⟨_, rfl⟩
                  rw [← hZ] at hHeld ⊢
                  clear hZ
                  refine take_do (i := 0) (v := (.pointer (some ⟨nb, 0, none⟩))) rfl (by kernel_rfl) (by kernel_rfl) (by kernel_rfl) (fun _ _ _ h => h) (by rfl) ?_ (by assumption) ?_
                  · intro w hSw
                    go_simp
                  simp only [Act.put, List.setIfInBounds_toArray, List.set_cons_zero, List.set_cons_succ]
                  refine take_do (i := 1) (v := (.slice (some ⟨tg, 0, none⟩) p.bn p.bn)) rfl (by kernel_rfl) (by kernel_rfl) (by kernel_rfl) (fun _ _ _ h => h) (by rfl) ?_ (by assumption) ?_
                  · intro w hSw
                    obtain ⟨⟨n0, n1, n2⟩, _⟩ := rowN3 (nrow_below L1.out.bx hSw)
                    go_simp
                  simp only [Act.put, List.setIfInBounds_toArray, List.set_cons_zero, List.set_cons_succ]
                  refine take_do (i := 2) (v := (.pointer (some ⟨wr.heap.size, 2, none⟩))) rfl (by kernel_rfl) (by kernel_rfl) (by kernel_rfl) (fun _ _ _ h => h) (by rfl) ?_ (by assumption) ?_
                  · intro w hSw
                    go_simp
                  simp only [Act.put, List.setIfInBounds_toArray, List.set_cons_zero, List.set_cons_succ]
                  refine take_do (i := 3) (v := (.int .i64 a)) rfl (by kernel_rfl) (by kernel_rfl) (by kernel_rfl) (fun _ _ _ h => h) (by rfl) ?_ (by assumption) ?_
                  · intro w hSw
                    obtain ⟨⟨a0, a1, a2, a3⟩, _⟩ := rowN4 (nrow_below R1.out hSw)
                    go_simp
                  simp only [Act.put, List.setIfInBounds_toArray, List.set_cons_zero, List.set_cons_succ]
                  refine take_do (i := 4) (v := (.pointer (some ⟨tg, a, none⟩))) rfl (by kernel_rfl) (by kernel_rfl) (by kernel_rfl) (fun _ _ _ h => h) (by rfl) ?_ (by assumption) ?_
                  · intro w hSw
                    go_simp
                  simp only [Act.put, List.setIfInBounds_toArray, List.set_cons_zero, List.set_cons_succ]
                  refine take_do (i := 5) (v := (.int .i64 ((Cy.run p s I i).T a))) rfl (by kernel_rfl) (by kernel_rfl) (by kernel_rfl) (fun _ _ _ h => h) (by rfl) ?_ (by assumption) ?_
                  · intro w hSw
                    have tt := (L1.out.t.below hSw).cell (i := a) (by omega)
                    go_simp
                  simp only [Act.put, List.setIfInBounds_toArray, List.set_cons_zero, List.set_cons_succ]
                  refine take_do (i := 6) (v := (.pointer (some ⟨nb, 0, none⟩))) rfl (by kernel_rfl) (by kernel_rfl) (by kernel_rfl) (fun _ _ _ h => h) (by rfl) ?_ (by assumption) ?_
                  · intro w hSw
                    go_simp
                  simp only [Act.put, List.setIfInBounds_toArray, List.set_cons_zero, List.set_cons_succ]
                  refine take_do (i := 7) (v := (.slice (some ⟨tg, 0, none⟩) p.bn p.bn)) rfl (by kernel_rfl) (by kernel_rfl) (by kernel_rfl) (fun _ _ _ h => h) (by rfl) ?_ (by assumption) ?_
                  · intro w hSw
                    obtain ⟨⟨n0, n1, n2⟩, _⟩ := rowN3 (nrow_below L1.out.bx hSw)
                    go_simp
                  simp only [Act.put, List.setIfInBounds_toArray, List.set_cons_zero, List.set_cons_succ]
                  refine take_do (i := 8) (v := (.pointer (some ⟨wr.heap.size, 3, none⟩))) rfl (by kernel_rfl) (by kernel_rfl) (by kernel_rfl) (fun _ _ _ h => h) (by rfl) ?_ (by assumption) ?_
                  · intro w hSw
                    go_simp
                  simp only [Act.put, List.setIfInBounds_toArray, List.set_cons_zero, List.set_cons_succ]
                  refine take_do (i := 9) (v := (.int .i64 d)) rfl (by kernel_rfl) (by kernel_rfl) (by kernel_rfl) (fun _ _ _ h => h) (by rfl) ?_ (by assumption) ?_
                  · intro w hSw
                    obtain ⟨⟨a0, a1, a2, a3⟩, _⟩ := rowN4 (nrow_below R1.out hSw)
                    go_simp
                  simp only [Act.put, List.setIfInBounds_toArray, List.set_cons_zero, List.set_cons_succ]
                  refine take_do (i := 10) (v := (.pointer (some ⟨tg, d, none⟩))) rfl (by kernel_rfl) (by kernel_rfl) (by kernel_rfl) (fun _ _ _ h => h) (by rfl) ?_ (by assumption) ?_
                  · intro w hSw
                    go_simp
                  simp only [Act.put, List.setIfInBounds_toArray, List.set_cons_zero, List.set_cons_succ]
                  refine take_do (i := 11) (v := (.int .i64 ((Cy.run p s I i).T d))) rfl (by kernel_rfl) (by kernel_rfl) (by kernel_rfl) (fun _ _ _ h => h) (by rfl) ?_ (by assumption) ?_
                  · intro w hSw
                    have tt := (L1.out.t.below hSw).cell (i := d) (by omega)
                    go_simp
                  simp only [Act.put, List.setIfInBounds_toArray, List.set_cons_zero, List.set_cons_succ]
                  refine take_call (i := 12) rfl (by kernel_rfl) (fun K2 hK => ?_)
                  go_simp
                  refine (cmin_any ((Cy.run p s I i).T a) ((Cy.run p s I i).T d) _).mono ?_
                  rintro e w5 ⟨rfl, hw⟩
                  rw [hw]
                  clear hw w5
                  go_wp2_with fail
                  refine hK.out _ _ hHeld (fun hHeld2 => ?_)
                  clear hK hHeld
                  have hHeld := hHeld2
                  clear hHeld2
                  refine take_do (i := 13) (v := (.int .i64 (min ((Cy.run p s I i).T a) ((Cy.run p s I i).T d)))) rfl (by kernel_rfl) (by kernel_rfl) (by kernel_rfl) (fun _ _ _ h => h) (by rfl) ?_ (by assumption) ?_
                  · intro w hSw
                    go_simp
                  simp only [Act.put, List.setIfInBounds_toArray, List.set_cons_zero, List.set_cons_succ]
                  refine wpAnyH_done (by kernel_rfl) ?_ _
                  have LZ := Lib.hid (L1.out.below hHeld)
                  obtain ⟨⟨n0, n1, n2⟩, _⟩ := rowN3 LZ.out.bx
                  have fz := LZ.out.t.frozen i
                  have ti := LZ.out.t.cell (i := i) hlt
                  have hlz := LZ.out.t.lt
                  clear hHeld L1
                  go_wp2_with fail
                  go_roundw
                  case rel => exact ⟨i + 1, by omega, by rw [Pg.insTo_no HK1.out], by go_num, by show CyL _ _ _ _ _ _ _ _ _ _ _ _ _ _ _ _ _ _ _ _ _; rw [Cy.run_T1, HV.out, HC.out]; exact LZ.out.putT i _⟩
                  case measure => simp [intOf]; omega
              · as_aux_lemma =>
                  have HV : Hid (Cy.vl (p.B i) i s.T s.C (Cy.run p s I i).T (I (Pg.insTo p.B i)) = max ((Cy.run p s I i).T (p.B i).a.toNat) ((Cy.run p s I i).T (p.B i).b.toNat)) := Cy.vl_3 hk
                  have HC : Hid ((Cy.run p s I (i + 1)).C = (Cy.run p s I i).C) := Cy.run_C0 (Cy.ct_no (by omega))
                  have hk1 : (p.B i).kind ≠ 1 := by omega
                  have HK1 := Lib.hid hk1
                  clear hk1 hnn
                  have q1 : ((p.B i).kind == 1) = false := by rw [hk]; rfl
                  have q2 : ((p.B i).kind == 2) = false := by rw [hk]; rfl
                  have q3 : ((p.B i).kind == 3) = true := by rw [hk]; rfl
                  obtain ⟨a, ha, haz⟩ : ∃ a : Nat, a < i ∧ (p.B i).a = (a : Int) := ⟨_, (Cy.look_a HPT.out (by omega)).1, (Cy.look_a HPT.out (by omega)).2.symm⟩
                  have ta := hL.out.t.cell (i := a) (by omega)
                  have az : (p.B i).a.toNat = a := by omega
                  have al : (a : Int) < (p.bn : Int) := by omega
                  rw [haz] at c2
                  obtain ⟨d, hd, hdz⟩ : ∃ a : Nat, a < i ∧ (p.B i).b = (a : Int) := ⟨_, (Cy.look_b HPT.out (by omega)).1, (Cy.look_b HPT.out (by omega)).2.symm⟩
                  have td := hL.out.t.cell (i := d) (by omega)
                  have dz : (p.B i).b.toNat = d := by omega
                  have dl : (d : Int) < (p.bn : Int) := by omega
                  rw [hdz] at c3
                  rw [az, dz] at HV
                  clear hk ta td fz ti
                  go_wp2_with fail
                  obtain ⟨W1, hW1⟩ : ∃ W1, W1 = wr.alloc (.cells #[.int .i64 (p.B i).kind, .string (p.B i).name, .int .i64 a, .int .i64 d] 84) := ⟨_, rfl⟩
                  have R1 : Hid (W1.rowIs wr.heap.size 84 4 (rowN [.int .i64 (p.B i).kind, .string (p.B i).name, .int .i64 a, .int .i64 d])) := by show World.rowIs _ _ _ _ _; rw [hW1]; exact rowN_alloc wr _ _
                  have L1 := Lib.hid (hL.out.below (nbel_alloc wr (.cells #[.int .i64 (p.B i).kind, .string (p.B i).name, .int .i64 a, .int .i64 d] 84)))
                  rw [← hW1] at L1 ⊢
                  clear hW1 hL
                  refine wp_region_held_drew (S := fun V => Below W1.heap.size W1 V) (by kernel_rfl) (Below.refl _ _).drew (fun hHeld => ?_)
                  obtain ⟨Z, hZ⟩ : ∃ Z, Z = W1.drew := ⟨_, rfl⟩
                  rw [← hZ] at hHeld ⊢
                  clear hZ
                  refine take_do (i := 0) (v := (.pointer (some ⟨nb, 0, none⟩))) rfl (by kernel_rfl) (by kernel_rfl) (by kernel_rfl) (fun _ _ _ h => h) (by rfl) ?_ (by assumption) ?_
                  · intro w hSw
                    go_simp
                  simp only [Act.put, List.setIfInBounds_toArray, List.set_cons_zero, List.set_cons_succ]
                  refine take_do (i := 1) (v := (.slice (some ⟨tg, 0, none⟩) p.bn p.bn)) rfl (by kernel_rfl) (by kernel_rfl) (by kernel_rfl) (fun _ _ _ h => h) (by rfl) ?_ (by assumption) ?_
                  · intro w hSw
                    obtain ⟨⟨n0, n1, n2⟩, _⟩ := rowN3 (nrow_below L1.out.bx hSw)
                    go_simp
                  simp only [Act.put, List.setIfInBounds_toArray, List.set_cons_zero, List.set_cons_succ]
                  refine take_do (i := 2) (v := (.pointer (some ⟨wr.heap.size, 2, none⟩))) rfl (by kernel_rfl) (by kernel_rfl) (by kernel_rfl) (fun _ _ _ h => h) (by rfl) ?_ (by assumption) ?_
                  · intro w hSw
                    go_simp
                  simp only [Act.put, List.setIfInBounds_toArray, List.set_cons_zero, List.set_cons_succ]
                  refine take_do (i := 3) (v := (.int .i64 a)) rfl (by kernel_rfl) (by kernel_rfl) (by kernel_rfl) (fun _ _ _ h => h) (by rfl) ?_ (by assumption) ?_
                  · intro w hSw
                    obtain ⟨⟨a0, a1, a2, a3⟩, _⟩ := rowN4 (nrow_below R1.out hSw)
                    go_simp
                  simp only [Act.put, List.setIfInBounds_toArray, List.set_cons_zero, List.set_cons_succ]
                  refine take_do (i := 4) (v := (.pointer (some ⟨tg, a, none⟩))) rfl (by kernel_rfl) (by kernel_rfl) (by kernel_rfl) (fun _ _ _ h => h) (by rfl) ?_ (by assumption) ?_
                  · intro w hSw
                    go_simp
                  simp only [Act.put, List.setIfInBounds_toArray, List.set_cons_zero, List.set_cons_succ]
                  refine take_do (i := 5) (v := (.int .i64 ((Cy.run p s I i).T a))) rfl (by kernel_rfl) (by kernel_rfl) (by kernel_rfl) (fun _ _ _ h => h) (by rfl) ?_ (by assumption) ?_
                  · intro w hSw
                    have tt := (L1.out.t.below hSw).cell (i := a) (by omega)
                    go_simp
                  simp only [Act.put, List.setIfInBounds_toArray, List.set_cons_zero, List.set_cons_succ]
                  refine take_do (i := 6) (v := (.pointer (some ⟨nb, 0, none⟩))) rfl (by kernel_rfl) (by kernel_rfl) (by kernel_rfl) (fun _ _ _ h => h) (by rfl) ?_ (by assumption) ?_
                  · intro w hSw
                    go_simp
                  simp only [Act.put, List.setIfInBounds_toArray, List.set_cons_zero, List.set_cons_succ]
                  refine take_do (i := 7) (v := (.slice (some ⟨tg, 0, none⟩) p.bn p.bn)) rfl (by kernel_rfl) (by kernel_rfl) (by kernel_rfl) (fun _ _ _ h => h) (by rfl) ?_ (by assumption) ?_
                  · intro w hSw
                    obtain ⟨⟨n0, n1, n2⟩, _⟩ := rowN3 (nrow_below L1.out.bx hSw)
                    go_simp
                  simp only [Act.put, List.setIfInBounds_toArray, List.set_cons_zero, List.set_cons_succ]
                  refine take_do (i := 8) (v := (.pointer (some ⟨wr.heap.size, 3, none⟩))) rfl (by kernel_rfl) (by kernel_rfl) (by kernel_rfl) (fun _ _ _ h => h) (by rfl) ?_ (by assumption) ?_
                  · intro w hSw
                    go_simp
                  simp only [Act.put, List.setIfInBounds_toArray, List.set_cons_zero, List.set_cons_succ]
                  refine take_do (i := 9) (v := (.int .i64 d)) rfl (by kernel_rfl) (by kernel_rfl) (by kernel_rfl) (fun _ _ _ h => h) (by rfl) ?_ (by assumption) ?_
                  · intro w hSw
                    obtain ⟨⟨a0, a1, a2, a3⟩, _⟩ := rowN4 (nrow_below R1.out hSw)
                    go_simp
                  simp only [Act.put, List.setIfInBounds_toArray, List.set_cons_zero, List.set_cons_succ]
                  refine take_do (i := 10) (v := (.pointer (some ⟨tg, d, none⟩))) rfl (by kernel_rfl) (by kernel_rfl) (by kernel_rfl) (fun _ _ _ h => h) (by rfl) ?_ (by assumption) ?_
                  · intro w hSw
                    go_simp
                  simp only [Act.put, List.setIfInBounds_toArray, List.set_cons_zero, List.set_cons_succ]
                  refine take_do (i := 11) (v := (.int .i64 ((Cy.run p s I i).T d))) rfl (by kernel_rfl) (by kernel_rfl) (by kernel_rfl) (fun _ _ _ h => h) (by rfl) ?_ (by assumption) ?_
                  · intro w hSw
                    have tt := (L1.out.t.below hSw).cell (i := d) (by omega)
                    go_simp
                  simp only [Act.put, List.setIfInBounds_toArray, List.set_cons_zero, List.set_cons_succ]
                  refine take_call (i := 12) rfl (by kernel_rfl) (fun K2 hK => ?_)
                  go_simp
                  refine (cmax_any ((Cy.run p s I i).T a) ((Cy.run p s I i).T d) _).mono ?_
                  rintro e w5 ⟨rfl, hw⟩
                  rw [hw]
                  clear hw w5
                  go_wp2_with fail
                  refine hK.out _ _ hHeld (fun hHeld2 => ?_)
                  clear hK hHeld
                  have hHeld := hHeld2
                  clear hHeld2
                  refine take_do (i := 13) (v := (.int .i64 (max ((Cy.run p s I i).T a) ((Cy.run p s I i).T d)))) rfl (by kernel_rfl) (by kernel_rfl) (by kernel_rfl) (fun _ _ _ h => h) (by rfl) ?_ (by assumption) ?_
                  · intro w hSw
                    go_simp
                  simp only [Act.put, List.setIfInBounds_toArray, List.set_cons_zero, List.set_cons_succ]
                  refine wpAnyH_done (by kernel_rfl) ?_ _
                  have LZ := Lib.hid (L1.out.below hHeld)
                  obtain ⟨⟨n0, n1, n2⟩, _⟩ := rowN3 LZ.out.bx
                  have fz := LZ.out.t.frozen i
                  have ti := LZ.out.t.cell (i := i) hlt
                  have hlz := LZ.out.t.lt
                  clear hHeld L1
                  go_wp2_with fail
                  go_roundw
                  case rel => exact ⟨i + 1, by omega, by rw [Pg.insTo_no HK1.out], by go_num, by show CyL _ _ _ _ _ _ _ _ _ _ _ _ _ _ _ _ _ _ _ _ _; rw [Cy.run_T1, HV.out, HC.out]; exact LZ.out.putT i _⟩
                  case measure => simp [intOf]; omega
              · as_aux_lemma =>
                  have HV : Hid (Cy.vl (p.B i) i s.T s.C (Cy.run p s I i).T (I (Pg.insTo p.B i)) = 1 - (Cy.run p s I i).T (p.B i).a.toNat) := Cy.vl_4 hk
                  have HC : Hid ((Cy.run p s I (i + 1)).C = (Cy.run p s I i).C) := Cy.run_C0 (Cy.ct_no (by omega))
                  have hk1 : (p.B i).kind ≠ 1 := by omega
                  have HK1 := Lib.hid hk1
                  clear hk1 hnn
                  have q1 : ((p.B i).kind == 1) = false := by rw [hk]; rfl
                  have q2 : ((p.B i).kind == 2) = false := by rw [hk]; rfl
                  have q3 : ((p.B i).kind == 3) = false := by rw [hk]; rfl
                  have q4 : ((p.B i).kind == 4) = true := by rw [hk]; rfl
                  obtain ⟨a, ha, haz⟩ : ∃ a : Nat, a < i ∧ (p.B i).a = (a : Int) := ⟨_, (Cy.look_a HPT.out (by omega)).1, (Cy.look_a HPT.out (by omega)).2.symm⟩
                  have ta := hL.out.t.cell (i := a) (by omega)
                  have az : (p.B i).a.toNat = a := by omega
                  have al : (a : Int) < (p.bn : Int) := by omega
                  rw [haz] at c2
                  rw [az] at HV
                  have hta := HBT.out a (by omega)
                  obtain ⟨⟨n0, n1, n2⟩, _⟩ := rowN3 hL.out.bx
                  clear hk
                  go_wp2_with fail
                  go_roundw
                  case rel => exact ⟨i + 1, by omega, by rw [Pg.insTo_no HK1.out], by go_num, by show CyL _ _ _ _ _ _ _ _ _ _ _ _ _ _ _ _ _ _ _ _ _; rw [Cy.run_T1, HV.out, HC.out]; exact (hL.out.putT i _).below (nbel_alloc _ _)⟩
                  case measure => simp [intOf]; omega
              · as_aux_lemma =>
                  have HV : Hid (Cy.vl (p.B i) i s.T s.C (Cy.run p s I i).T (I (Pg.insTo p.B i)) = s.T (p.B i).a.toNat) := Cy.vl_5 hk
                  have HC : Hid ((Cy.run p s I (i + 1)).C = (Cy.run p s I i).C) := Cy.run_C0 (Cy.ct_no (by omega))
                  have hk1 : (p.B i).kind ≠ 1 := by omega
                  have HK1 := Lib.hid hk1
                  clear hk1 hnn
                  have q1 : ((p.B i).kind == 1) = false := by rw [hk]; rfl
                  have q2 : ((p.B i).kind == 2) = false := by rw [hk]; rfl
                  have q3 : ((p.B i).kind == 3) = false := by rw [hk]; rfl
                  have q4 : ((p.B i).kind == 4) = false := by rw [hk]; rfl
                  have q5 : ((p.B i).kind == 5) = true := by rw [hk]; rfl
                  have hpp := Cy.look_p HPT.out hk
                  obtain ⟨a, ha, haz⟩ : ∃ a : Nat, a < p.bn ∧ (p.B i).a = (a : Int) := ⟨_, hpp.1, hpp.2.symm⟩
                  clear hpp
                  have az : (p.B i).a.toNat = a := by omega
                  have has : a < s.n := by rw [HO.out.n]; exact ha
                  have hasz : (a : Int) < (s.n : Int) := by omega
                  rw [haz] at c2
                  rw [az] at HV
                  obtain ⟨sg, esg, cs⟩ := (H2.out.t.below hL.out.a.old).at1 has
                  subst esg
                  have lsg := World.block_lt_of_cell? _ _ cs
                  obtain ⟨⟨n0, n1, n2⟩, _⟩ := rowN3 hL.out.bx
                  obtain ⟨⟨y0, y1, y2⟩, _⟩ := rowN3 hL.out.a.bs
                  clear hk
                  go_wp2_with fail
                  go_roundw
                  case rel => exact ⟨i + 1, by omega, by rw [Pg.insTo_no HK1.out], by go_num, by show CyL _ _ _ _ _ _ _ _ _ _ _ _ _ _ _ _ _ _ _ _ _; rw [Cy.run_T1, HV.out, HC.out]; exact (hL.out.putT i _).below (nbel_alloc _ _)⟩
                  case measure => simp [intOf]; omega
              · as_aux_lemma =>
                  have HV : Hid (Cy.vl (p.B i) i s.T s.C (Cy.run p s I i).T (I (Pg.insTo p.B i)) = min (1 - (Cy.run p s I i).T (p.B i).b.toNat) (max ((Cy.run p s I i).T (p.B i).a.toNat) (s.T i))) := Cy.vl_6 hk
                  have HC : Hid ((Cy.run p s I (i + 1)).C = (Cy.run p s I i).C) := Cy.run_C0 (Cy.ct_no (by omega))
                  have hk1 : (p.B i).kind ≠ 1 := by omega
                  have HK1 := Lib.hid hk1
                  clear hk1 hnn
                  have q1 : ((p.B i).kind == 1) = false := by rw [hk]; rfl
                  have q2 : ((p.B i).kind == 2) = false := by rw [hk]; rfl
                  have q3 : ((p.B i).kind == 3) = false := by rw [hk]; rfl
                  have q4 : ((p.B i).kind == 4) = false := by rw [hk]; rfl
                  have q5 : ((p.B i).kind == 5) = false := by rw [hk]; rfl
                  have q6 : ((p.B i).kind == 6) = true := by rw [hk]; rfl
                  obtain ⟨a, ha, haz⟩ : ∃ a : Nat, a < i ∧ (p.B i).a = (a : Int) := ⟨_, (Cy.look_a HPT.out (by omega)).1, (Cy.look_a HPT.out (by omega)).2.symm⟩
                  have ta := hL.out.t.cell (i := a) (by omega)
                  have az : (p.B i).a.toNat = a := by omega
                  have al : (a : Int) < (p.bn : Int) := by omega
                  rw [haz] at c2
                  obtain ⟨d, hd, hdz⟩ : ∃ a : Nat, a < i ∧ (p.B i).b = (a : Int) := ⟨_, (Cy.look_b HPT.out (by omega)).1, (Cy.look_b HPT.out (by omega)).2.symm⟩
                  have td := hL.out.t.cell (i := d) (by omega)
                  have dz : (p.B i).b.toNat = d := by omega
                  have dl : (d : Int) < (p.bn : Int) := by omega
                  rw [hdz] at c3
                  rw [az, dz] at HV
                  have hta := HBT.out a (by omega)
                  have htd := HBT.out d (by omega)
                  have his : i < s.n := by rw [HO.out.n]; exact hlt
                  have hisz : (i : Int) < (s.n : Int) := by omega
                  have hsb := HO.out.k.t i his
                  clear hk
                  by_cases hd : (Cy.run p s I i).T d = 0
                  · have hd' : ((Cy.run p s I i).T d == 0) = true := by rw [hd]; rfl
                    have hv2 : min (1 - (Cy.run p s I i).T d) (max ((Cy.run p s I i).T a) (s.T i)) = max ((Cy.run p s I i).T a) (s.T i) := by omega
                    rw [hv2] at HV
                    obtain ⟨⟨n0, n1, n2⟩, _⟩ := rowN3 hL.out.bx
                    clear hv2 hd hta htd hsb ta fz ti
                    go_wp2_with fail
                    clear n0 n1 n2 td
                    obtain ⟨W1, hW1⟩ : ∃ W1, W1 = wr.alloc (.cells #[.int .i64 (p.B i).kind, .string (p.B i).name, .int .i64 a, .int .i64 d] 84) := ⟨_, rfl⟩
                    have R1 : Hid (W1.rowIs wr.heap.size 84 4 (rowN [.int .i64 (p.B i).kind, .string (p.B i).name, .int .i64 a, .int .i64 d])) := by show World.rowIs _ _ _ _ _; rw [hW1]; exact rowN_alloc wr _ _
                    have L1 := Lib.hid (hL.out.below (nbel_alloc wr (.cells #[.int .i64 (p.B i).kind, .string (p.B i).name, .int .i64 a, .int .i64 d] 84)))
                    rw [← hW1] at L1 ⊢
                    clear hW1 hL
                    refine wp_region_held_drew (S := fun V => Below W1.heap.size W1 V) (by kernel_rfl) (Below.refl _ _).drew (fun hHeld => ?_)
                    obtain ⟨Z, hZ⟩ : ∃ Z, Z = W1.drew := ⟨_, rfl⟩
                    rw [← hZ] at hHeld ⊢
                    clear hZ
                    refine take_do (i := 0) (v := (.pointer (some ⟨nb, 0, none⟩))) rfl (by kernel_rfl) (by kernel_rfl) (by kernel_rfl) (fun _ _ _ h => h) (by rfl) ?_ (by assumption) ?_
                    · intro w hSw
                      go_simp
                    simp only [Act.put, List.setIfInBounds_toArray, List.set_cons_zero, List.set_cons_succ]
                    refine take_do (i := 1) (v := (.slice (some ⟨tg, 0, none⟩) p.bn p.bn)) rfl (by kernel_rfl) (by kernel_rfl) (by kernel_rfl) (fun _ _ _ h => h) (by rfl) ?_ (by assumption) ?_
                    · intro w hSw
                      obtain ⟨⟨n0, n1, n2⟩, _⟩ := rowN3 (nrow_below L1.out.bx hSw)
                      go_simp
                    simp only [Act.put, List.setIfInBounds_toArray, List.set_cons_zero, List.set_cons_succ]
                    refine take_do (i := 2) (v := (.pointer (some ⟨wr.heap.size, 2, none⟩))) rfl (by kernel_rfl) (by kernel_rfl) (by kernel_rfl) (fun _ _ _ h => h) (by rfl) ?_ (by assumption) ?_
                    · intro w hSw
                      go_simp
                    simp only [Act.put, List.setIfInBounds_toArray, List.set_cons_zero, List.set_cons_succ]
                    refine take_do (i := 3) (v := (.int .i64 a)) rfl (by kernel_rfl) (by kernel_rfl) (by kernel_rfl) (fun _ _ _ h => h) (by rfl) ?_ (by assumption) ?_
                    · intro w hSw
                      obtain ⟨⟨a0, a1, a2, a3⟩, _⟩ := rowN4 (nrow_below R1.out hSw)
                      go_simp
                    simp only [Act.put, List.setIfInBounds_toArray, List.set_cons_zero, List.set_cons_succ]
                    refine take_do (i := 4) (v := (.pointer (some ⟨tg, a, none⟩))) rfl (by kernel_rfl) (by kernel_rfl) (by kernel_rfl) (fun _ _ _ h => h) (by rfl) ?_ (by assumption) ?_
                    · intro w hSw
                      go_simp
                    simp only [Act.put, List.setIfInBounds_toArray, List.set_cons_zero, List.set_cons_succ]
                    refine take_do (i := 5) (v := (.int .i64 ((Cy.run p s I i).T a))) rfl (by kernel_rfl) (by kernel_rfl) (by kernel_rfl) (fun _ _ _ h => h) (by rfl) ?_ (by assumption) ?_
                    · intro w hSw
                      have tt := (L1.out.t.below hSw).cell (i := a) (by omega)
                      go_simp
                    simp only [Act.put, List.setIfInBounds_toArray, List.set_cons_zero, List.set_cons_succ]
                    refine take_do (i := 6) (v := (.pointer (some ⟨w.heap.size + 1, 0, none⟩))) rfl (by kernel_rfl) (by kernel_rfl) (by kernel_rfl) (fun _ _ _ h => h) (by rfl) ?_ (by assumption) ?_
                    · intro w hSw
                      go_simp
                    simp only [Act.put, List.setIfInBounds_toArray, List.set_cons_zero, List.set_cons_succ]
                    refine take_do (i := 7) (v := (.slice sa s.n sk)) rfl (by kernel_rfl) (by kernel_rfl) (by kernel_rfl) (fun _ _ _ h => h) (by rfl) ?_ (by assumption) ?_
                    · intro w hSw
                      obtain ⟨⟨n0, n1, n2⟩, _⟩ := rowN3 (nrow_below L1.out.a.bs hSw)
                      go_simp
                    simp only [Act.put, List.setIfInBounds_toArray, List.set_cons_zero, List.set_cons_succ]
                    obtain ⟨sg, esg, _⟩ := (H2.out.t.below (L1.out.a.old)).at1 his
                    subst esg
                    refine take_do (i := 8) (v := (.int .i64 i)) rfl (by kernel_rfl) (by kernel_rfl) (by kernel_rfl) (fun _ _ _ h => h) (by rfl) ?_ (by assumption) ?_
                    · intro w hSw
                      go_simp
                    simp only [Act.put, List.setIfInBounds_toArray, List.set_cons_zero, List.set_cons_succ]
                    refine take_do (i := 9) (v := (.pointer (some ⟨sg, i, none⟩))) rfl (by kernel_rfl) (by kernel_rfl) (by kernel_rfl) (fun _ _ _ h => h) (by rfl) ?_ (by assumption) ?_
                    · intro w hSw
                      go_simp
                    simp only [Act.put, List.setIfInBounds_toArray, List.set_cons_zero, List.set_cons_succ]
                    refine take_do (i := 10) (v := (.int .i64 (s.T i))) rfl (by kernel_rfl) (by kernel_rfl) (by kernel_rfl) (fun _ _ _ h => h) (by rfl) ?_ (by assumption) ?_
                    · intro w hSw
                      obtain ⟨sg', esg, cs⟩ := (H2.out.t.below (L1.out.a.old.trans (hSw.mono L1.out.a.old.size))).at1 his
                      cases esg
                      go_simp
                    simp only [Act.put, List.setIfInBounds_toArray, List.set_cons_zero, List.set_cons_succ]
                    refine take_call (i := 11) rfl (by kernel_rfl) (fun K2 hK => ?_)
                    go_simp
                    refine (cmax_any ((Cy.run p s I i).T a) (s.T i) _).mono ?_
                    rintro e w5 ⟨rfl, hw⟩
                    rw [hw]
                    clear hw w5
                    go_wp2_with fail
                    refine hK.out _ _ hHeld (fun hHeld2 => ?_)
                    clear hK hHeld
                    have hHeld := hHeld2
                    clear hHeld2
                    refine take_do (i := 12) (v := (.int .i64 (max ((Cy.run p s I i).T a) (s.T i)))) rfl (by kernel_rfl) (by kernel_rfl) (by kernel_rfl) (fun _ _ _ h => h) (by rfl) ?_ (by assumption) ?_
                    · intro w hSw
                      go_simp
                    simp only [Act.put, List.setIfInBounds_toArray, List.set_cons_zero, List.set_cons_succ]
                    refine wpAnyH_done (by kernel_rfl) ?_ _
                    have LZ := Lib.hid (L1.out.below hHeld)
                    obtain ⟨⟨n0, n1, n2⟩, _⟩ := rowN3 LZ.out.bx
                    have fz := LZ.out.t.frozen i
                    have ti := LZ.out.t.cell (i := i) hlt
                    have hlz := LZ.out.t.lt
                    clear hHeld L1
                    go_wp2_with fail
                    go_roundw
                    case rel => exact ⟨i + 1, by omega, by rw [Pg.insTo_no HK1.out], by go_num, by show CyL _ _ _ _ _ _ _ _ _ _ _ _ _ _ _ _ _ _ _ _ _; rw [Cy.run_T1, HV.out, HC.out]; exact LZ.out.putT i _⟩
                    case measure => simp [intOf]; omega
                  · have hd' : ((Cy.run p s I i).T d == 0) = false := by simp [hd]
                    have hv2 : min (1 - (Cy.run p s I i).T d) (max ((Cy.run p s I i).T a) (s.T i)) = 0 := by omega
                    rw [hv2] at HV
                    obtain ⟨⟨n0, n1, n2⟩, _⟩ := rowN3 hL.out.bx
                    clear hv2 hd hta htd hsb
                    go_wp2_with fail
                    go_roundw
                    case rel => exact ⟨i + 1, by omega, by rw [Pg.insTo_no HK1.out], by go_num, by show CyL _ _ _ _ _ _ _ _ _ _ _ _ _ _ _ _ _ _ _ _ _; rw [Cy.run_T1, HV.out, HC.out]; exact (hL.out.putT i _).below (nbel_alloc _ _)⟩
                    case measure => simp [intOf]; omega
              · as_aux_lemma =>
                  have HV : Hid (Cy.vl (p.B i) i s.T s.C (Cy.run p s I i).T (I (Pg.insTo p.B i)) = if (p.B i).b < Cy.ct (p.B i) i s.C (Cy.run p s I i).T then 1 else 0) := Cy.vl_7 hk
                  have hk1 : (p.B i).kind ≠ 1 := by omega
                  have HK1 := Lib.hid hk1
                  clear hk1 hnn
                  have q1 : ((p.B i).kind == 1) = false := by rw [hk]; rfl
                  have q2 : ((p.B i).kind == 2) = false := by rw [hk]; rfl
                  have q3 : ((p.B i).kind == 3) = false := by rw [hk]; rfl
                  have q4 : ((p.B i).kind == 4) = false := by rw [hk]; rfl
                  have q5 : ((p.B i).kind == 5) = false := by rw [hk]; rfl
                  have q6 : ((p.B i).kind == 6) = false := by rw [hk]; rfl
                  have q7 : ((p.B i).kind == 7) = true := by rw [hk]; rfl
                  obtain ⟨a, ha, haz⟩ : ∃ a : Nat, a < i ∧ (p.B i).a = (a : Int) := ⟨_, (Cy.look_a HPT.out (by omega)).1, (Cy.look_a HPT.out (by omega)).2.symm⟩
                  have ta := hL.out.t.cell (i := a) (by omega)
                  have az : (p.B i).a.toNat = a := by omega
                  have al : (a : Int) < (p.bn : Int) := by omega
                  rw [haz] at c2
                  have him : i < s.m := by rw [HO.out.k.m, HO.out.n]; exact hlt
                  have himz : (i : Int) < (s.m : Int) := by omega
                  have hcb := HO.out.k.c i him
                  have HC0 : Hid ((Cy.run p s I i).C i = 0) := Cy.run_C_ge p s I i i (Nat.le_refl _)
                  by_cases hd : (Cy.run p s I i).T a = 1
                  · have HCT : Hid (Cy.ct (p.B i) i s.C (Cy.run p s I i).T = min 101 (s.C i + 1)) := Cy.ct_7 hk (by rw [az]; exact hd)
                    have HC : Hid ((Cy.run p s I (i + 1)).C = updI (Cy.run p s I i).C i (min 101 (s.C i + 1))) := by show _ = _; rw [Cy.run_C1, HCT.out]
                    have hd' : ((Cy.run p s I i).T a == 1) = true := by rw [hd]; rfl
                    obtain ⟨⟨n0, n1, n2⟩, _⟩ := rowN3 hL.out.bx
                    clear hd hk fz ti
                    go_wp2_with fail
                    clear n0 n1 n2 ta
                    obtain ⟨W1, hW1⟩ : ∃ W1, W1 = wr.alloc (.cells #[.int .i64 (p.B i).kind, .string (p.B i).name, .int .i64 a, .int .i64 (p.B i).b] 84) := ⟨_, rfl⟩
                    have R1 : Hid (W1.rowIs wr.heap.size 84 4 (rowN [.int .i64 (p.B i).kind, .string (p.B i).name, .int .i64 a, .int .i64 (p.B i).b])) := by show World.rowIs _ _ _ _ _; rw [hW1]; exact rowN_alloc wr _ _
                    have L1 := Lib.hid (hL.out.below (nbel_alloc wr (.cells #[.int .i64 (p.B i).kind, .string (p.B i).name, .int .i64 a, .int .i64 (p.B i).b] 84)))
                    rw [← hW1] at L1 ⊢
                    clear hW1 hL
                    refine wp_region_held_drew (S := fun V => (∃ C', CyL p (some ⟨b, 0, none⟩) lk fa fk wa wk s sa sk sb sl p.bn nb tg cg (Cy.run p s I i).T C' s.fl w V) ∧ V.rowIs wr.heap.size 84 4 (rowN [.int .i64 (p.B i).kind, .string (p.B i).name, .int .i64 a, .int .i64 (p.B i).b])) (by kernel_rfl) ⟨⟨_, L1.out.below (Below.refl _ _).drew⟩, nrow_below R1.out (Below.refl _ _).drew⟩ (fun hHeld => ?_)
                    have LZ0 := Lib.hid (L1.out.below (Below.refl _ _).drew)
                    have RZ0 := Lib.hid (nrow_below R1.out (Below.refl _ W1).drew)
                    obtain ⟨Z, hZ⟩ : ∃ Z, Z = W1.drew := ⟨_, rfl⟩
                    rw [← hZ] at hHeld LZ0 RZ0 ⊢
                    clear hZ
                    obtain ⟨sg, esg, _⟩ := (H2.out.c.below (L1.out.a.old)).at1 him
                    subst esg
                    clear L1 R1
                    refine take_do (i := 0) (v := (.pointer (some ⟨nb, 1, none⟩))) rfl (by kernel_rfl) (by kernel_rfl) (by kernel_rfl) (fun _ _ _ h => h) (by rfl) ?_ (by assumption) ?_
                    · intro w hSw
                      go_simp
                    simp only [Act.put, List.setIfInBounds_toArray, List.set_cons_zero, List.set_cons_succ]
                    refine take_do (i := 1) (v := (.slice (some ⟨cg, 0, none⟩) p.bn p.bn)) rfl (by kernel_rfl) (by kernel_rfl) (by kernel_rfl) (fun _ _ _ h => h) (by rfl) ?_ (by assumption) ?_
                    · intro w hSw
                      obtain ⟨⟨C', hc⟩, _⟩ := hSw
                      obtain ⟨⟨n0, n1, n2⟩, _⟩ := rowN3 hc.bx
                      go_simp
                    simp only [Act.put, List.setIfInBounds_toArray, List.set_cons_zero, List.set_cons_succ]
                    refine take_do (i := 2) (v := (.int .i64 i)) rfl (by kernel_rfl) (by kernel_rfl) (by kernel_rfl) (fun _ _ _ h => h) (by rfl) ?_ (by assumption) ?_
                    · intro w hSw
                      go_simp
                    simp only [Act.put, List.setIfInBounds_toArray, List.set_cons_zero, List.set_cons_succ]
                    refine take_do (i := 3) (v := (.pointer (some ⟨w.heap.size + 1, 1, none⟩))) rfl (by kernel_rfl) (by kernel_rfl) (by kernel_rfl) (fun _ _ _ h => h) (by rfl) ?_ (by assumption) ?_
                    · intro w hSw
                      go_simp
                    simp only [Act.put, List.setIfInBounds_toArray, List.set_cons_zero, List.set_cons_succ]
                    refine take_do (i := 4) (v := (.slice (some ⟨sg, 0, none⟩) s.m sl)) rfl (by kernel_rfl) (by kernel_rfl) (by kernel_rfl) (fun _ _ _ h => h) (by rfl) ?_ (by assumption) ?_
                    · intro w hSw
                      obtain ⟨⟨C', hc⟩, _⟩ := hSw
                      obtain ⟨⟨n0, n1, n2⟩, _⟩ := rowN3 hc.a.bs
                      go_simp
                    simp only [Act.put, List.setIfInBounds_toArray, List.set_cons_zero, List.set_cons_succ]
                    refine take_do (i := 5) (v := (.int .i64 i)) rfl (by kernel_rfl) (by kernel_rfl) (by kernel_rfl) (fun _ _ _ h => h) (by rfl) ?_ (by assumption) ?_
                    · intro w hSw
                      go_simp
                    simp only [Act.put, List.setIfInBounds_toArray, List.set_cons_zero, List.set_cons_succ]
                    refine take_do (i := 6) (v := (.pointer (some ⟨sg, i, none⟩))) rfl (by kernel_rfl) (by kernel_rfl) (by kernel_rfl) (fun _ _ _ h => h) (by rfl) ?_ (by assumption) ?_
                    · intro w hSw
                      go_simp
                    simp only [Act.put, List.setIfInBounds_toArray, List.set_cons_zero, List.set_cons_succ]
                    refine take_do (i := 7) (v := (.int .i64 (s.C i))) rfl (by kernel_rfl) (by kernel_rfl) (by kernel_rfl) (fun _ _ _ h => h) (by rfl) ?_ (by assumption) ?_
                    · intro w hSw
                      obtain ⟨⟨C', hc⟩, _⟩ := hSw
                      obtain ⟨sg', esg, cs⟩ := (H2.out.c.below hc.a.old).at1 him
                      cases esg
                      go_simp
                    simp only [Act.put, List.setIfInBounds_toArray, List.set_cons_zero, List.set_cons_succ]
                    refine take_do (i := 8) (v := (.int .i64 (s.C i + 1))) rfl (by kernel_rfl) (by kernel_rfl) (by kernel_rfl) (fun _ _ _ h => h) (by rfl) ?_ (by assumption) ?_
                    · intro w hSw
                      have hcw : IntKind.i64.wrap (s.C i + 1) = s.C i + 1 := cywrap (by omega) (by omega)
                      go_simp
                    simp only [Act.put, List.setIfInBounds_toArray, List.set_cons_zero, List.set_cons_succ]
                    refine take_call (i := 9) rfl (by kernel_rfl) (fun K2 hK => ?_)
                    go_simp
                    refine (cmin_any 101 (s.C i + 1) _).mono ?_
                    rintro e w5 ⟨rfl, hw⟩
                    rw [hw]
                    clear hw w5
                    go_wp2_with fail
                    refine hK.out _ _ hHeld (fun hHeld2 => ?_)
                    clear hK hHeld
                    have hHeld := hHeld2
                    clear hHeld2
                    refine take_do (i := 10) (v := (.pointer (some ⟨cg, i, none⟩))) rfl (by kernel_rfl) (by kernel_rfl) (by kernel_rfl) (fun _ _ _ h => h) (by rfl) ?_ (by assumption) ?_
                    · intro w hSw
                      go_simp
                    simp only [Act.put, List.setIfInBounds_toArray, List.set_cons_zero, List.set_cons_succ]
                    refine take_call (i := 11) rfl (by kernel_rfl) (fun K2 hK => ?_)
                    have fc := LZ0.out.c.frozen i
                    have ci := LZ0.out.c.cell (i := i) hlt
                    have hlz := LZ0.out.c.lt
                    go_simp
                    have L2 := Lib.hid (LZ0.out.putC i (min 101 (s.C i + 1)))
                    have R2 := Lib.hid (nrow_set RZ0.out (p := ⟨cg, i, none⟩) (isblk_ne LZ0.out.c RZ0.out (by decide)) (.int .i64 (min 101 (s.C i + 1))))
                    obtain ⟨W2, hW2⟩ : ∃ W2, W2 = Z.setCell ⟨cg, i, none⟩ (.int .i64 (min 101 (s.C i + 1))) := ⟨_, rfl⟩
                    rw [← hW2] at L2 R2 ⊢
                    clear hW2 fc ci hlz
                    refine hK.out _ _ ⟨⟨_, L2.out⟩, R2.out⟩ (fun hHeld2 => ?_)
                    clear hK hHeld hHeld2 LZ0 RZ0
                    refine wpAnyH_done (by kernel_rfl) ?_ _
                    go_wp2_with fail
                    obtain ⟨cn, hcn⟩ : ∃ cn, cn = min 101 (s.C i + 1) := ⟨_, rfl⟩
                    rw [← hcn] at HCT
                    have HCN : Hid (updI (Cy.run p s I i).C i (min 101 (s.C i + 1)) i = cn) := by show updI _ _ _ _ = _; rw [hcn]; simp [updI]
                    clear hcn
                    by_cases hq : (p.B i).b < cn
                    · have HV2 : Hid (Cy.vl (p.B i) i s.T s.C (Cy.run p s I i).T (I (Pg.insTo p.B i)) = 1) := by show _ = _; rw [HV.out, HCT.out, if_pos hq]
                      clear HV
                      have HV := HV2
                      clear HV2
                      refine wp_region_held_drew (S := fun V => Below W2.heap.size W2 V) (by kernel_rfl) (Below.refl _ _).drew (fun hHeld => ?_)
                      obtain ⟨Z, hZ⟩ : ∃ Z, Z = W2.drew := ⟨_, rfl⟩
                      rw [← hZ] at hHeld ⊢
                      clear hZ
                      refine take_do (i := 0) (v := (.pointer (some ⟨nb, 1, none⟩))) rfl (by kernel_rfl) (by kernel_rfl) (by kernel_rfl) (fun _ _ _ h => h) (by rfl) ?_ (by assumption) ?_
                      · intro w hSw
                        go_simp
                      simp only [Act.put, List.setIfInBounds_toArray, List.set_cons_zero, List.set_cons_succ]
                      refine take_do (i := 1) (v := (.slice (some ⟨cg, 0, none⟩) p.bn p.bn)) rfl (by kernel_rfl) (by kernel_rfl) (by kernel_rfl) (fun _ _ _ h => h) (by rfl) ?_ (by assumption) ?_
                      · intro w hSw
                        obtain ⟨⟨n0, n1, n2⟩, _⟩ := rowN3 (nrow_below L2.out.bx hSw)
                        go_simp
                      simp only [Act.put, List.setIfInBounds_toArray, List.set_cons_zero, List.set_cons_succ]
                      refine take_do (i := 2) (v := (.int .i64 i)) rfl (by kernel_rfl) (by kernel_rfl) (by kernel_rfl) (fun _ _ _ h => h) (by rfl) ?_ (by assumption) ?_
                      · intro w hSw
                        go_simp
                      simp only [Act.put, List.setIfInBounds_toArray, List.set_cons_zero, List.set_cons_succ]
                      refine take_do (i := 3) (v := (.pointer (some ⟨cg, i, none⟩))) rfl (by kernel_rfl) (by kernel_rfl) (by kernel_rfl) (fun _ _ _ h => h) (by rfl) ?_ (by assumption) ?_
                      · intro w hSw
                        go_simp
                      simp only [Act.put, List.setIfInBounds_toArray, List.set_cons_zero, List.set_cons_succ]
                      refine take_do (i := 4) (v := (.int .i64 cn)) rfl (by kernel_rfl) (by kernel_rfl) (by kernel_rfl) (fun _ _ _ h => h) (by rfl) ?_ (by assumption) ?_
                      · intro w hSw
                        have tt := (L2.out.c.below hSw).cell (i := i) hlt
                        rw [HCN.out] at tt
                        go_simp
                      simp only [Act.put, List.setIfInBounds_toArray, List.set_cons_zero, List.set_cons_succ]
                      refine take_do (i := 5) (v := (.pointer (some ⟨wr.heap.size, 3, none⟩))) rfl (by kernel_rfl) (by kernel_rfl) (by kernel_rfl) (fun _ _ _ h => h) (by rfl) ?_ (by assumption) ?_
                      · intro w hSw
                        go_simp
                      simp only [Act.put, List.setIfInBounds_toArray, List.set_cons_zero, List.set_cons_succ]
                      refine take_do (i := 6) (v := (.int .i64 (p.B i).b)) rfl (by kernel_rfl) (by kernel_rfl) (by kernel_rfl) (fun _ _ _ h => h) (by rfl) ?_ (by assumption) ?_
                      · intro w hSw
                        obtain ⟨⟨a0, a1, a2, a3⟩, _⟩ := rowN4 (nrow_below R2.out hSw)
                        go_simp
                      simp only [Act.put, List.setIfInBounds_toArray, List.set_cons_zero, List.set_cons_succ]
                      refine take_do (i := 7) (v := (.bool true)) rfl (by kernel_rfl) (by kernel_rfl) (by kernel_rfl) (fun _ _ _ h => h) (by rfl) ?_ (by assumption) ?_
                      · intro w hSw
                        go_simp
                      simp only [Act.put, List.setIfInBounds_toArray, List.set_cons_zero, List.set_cons_succ]
                      refine take_call (i := 8) rfl (by kernel_rfl) (fun K2 hK => ?_)
                      go_simp
                      refine (cbit_any true _).mono ?_
                      rintro e w5 ⟨rfl, hw⟩
                      rw [hw]
                      clear hw w5
                      go_wp2_with fail
                      refine hK.out _ _ hHeld (fun hHeld2 => ?_)
                      clear hK hHeld
                      have hHeld := hHeld2
                      clear hHeld2
                      refine take_do (i := 9) (v := (.int .i64 1)) rfl (by kernel_rfl) (by kernel_rfl) (by kernel_rfl) (fun _ _ _ h => h) (by rfl) ?_ (by assumption) ?_
                      · intro w hSw
                        go_simp
                      simp only [Act.put, List.setIfInBounds_toArray, List.set_cons_zero, List.set_cons_succ]
                      refine wpAnyH_done (by kernel_rfl) ?_ _
                      have LZ := Lib.hid (L2.out.below hHeld)
                      obtain ⟨⟨n0, n1, n2⟩, _⟩ := rowN3 LZ.out.bx
                      have fz := LZ.out.t.frozen i
                      have ti := LZ.out.t.cell (i := i) hlt
                      have hlz := LZ.out.t.lt
                      clear hHeld L2
                      go_wp2_with fail
                      go_roundw
                      case rel => exact ⟨i + 1, by omega, by rw [Pg.insTo_no HK1.out], by go_num, by show CyL _ _ _ _ _ _ _ _ _ _ _ _ _ _ _ _ _ _ _ _ _; rw [Cy.run_T1, HV.out, HC.out]; exact LZ.out.putT i _⟩
                      case measure => simp [intOf]; omega
                    · have HV2 : Hid (Cy.vl (p.B i) i s.T s.C (Cy.run p s I i).T (I (Pg.insTo p.B i)) = 0) := by show _ = _; rw [HV.out, HCT.out, if_neg hq]
                      clear HV
                      have HV := HV2
                      clear HV2
                      refine wp_region_held_drew (S := fun V => Below W2.heap.size W2 V) (by kernel_rfl) (Below.refl _ _).drew (fun hHeld => ?_)
                      obtain ⟨Z, hZ⟩ : ∃ Z, Z = W2.drew := ⟨_, rfl⟩
                      rw [← hZ] at hHeld ⊢
                      clear hZ
                      refine take_do (i := 0) (v := (.pointer (some ⟨nb, 1, none⟩))) rfl (by kernel_rfl) (by kernel_rfl) (by kernel_rfl) (fun _ _ _ h => h) (by rfl) ?_ (by assumption) ?_
                      · intro w hSw
                        go_simp
                      simp only [Act.put, List.setIfInBounds_toArray, List.set_cons_zero, List.set_cons_succ]
                      refine take_do (i := 1) (v := (.slice (some ⟨cg, 0, none⟩) p.bn p.bn)) rfl (by kernel_rfl) (by kernel_rfl) (by kernel_rfl) (fun _ _ _ h => h) (by rfl) ?_ (by assumption) ?_
                      · intro w hSw
                        obtain ⟨⟨n0, n1, n2⟩, _⟩ := rowN3 (nrow_below L2.out.bx hSw)
                        go_simp
                      simp only [Act.put, List.setIfInBounds_toArray, List.set_cons_zero, List.set_cons_succ]
                      refine take_do (i := 2) (v := (.int .i64 i)) rfl (by kernel_rfl) (by kernel_rfl) (by kernel_rfl) (fun _ _ _ h => h) (by rfl) ?_ (by assumption) ?_
                      · intro w hSw
                        go_simp
                      simp only [Act.put, List.setIfInBounds_toArray, List.set_cons_zero, List.set_cons_succ]
                      refine take_do (i := 3) (v := (.pointer (some ⟨cg, i, none⟩))) rfl (by kernel_rfl) (by kernel_rfl) (by kernel_rfl) (fun _ _ _ h => h) (by rfl) ?_ (by assumption) ?_
                      · intro w hSw
                        go_simp
                      simp only [Act.put, List.setIfInBounds_toArray, List.set_cons_zero, List.set_cons_succ]
                      refine take_do (i := 4) (v := (.int .i64 cn)) rfl (by kernel_rfl) (by kernel_rfl) (by kernel_rfl) (fun _ _ _ h => h) (by rfl) ?_ (by assumption) ?_
                      · intro w hSw
                        have tt := (L2.out.c.below hSw).cell (i := i) hlt
                        rw [HCN.out] at tt
                        go_simp
                      simp only [Act.put, List.setIfInBounds_toArray, List.set_cons_zero, List.set_cons_succ]
                      refine take_do (i := 5) (v := (.pointer (some ⟨wr.heap.size, 3, none⟩))) rfl (by kernel_rfl) (by kernel_rfl) (by kernel_rfl) (fun _ _ _ h => h) (by rfl) ?_ (by assumption) ?_
                      · intro w hSw
                        go_simp
                      simp only [Act.put, List.setIfInBounds_toArray, List.set_cons_zero, List.set_cons_succ]
                      refine take_do (i := 6) (v := (.int .i64 (p.B i).b)) rfl (by kernel_rfl) (by kernel_rfl) (by kernel_rfl) (fun _ _ _ h => h) (by rfl) ?_ (by assumption) ?_
                      · intro w hSw
                        obtain ⟨⟨a0, a1, a2, a3⟩, _⟩ := rowN4 (nrow_below R2.out hSw)
                        go_simp
                      simp only [Act.put, List.setIfInBounds_toArray, List.set_cons_zero, List.set_cons_succ]
                      refine take_do (i := 7) (v := (.bool false)) rfl (by kernel_rfl) (by kernel_rfl) (by kernel_rfl) (fun _ _ _ h => h) (by rfl) ?_ (by assumption) ?_
                      · intro w hSw
                        go_simp
                      simp only [Act.put, List.setIfInBounds_toArray, List.set_cons_zero, List.set_cons_succ]
                      refine take_call (i := 8) rfl (by kernel_rfl) (fun K2 hK => ?_)
                      go_simp
                      refine (cbit_any false _).mono ?_
                      rintro e w5 ⟨rfl, hw⟩
                      rw [hw]
                      clear hw w5
                      go_wp2_with fail
                      refine hK.out _ _ hHeld (fun hHeld2 => ?_)
                      clear hK hHeld
                      have hHeld := hHeld2
                      clear hHeld2
                      refine take_do (i := 9) (v := (.int .i64 0)) rfl (by kernel_rfl) (by kernel_rfl) (by kernel_rfl) (fun _ _ _ h => h) (by rfl) ?_ (by assumption) ?_
                      · intro w hSw
                        go_simp
                      simp only [Act.put, List.setIfInBounds_toArray, List.set_cons_zero, List.set_cons_succ]
                      refine wpAnyH_done (by kernel_rfl) ?_ _
                      have LZ := Lib.hid (L2.out.below hHeld)
                      obtain ⟨⟨n0, n1, n2⟩, _⟩ := rowN3 LZ.out.bx
                      have fz := LZ.out.t.frozen i
                      have ti := LZ.out.t.cell (i := i) hlt
                      have hlz := LZ.out.t.lt
                      clear hHeld L2
                      go_wp2_with fail
                      go_roundw
                      case rel => exact ⟨i + 1, by omega, by rw [Pg.insTo_no HK1.out], by go_num, by show CyL _ _ _ _ _ _ _ _ _ _ _ _ _ _ _ _ _ _ _ _ _; rw [Cy.run_T1, HV.out, HC.out]; exact LZ.out.putT i _⟩
                      case measure => simp [intOf]; omega
                  · have HCT : Hid (Cy.ct (p.B i) i s.C (Cy.run p s I i).T = 0) := Cy.ct_70 (by rw [az]; exact hd)
                    have HC : Hid ((Cy.run p s I (i + 1)).C = (Cy.run p s I i).C) := Cy.run_C0 HCT.out
                    have hd' : ((Cy.run p s I i).T a == 1) = false := by simp [hd]
                    obtain ⟨⟨n0, n1, n2⟩, _⟩ := rowN3 hL.out.bx
                    clear hd hk fz ti
                    go_wp2_with fail
                    clear n0 n1 n2 ta
                    obtain ⟨W2, hW2⟩ : ∃ W2, W2 = wr.alloc (.cells #[.int .i64 (p.B i).kind, .string (p.B i).name, .int .i64 a, .int .i64 (p.B i).b] 84) := ⟨_, rfl⟩
                    have R2 : Hid (W2.rowIs wr.heap.size 84 4 (rowN [.int .i64 (p.B i).kind, .string (p.B i).name, .int .i64 a, .int .i64 (p.B i).b])) := by show World.rowIs _ _ _ _ _; rw [hW2]; exact rowN_alloc wr _ _
                    have L2 := Lib.hid (hL.out.below (nbel_alloc wr (.cells #[.int .i64 (p.B i).kind, .string (p.B i).name, .int .i64 a, .int .i64 (p.B i).b] 84)))
                    rw [← hW2] at L2 ⊢
                    clear hW2 hL
                    obtain ⟨cn, hcn⟩ : ∃ cn : Int, cn = 0 := ⟨_, rfl⟩
                    rw [← hcn] at HCT
                    have HCN : Hid ((Cy.run p s I i).C i = cn) := by show _ = _; rw [hcn]; exact HC0.out
                    clear hcn
                    by_cases hq : (p.B i).b < cn
                    · have HV2 : Hid (Cy.vl (p.B i) i s.T s.C (Cy.run p s I i).T (I (Pg.insTo p.B i)) = 1) := by show _ = _; rw [HV.out, HCT.out, if_pos hq]
                      clear HV
                      have HV := HV2
                      clear HV2
                      refine wp_region_held_drew (S := fun V => Below W2.heap.size W2 V) (by kernel_rfl) (Below.refl _ _).drew (fun hHeld => ?_)
                      obtain ⟨Z, hZ⟩ : ∃ Z, Z = W2.drew := ⟨_, rfl⟩
                      rw [← hZ] at hHeld ⊢
                      clear hZ
                      refine take_do (i := 0) (v := (.pointer (some ⟨nb, 1, none⟩))) rfl (by kernel_rfl) (by kernel_rfl) (by kernel_rfl) (fun _ _ _ h => h) (by rfl) ?_ (by assumption) ?_
                      · intro w hSw
                        go_simp
                      simp only [Act.put, List.setIfInBounds_toArray, List.set_cons_zero, List.set_cons_succ]
                      refine take_do (i := 1) (v := (.slice (some ⟨cg, 0, none⟩) p.bn p.bn)) rfl (by kernel_rfl) (by kernel_rfl) (by kernel_rfl) (fun _ _ _ h => h) (by rfl) ?_ (by assumption) ?_
                      · intro w hSw
                        obtain ⟨⟨n0, n1, n2⟩, _⟩ := rowN3 (nrow_below L2.out.bx hSw)
                        go_simp
                      simp only [Act.put, List.setIfInBounds_toArray, List.set_cons_zero, List.set_cons_succ]
                      refine take_do (i := 2) (v := (.int .i64 i)) rfl (by kernel_rfl) (by kernel_rfl) (by kernel_rfl) (fun _ _ _ h => h) (by rfl) ?_ (by assumption) ?_
                      · intro w hSw
                        go_simp
                      simp only [Act.put, List.setIfInBounds_toArray, List.set_cons_zero, List.set_cons_succ]
                      refine take_do (i := 3) (v := (.pointer (some ⟨cg, i, none⟩))) rfl (by kernel_rfl) (by kernel_rfl) (by kernel_rfl) (fun _ _ _ h => h) (by rfl) ?_ (by assumption) ?_
                      · intro w hSw
                        go_simp
                      simp only [Act.put, List.setIfInBounds_toArray, List.set_cons_zero, List.set_cons_succ]
                      refine take_do (i := 4) (v := (.int .i64 cn)) rfl (by kernel_rfl) (by kernel_rfl) (by kernel_rfl) (fun _ _ _ h => h) (by rfl) ?_ (by assumption) ?_
                      · intro w hSw
                        have tt := (L2.out.c.below hSw).cell (i := i) hlt
                        rw [HCN.out] at tt
                        go_simp
                      simp only [Act.put, List.setIfInBounds_toArray, List.set_cons_zero, List.set_cons_succ]
                      refine take_do (i := 5) (v := (.pointer (some ⟨wr.heap.size, 3, none⟩))) rfl (by kernel_rfl) (by kernel_rfl) (by kernel_rfl) (fun _ _ _ h => h) (by rfl) ?_ (by assumption) ?_
                      · intro w hSw
                        go_simp
                      simp only [Act.put, List.setIfInBounds_toArray, List.set_cons_zero, List.set_cons_succ]
                      refine take_do (i := 6) (v := (.int .i64 (p.B i).b)) rfl (by kernel_rfl) (by kernel_rfl) (by kernel_rfl) (fun _ _ _ h => h) (by rfl) ?_ (by assumption) ?_
                      · intro w hSw
                        obtain ⟨⟨a0, a1, a2, a3⟩, _⟩ := rowN4 (nrow_below R2.out hSw)
                        go_simp
                      simp only [Act.put, List.setIfInBounds_toArray, List.set_cons_zero, List.set_cons_succ]
                      refine take_do (i := 7) (v := (.bool true)) rfl (by kernel_rfl) (by kernel_rfl) (by kernel_rfl) (fun _ _ _ h => h) (by rfl) ?_ (by assumption) ?_
                      · intro w hSw
                        go_simp
                      simp only [Act.put, List.setIfInBounds_toArray, List.set_cons_zero, List.set_cons_succ]
                      refine take_call (i := 8) rfl (by kernel_rfl) (fun K2 hK => ?_)
                      go_simp
                      refine (cbit_any true _).mono ?_
                      rintro e w5 ⟨rfl, hw⟩
                      rw [hw]
                      clear hw w5
                      go_wp2_with fail
                      refine hK.out _ _ hHeld (fun hHeld2 => ?_)
                      clear hK hHeld
                      have hHeld := hHeld2
                      clear hHeld2
                      refine take_do (i := 9) (v := (.int .i64 1)) rfl (by kernel_rfl) (by kernel_rfl) (by kernel_rfl) (fun _ _ _ h => h) (by rfl) ?_ (by assumption) ?_
                      · intro w hSw
                        go_simp
                      simp only [Act.put, List.setIfInBounds_toArray, List.set_cons_zero, List.set_cons_succ]
                      refine wpAnyH_done (by kernel_rfl) ?_ _
                      have LZ := Lib.hid (L2.out.below hHeld)
                      obtain ⟨⟨n0, n1, n2⟩, _⟩ := rowN3 LZ.out.bx
                      have fz := LZ.out.t.frozen i
                      have ti := LZ.out.t.cell (i := i) hlt
                      have hlz := LZ.out.t.lt
                      clear hHeld L2
                      go_wp2_with fail
                      go_roundw
                      case rel => exact ⟨i + 1, by omega, by rw [Pg.insTo_no HK1.out], by go_num, by show CyL _ _ _ _ _ _ _ _ _ _ _ _ _ _ _ _ _ _ _ _ _; rw [Cy.run_T1, HV.out, HC.out]; exact LZ.out.putT i _⟩
                      case measure => simp [intOf]; omega
                    · have HV2 : Hid (Cy.vl (p.B i) i s.T s.C (Cy.run p s I i).T (I (Pg.insTo p.B i)) = 0) := by show _ = _; rw [HV.out, HCT.out, if_neg hq]
                      clear HV
                      have HV := HV2
                      clear HV2
                      refine wp_region_held_drew (S := fun V => Below W2.heap.size W2 V) (by kernel_rfl) (Below.refl _ _).drew (fun hHeld => ?_)
                      obtain ⟨Z, hZ⟩ : ∃ Z, Z = W2.drew := ⟨_, rfl⟩
                      rw [← hZ] at hHeld ⊢
                      clear hZ
                      refine take_do (i := 0) (v := (.pointer (some ⟨nb, 1, none⟩))) rfl (by kernel_rfl) (by kernel_rfl) (by kernel_rfl) (fun _ _ _ h => h) (by rfl) ?_ (by assumption) ?_
                      · intro w hSw
                        go_simp
                      simp only [Act.put, List.setIfInBounds_toArray, List.set_cons_zero, List.set_cons_succ]
                      refine take_do (i := 1) (v := (.slice (some ⟨cg, 0, none⟩) p.bn p.bn)) rfl (by kernel_rfl) (by kernel_rfl) (by kernel_rfl) (fun _ _ _ h => h) (by rfl) ?_ (by assumption) ?_
                      · intro w hSw
                        obtain ⟨⟨n0, n1, n2⟩, _⟩ := rowN3 (nrow_below L2.out.bx hSw)
                        go_simp
                      simp only [Act.put, List.setIfInBounds_toArray, List.set_cons_zero, List.set_cons_succ]
                      refine take_do (i := 2) (v := (.int .i64 i)) rfl (by kernel_rfl) (by kernel_rfl) (by kernel_rfl) (fun _ _ _ h => h) (by rfl) ?_ (by assumption) ?_
                      · intro w hSw
                        go_simp
                      simp only [Act.put, List.setIfInBounds_toArray, List.set_cons_zero, List.set_cons_succ]
                      refine take_do (i := 3) (v := (.pointer (some ⟨cg, i, none⟩))) rfl (by kernel_rfl) (by kernel_rfl) (by kernel_rfl) (fun _ _ _ h => h) (by rfl) ?_ (by assumption) ?_
                      · intro w hSw
                        go_simp
                      simp only [Act.put, List.setIfInBounds_toArray, List.set_cons_zero, List.set_cons_succ]
                      refine take_do (i := 4) (v := (.int .i64 cn)) rfl (by kernel_rfl) (by kernel_rfl) (by kernel_rfl) (fun _ _ _ h => h) (by rfl) ?_ (by assumption) ?_
                      · intro w hSw
                        have tt := (L2.out.c.below hSw).cell (i := i) hlt
                        rw [HCN.out] at tt
                        go_simp
                      simp only [Act.put, List.setIfInBounds_toArray, List.set_cons_zero, List.set_cons_succ]
                      refine take_do (i := 5) (v := (.pointer (some ⟨wr.heap.size, 3, none⟩))) rfl (by kernel_rfl) (by kernel_rfl) (by kernel_rfl) (fun _ _ _ h => h) (by rfl) ?_ (by assumption) ?_
                      · intro w hSw
                        go_simp
                      simp only [Act.put, List.setIfInBounds_toArray, List.set_cons_zero, List.set_cons_succ]
                      refine take_do (i := 6) (v := (.int .i64 (p.B i).b)) rfl (by kernel_rfl) (by kernel_rfl) (by kernel_rfl) (fun _ _ _ h => h) (by rfl) ?_ (by assumption) ?_
                      · intro w hSw
                        obtain ⟨⟨a0, a1, a2, a3⟩, _⟩ := rowN4 (nrow_below R2.out hSw)
                        go_simp
                      simp only [Act.put, List.setIfInBounds_toArray, List.set_cons_zero, List.set_cons_succ]
                      refine take_do (i := 7) (v := (.bool false)) rfl (by kernel_rfl) (by kernel_rfl) (by kernel_rfl) (fun _ _ _ h => h) (by rfl) ?_ (by assumption) ?_
                      · intro w hSw
                        go_simp
                      simp only [Act.put, List.setIfInBounds_toArray, List.set_cons_zero, List.set_cons_succ]
                      refine take_call (i := 8) rfl (by kernel_rfl) (fun K2 hK => ?_)
                      go_simp
                      refine (cbit_any false _).mono ?_
                      rintro e w5 ⟨rfl, hw⟩
                      rw [hw]
                      clear hw w5
                      go_wp2_with fail
                      refine hK.out _ _ hHeld (fun hHeld2 => ?_)
                      clear hK hHeld
                      have hHeld := hHeld2
                      clear hHeld2
                      refine take_do (i := 9) (v := (.int .i64 0)) rfl (by kernel_rfl) (by kernel_rfl) (by kernel_rfl) (fun _ _ _ h => h) (by rfl) ?_ (by assumption) ?_
                      · intro w hSw
                        go_simp
                      simp only [Act.put, List.setIfInBounds_toArray, List.set_cons_zero, List.set_cons_succ]
                      refine wpAnyH_done (by kernel_rfl) ?_ _
                      have LZ := Lib.hid (L2.out.below hHeld)
                      obtain ⟨⟨n0, n1, n2⟩, _⟩ := rowN3 LZ.out.bx
                      have fz := LZ.out.t.frozen i
                      have ti := LZ.out.t.cell (i := i) hlt
                      have hlz := LZ.out.t.lt
                      clear hHeld L2
                      go_wp2_with fail
                      go_roundw
                      case rel => exact ⟨i + 1, by omega, by rw [Pg.insTo_no HK1.out], by go_num, by show CyL _ _ _ _ _ _ _ _ _ _ _ _ _ _ _ _ _ _ _ _ _; rw [Cy.run_T1, HV.out, HC.out]; exact LZ.out.putT i _⟩
                      case measure => simp [intOf]; omega
            · obtain rfl : i = p.bn := by omega
              clear hi2
              have HBT := Lib.hid (Cy.run_bits HO.out HF.out.bits (Nat.le_refl _)).1
              have hE0 : (s.fl || dB (Cy.Broke p (Cy.run p s I p.bn).T 0)) = s.fl := by rw [dB_ff (Cy.broke0 _ _)]; simp
              have hL0 : CyL p la lk fa fk wa wk s sa sk sb sl p.bn nb tg cg (Cy.run p s I p.bn).T (Cy.run p s I p.bn).C (s.fl || dB (Cy.Broke p (Cy.run p s I p.bn).T 0)) w wr := by rw [hE0]; exact hL.out
              clear hE0
              have LN := Lib.hid hL0
              clear hL hL0
              go_wp2_with fail
              go_loopw [13] (fun jv wr => ∃ (j : Nat), j ≤ p.nn ∧ jv = .int .i64 j ∧ Hid (CyL p la lk fa fk wa wk s sa sk sb sl p.bn nb tg cg (Cy.run p s I p.bn).T (Cy.run p s I p.bn).C (s.fl || dB (Cy.Broke p (Cy.run p s I p.bn).T j)) w wr)) (fun jv _ => p.nn - (intOf jv).toNat)
              case atStart => exact ⟨0, Nat.zero_le _, rfl, LN⟩
              case round =>
                obtain ⟨j, hj, rfl, hL⟩ := hrel
                clear LN
                obtain ⟨⟨x0, x1, x2⟩, _⟩ := rowN3 hL.out.a.bp
                by_cases hlt : j < p.nn
                · have hltz : (j : Int) < (p.nn : Int) := by omega
                  have hnn2 := HO.out.r.m
                  obtain ⟨⟨a, ha, haz⟩, ⟨d, hd, hdz⟩⟩ := Cy.nev_in HO.out.r hlt
                  obtain ⟨b, eb, c0, c1⟩ := (H.out.w.below hL.out.a.old).at2 hlt
                  subst eb
                  have az : (p.N (j * 2)).toNat = a := by omega
                  have dz : (p.N (j * 2 + 1)).toNat = d := by omega
                  rw [haz] at c0
                  rw [hdz] at c1
                  obtain ⟨⟨n0, n1, n2⟩, _⟩ := rowN3 hL.out.bx
                  have ta := hL.out.t.cell (i := a) ha
                  have td := hL.out.t.cell (i := d) hd
                  have hal : (a : Int) < (p.bn : Int) := by omega
                  have hdl : (d : Int) < (p.bn : Int) := by omega
                  have hba := HBT.out a ha
                  have hbd := HBT.out d hd
                  by_cases q1 : (Cy.run p s I p.bn).T a = 1
                  · by_cases q2 : (Cy.run p s I p.bn).T d = 1
                    · have HBK : Hid ((s.fl || dB (Cy.Broke p (Cy.run p s I p.bn).T (j + 1))) = true) := by show _ = _; rw [dB_tt (Cy.broke_yes (by rw [az]; exact q1) (by rw [dz]; exact q2))]; simp
                      rw [q1] at ta
                      rw [q2] at td
                      clear q1 q2 hba hbd
                      go_wp2_with fail
                      go_quiet (fail)
                      have hLZ := hL.out.below (cydrewN (Below.refl _ wr) nq)
                      obtain ⟨Z, hZ⟩ : ∃ Z, Z = wr.drewN nq := ⟨_, rfl⟩
                      rw [← hZ] at hLZ ⊢
                      have LZ := Lib.hid hLZ
                      clear hZ hLZ hL x0 x1 x2 c0 c1 n0 n1 n2 ta td
                      obtain ⟨⟨n0, n1, n2⟩, g0, g1, g2⟩ := rowN3 LZ.out.bx
                      have lz := LZ.out.bx.lt
                      go_wp2_with fail
                      go_roundw
                      case rel => exact ⟨j + 1, by omega, by go_num, by show CyL _ _ _ _ _ _ _ _ _ _ _ _ _ _ _ _ _ _ _ _ _; rw [HBK.out]; exact LZ.out.fall⟩
                      case measure => simp [intOf]; omega
                    · have q2' : (Cy.run p s I p.bn).T d = 0 := by omega
                      have HBK : Hid (dB (Cy.Broke p (Cy.run p s I p.bn).T (j + 1)) = dB (Cy.Broke p (Cy.run p s I p.bn).T j)) := dB_congr (Cy.broke_no (fun z => q2 (by rw [← dz]; exact z.2)))
                      rw [q1] at ta
                      rw [q2'] at td
                      clear q1 q2 q2' hba hbd
                      go_wp2_with fail
                      go_quiet (fail)
                      go_wp2_with fail
                      go_roundw
                      case rel => exact ⟨j + 1, by omega, by go_num, by show CyL _ _ _ _ _ _ _ _ _ _ _ _ _ _ _ _ _ _ _ _ _; rw [HBK.out]; exact hL.out.below (cydrewN (Below.refl _ _) _)⟩
                      case measure => simp [intOf]; omega
                  · have q1' : (Cy.run p s I p.bn).T a = 0 := by omega
                    have HBK : Hid (dB (Cy.Broke p (Cy.run p s I p.bn).T (j + 1)) = dB (Cy.Broke p (Cy.run p s I p.bn).T j)) := dB_congr (Cy.broke_no (fun z => q1 (by rw [← az]; exact z.1)))
                    rw [q1'] at ta
                    clear q1 q1' hba hbd
                    go_wp2_with fail
                    go_quiet (fail)
                    go_wp2_with fail
                    go_roundw
                    case rel => exact ⟨j + 1, by omega, by go_num, by show CyL _ _ _ _ _ _ _ _ _ _ _ _ _ _ _ _ _ _ _ _ _; rw [HBK.out]; exact hL.out.below (cydrewN (Below.refl _ _) _)⟩
                    case measure => simp [intOf]; omega
                · as_aux_lemma =>
                  obtain rfl : j = p.nn := by omega
                  clear hj
                  obtain ⟨fl, hfl⟩ : ∃ fl, fl = (s.fl || dB (Cy.Broke p (Cy.run p s I p.bn).T p.nn)) := ⟨_, rfl⟩
                  have HFL : Hid (Cy.fell p s I = fl) := hfl.symm
                  rw [← hfl] at hL
                  clear hfl
                  obtain ⟨⟨n0, n1, n2⟩, _⟩ := rowN3 hL.out.bx
                  obtain ⟨V, hV⟩ : ∃ V, V = wr.alloc (.cells #[.slice (some ⟨tg, 0, none⟩) p.bn p.bn, .slice (some ⟨cg, 0, none⟩) p.bn p.bn, .bool fl, .slice none 0 0, .int .i64 0] 38) := ⟨_, rfl⟩
                  have OB : Hid (V.rowIs wr.heap.size 38 5 (rowN [.slice (some ⟨tg, 0, none⟩) p.bn p.bn, .slice (some ⟨cg, 0, none⟩) p.bn p.bn, .bool fl, .slice none 0 0, .int .i64 0])) := by show World.rowIs _ _ _ _ _; rw [hV]; exact rowN_alloc wr _ _
                  have LV := Lib.hid (hL.out.below (nbel_alloc wr (.cells #[.slice (some ⟨tg, 0, none⟩) p.bn p.bn, .slice (some ⟨cg, 0, none⟩) p.bn p.bn, .bool fl, .slice none 0 0, .int .i64 0] 38)))
                  rw [← hV] at LV
                  have HLT : Hid (tg < wr.heap.size ∧ cg < wr.heap.size ∧ wr.heap.size < V.heap.size ∧ w.heap.size + 1 + 1 < wr.heap.size ∧ nb < wr.heap.size) := ⟨hL.out.t.lt, hL.out.c.lt, OB.out.lt, hL.out.rs.lt, hL.out.bx.lt⟩
                  have HLTo : Hid (tg < wr.heap.size ∧ cg < wr.heap.size ∧ w.heap.size + 1 + 1 < wr.heap.size ∧ nb < wr.heap.size) := ⟨HLT.out.1, HLT.out.2.1, HLT.out.2.2.2.1, HLT.out.2.2.2.2⟩
                  have HV := Lib.hid hV
                  clear hV hL
                  go_wp2_with fail
                  rw [← HV.out]
                  clear HV x0 x1 x2 n0 n1 n2
                  generalize wr.heap.size = ob at *
                  go_loopw [15] (fun mv wr => ∃ (m : Nat) (v : Value), m ≤ p.on ∧ mv = .int .i64 m ∧ Hid (CyV p la lk fa fk wa wk s sa sk sb sl p.bn nb tg cg ob m v fl (Cy.outs p s I m) (Cy.run p s I p.bn).T (Cy.run p s I p.bn).C w wr)) (fun mv _ => p.on - (intOf mv).toNat)
                  case atStart => exact ⟨0, _, Nat.zero_le _, rfl, ⟨LV.out, OB.out, World.ownsRow_nil _ _ _ _, HLTo.out, HLT.out.2.2.1⟩⟩
                  case round =>
                    obtain ⟨m, v, hm, rfl, hS⟩ := hrel
                    clear LV OB
                    obtain ⟨⟨x0, x1, x2⟩, _⟩ := rowN3 hS.out.cl.a.bp
                    by_cases hlt : m < p.on
                    · have hltz : (m : Int) < (p.on : Int) := by omega
                      obtain ⟨a, ha, haz⟩ := Cy.out_in HO.out.r hlt
                      obtain ⟨b, eb, c0⟩ := (H.out.f.below hS.out.cl.a.old).at1 hlt
                      subst eb
                      have az : (p.O m).toNat = a := by omega
                      rw [haz] at c0
                      obtain ⟨⟨n0, n1, n2⟩, _⟩ := rowN3 hS.out.cl.bx
                      have ta := hS.out.cl.t.cell (i := a) ha
                      have hal : (a : Int) < (p.bn : Int) := by omega
                      go_wp2_with fail
                      go_region
                      have hSZ := hS.out.below (Below.refl _ _).drew
                      obtain ⟨Z, hZ⟩ : ∃ Z, Z = wr.drew := ⟨_, rfl⟩
                      rw [← hZ] at hSZ ⊢
                      have SZ := Lib.hid hSZ
                      clear hZ hSZ hS x0 x1 x2 c0 n0 n1 n2 ta
                      obtain ⟨⟨n0, n1, n2⟩, _⟩ := rowN3 SZ.out.cl.bx
                      obtain ⟨⟨o0, o1, o2, o3, o4⟩, g0, g1, g2, g3, g4⟩ := rowN5 SZ.out.bo
                      have hob := SZ.out.hi
                      have hon := HO.out.r.on
                      obtain ⟨i1, hi1, hy0, hy1, hy2⟩ := info_parts ninfo_i64
                      by_cases hff : fl = true
                      · have HOU : Hid (Cy.out p s I m = 0) := by show Cy.out _ _ _ _ = _; unfold Cy.out; rw [HFL.out, hff]; simp
                        rw [hff] at n2
                        clear hff
                        go_wp2_with (at_builtin; refine wpList_append_own _ rfl _ _ 24 rfl ob 2 i1 _ 1 8 Tryz.underlying24 hi1 hy0 hy1 hy2 rfl (by decide) _ _ _ rfl (SZ.out.own.alloc _) ⟨Z.heap.size, 0, none⟩ 1 1 [.int .i64 (0)] rfl rfl ?at1 ?at2 ?at3 ?at4 ?at5 ?_)
                        case at1 =>
                          intro q x hq
                          match q, hq with
                          | 0, hq =>
                            simp at hq
                            subst hq
                            exact (rowN_alloc Z [.int .i64 (0)] 2).cell (i := 0) (by simp)
                        case at2 =>
                          intro x hx
                          simp at hx
                          subst hx
                          rfl
                        case at3 => unfold maxLen; omega
                        case at4 => omega
                        case at5 => simp; omega
                        intro v2 Z2 hown hgrow _
                        have S2 := Lib.hid (SZ.out.push hgrow)
                        have hown2 := hown
                        rw [← ivs_app] at hown2
                        obtain ⟨a2, c2, rfl, _⟩ := own_ints hown2
                        clear hown2
                        obtain ⟨⟨p0, p1, p2, p3, p4⟩, g0, g1, g2, g3, g4⟩ := rowN5 S2.out.bo
                        have hob2 := S2.out.hi
                        have S3 : Hid (CyV p la lk (some ⟨b, 0, none⟩) fk wa wk s sa sk sb sl p.bn nb tg cg ob (m + 1) (.slice a2 (m + 1) c2) fl (Cy.outs p s I (m + 1)) (Cy.run p s I p.bn).T (Cy.run p s I p.bn).C w (Z2.setCell ⟨ob, 3, none⟩ (.slice a2 (m + 1) c2))) := by
                          show CyV _ _ _ _ _ _ _ _ _ _ _ _ _ _ _ _ _ _ _ _ _ _ _ _ _
                          refine S2.out.put (by rw [Cy.outs, ivs_app, HOU.out]; exact hown)
                        clear hown hgrow SZ S2 n0 n1 n2 o0 o1 o2 o3 o4
                        go_wp2_with fail
                        go_roundw
                        case rel => exact ⟨m + 1, _, by omega, by go_num, S3⟩
                        case measure => simp [intOf]; omega
                      · have hff2 : fl = false := by cases fl <;> simp_all
                        clear hff
                        have hff := hff2
                        clear hff2
                        have HOU : Hid (Cy.out p s I m = (Cy.run p s I p.bn).T a) := by show Cy.out _ _ _ _ = _; unfold Cy.out; rw [HFL.out, hff]; rw [az]; simp
                        rw [hff] at n2
                        clear hff
                        go_wp2_with (at_builtin; refine wpList_append_own _ rfl _ _ 24 rfl ob 2 i1 _ 1 8 Tryz.underlying24 hi1 hy0 hy1 hy2 rfl (by decide) _ _ _ rfl (SZ.out.own.alloc _) ⟨Z.heap.size, 0, none⟩ 1 1 [.int .i64 ((Cy.run p s I p.bn).T a)] rfl rfl ?af1 ?af2 ?af3 ?af4 ?af5 ?_)
                        case af1 =>
                          intro q x hq
                          match q, hq with
                          | 0, hq =>
                            simp at hq
                            subst hq
                            exact (rowN_alloc Z [.int .i64 ((Cy.run p s I p.bn).T a)] 2).cell (i := 0) (by simp)
                        case af2 =>
                          intro x hx
                          simp at hx
                          subst hx
                          rfl
                        case af3 => unfold maxLen; omega
                        case af4 => omega
                        case af5 => simp; omega
                        intro v2 Z2 hown hgrow _
                        have S2 := Lib.hid (SZ.out.push hgrow)
                        have hown2 := hown
                        rw [← ivs_app] at hown2
                        obtain ⟨a2, c2, rfl, _⟩ := own_ints hown2
                        clear hown2
                        obtain ⟨⟨p0, p1, p2, p3, p4⟩, g0, g1, g2, g3, g4⟩ := rowN5 S2.out.bo
                        have hob2 := S2.out.hi
                        have S3 : Hid (CyV p la lk (some ⟨b, 0, none⟩) fk wa wk s sa sk sb sl p.bn nb tg cg ob (m + 1) (.slice a2 (m + 1) c2) fl (Cy.outs p s I (m + 1)) (Cy.run p s I p.bn).T (Cy.run p s I p.bn).C w (Z2.setCell ⟨ob, 3, none⟩ (.slice a2 (m + 1) c2))) := by
                          show CyV _ _ _ _ _ _ _ _ _ _ _ _ _ _ _ _ _ _ _ _ _ _ _ _ _
                          refine S2.out.put (by rw [Cy.outs, ivs_app, HOU.out]; exact hown)
                        clear hown hgrow SZ S2 n0 n1 n2 o0 o1 o2 o3 o4
                        go_wp2_with fail
                        go_roundw
                        case rel => exact ⟨m + 1, _, by omega, by go_num, S3⟩
                        case measure => simp [intOf]; omega
                    · obtain rfl : m = p.on := by omega
                      obtain ⟨⟨o0, o1, o2, o3, o4⟩, _⟩ := rowN5 hS.out.bo
                      obtain ⟨⟨z0, z1, z2, z3, z4⟩, f0, f1, f2, f3, f4⟩ := rowN5 hS.out.cl.rs
                      have hrl := hS.out.cl.rs.lt
                      obtain ⟨a, c, rfl, hown⟩ := own_ints hS.out.own
                      have QP := Lib.hid (cyput5 hS.out.cl.rs rfl (.slice (some ⟨tg, 0, none⟩) p.bn p.bn) (.slice (some ⟨cg, 0, none⟩) p.bn p.bn) (.bool fl) (.slice a p.on c) (.int .i64 0))
                      have BP := Lib.hid (cybel5 (g := w.heap.size + 1 + 1) hS.out.cl.a.old (by omega) (.slice (some ⟨tg, 0, none⟩) p.bn p.bn) (.slice (some ⟨cg, 0, none⟩) p.bn p.bn) (.bool fl) (.slice a p.on c) (.int .i64 0))
                      have KB := Lib.hid (fun (k : Nat) (hk : k ≠ w.heap.size + 1 + 1) => cyblk5 (W := wr) hk (.slice (some ⟨tg, 0, none⟩) p.bn p.bn) (.slice (some ⟨cg, 0, none⟩) p.bn p.bn) (.bool fl) (.slice a p.on c) (.int .i64 0))
                      have HN := Lib.hid hown
                      have hso := hS.out.o
                      have hno := hS.out.cl.o
                      go_wp2_with fail
                      refine bodyPost_ret (v := .agg #[.slice (some ⟨tg, 0, none⟩) p.bn p.bn, .slice (some ⟨cg, 0, none⟩) p.bn p.bn, .bool fl, .slice a p.on c, .int .i64 0]) (by
                        obtain ⟨⟨x0, x1, x2, x3, x4⟩, _⟩ := rowN5 QP.out
                        simp only [results, Tryz.results42]
                        simp [go_sem, x0, x1, x2, x3, x4]) rfl ⟨?_, BP.out⟩
                      rw [HE.out]
                      refine ⟨some ⟨tg, 0, none⟩, p.bn, some ⟨cg, 0, none⟩, p.bn, a, c, by rw [← HFL.out]; rfl, ⟨⟨Or.inr ⟨tg, rfl, by omega, hS.out.cl.t.block (KB.out tg (by omega))⟩, Or.inr ⟨cg, rfl, by omega, hS.out.cl.c.block (KB.out cg (by omega))⟩, fun k e e' => by have q := e.trans e'.symm; simp at q <;> omega⟩, ?_, fun k e e' => ?_, fun k e e' => ?_⟩⟩
                      · refine ((HN.out.keep (fun k _ h1 h2 => KB.out k (by omega))).low (by omega)).congr (fun j hj => ?_)
                        exact Cy.outs_get p s I p.on j hj
                      · have := (HN.out.lt e').1
                        cases e
                        omega
                      · have := (HN.out.lt e').1
                        cases e
                        omega
      · rw [dB_ff k]
        have HE := Lib.hid (Cy.ans_bad (p := p) (s := s) (I := I) HBG.out (fun q => k q.2.2))
        clear k
        have QP := Lib.hid (cyput5 Q2.out rfl (.slice none 0 0) (.slice none 0 0) (.bool false) (.slice none 0 0) (.int .i64 1))
        have BP := Lib.hid (cybel5 (g := w.heap.size + 1 + 1) S2.out.old (by omega) (.slice none 0 0) (.slice none 0 0) (.bool false) (.slice none 0 0) (.int .i64 1))
        obtain ⟨⟨z0, z1, z2, z3, z4⟩, f0, f1, f2, f3, f4⟩ := rowN5 Q2.out
        have hlt := Q2.out.lt
        go_wp2_with fail
        refine bodyPost_ret (v := coV (Cy.no 1) none 0 none 0 none 0) (by
          obtain ⟨⟨x0, x1, x2, x3, x4⟩, _⟩ := rowN5 QP.out
          simp only [results, Tryz.results42]
          simp [go_sem, x0, x1, x2, x3, x4, Cy.no, Cy.z0]) rfl ⟨by rw [HE.out]; exact CoEnd.no 1, BP.out⟩
    · have d1 : ((iN : Int) != Pg.ins p) = true := by simp; exact k
      have HE := Lib.hid (Cy.ans_bad (s := s) (I := I) HBG.out (fun q => k q.2.1))
      clear k
      have QP := Lib.hid (cyput5 Q2.out rfl (.slice none 0 0) (.slice none 0 0) (.bool false) (.slice none 0 0) (.int .i64 1))
      have BP := Lib.hid (cybel5 (g := w.heap.size + 1 + 1) S2.out.old (by omega) (.slice none 0 0) (.slice none 0 0) (.bool false) (.slice none 0 0) (.int .i64 1))
      obtain ⟨⟨z0, z1, z2, z3, z4⟩, f0, f1, f2, f3, f4⟩ := rowN5 Q2.out
      have hlt := Q2.out.lt
      go_wp2_with fail
      refine bodyPost_ret (v := coV (Cy.no 1) none 0 none 0 none 0) (by
        obtain ⟨⟨x0, x1, x2, x3, x4⟩, _⟩ := rowN5 QP.out
        simp only [results, Tryz.results42]
        simp [go_sem, x0, x1, x2, x3, x4, Cy.no, Cy.z0]) rfl ⟨by rw [HE.out]; exact CoEnd.no 1, BP.out⟩
  · rw [dB_ff k]
    have HE := Lib.hid (Cy.ans_bad (I := I) HBG.out (fun q => k q.1))
    clear k
    have QP := Lib.hid (cyput5 Q1.out rfl (.slice none 0 0) (.slice none 0 0) (.bool false) (.slice none 0 0) (.int .i64 1))
    have BP := Lib.hid (cybel5 (g := w.heap.size + 1 + 1) S1.out.old (by omega) (.slice none 0 0) (.slice none 0 0) (.bool false) (.slice none 0 0) (.int .i64 1))
    obtain ⟨⟨z0, z1, z2, z3, z4⟩, f0, f1, f2, f3, f4⟩ := rowN5 Q1.out
    have hlt := Q1.out.lt
    go_wp2_with fail
    refine bodyPost_ret (v := coV (Cy.no 1) none 0 none 0 none 0) (by
      obtain ⟨⟨x0, x1, x2, x3, x4⟩, _⟩ := rowN5 QP.out
      simp only [results, Tryz.results42]
      simp [go_sem, x0, x1, x2, x3, x4, Cy.no, Cy.z0]) rfl ⟨by rw [HE.out]; exact CoEnd.no 1, BP.out⟩
end Go.Proofs.YtogfjomfhenhfaaGreatDoor
