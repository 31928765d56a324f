/-
  The law FnGuarded.
-/
import Derived.Test.YtogfjomfhenhfaaGreatDoorGdA
import Derived.Test.YtogfjomfhenhfaaGreatDoorCyRiC
import Derived.Test.YtogfjomfhenhfaaGreatDoorCyRsC
import Derived.Test.YtogfjomfhenhfaaGreatDoorCyI7
import Derived.Deep.DeepCutAuto
namespace Go.Proofs.YtogfjomfhenhfaaGreatDoor
open Go Go.RowKit Go.Deep

/-- The rows of an answer. -/
def RwC (xa : Option Addr) (n N : Nat) (L : Nat → Nat → Int) (W : World) : Prop := ∀ j, j < n → ∃ g b c, xa = some ⟨g, 0, none⟩ ∧ W.cell? ⟨g, j, none⟩ = some (.slice b N c) ∧ IsAt b N (L j) W
theorem RwC.below {xa : Option Addr} {n N : Nat} {L : Nat → Nat → Int} {W W' : World} (h : RwC xa n N L W) (hb : Below W.heap.size W W') : RwC xa n N L W' := fun j hj => by
  obtain ⟨g, b, c, e, h1, h2⟩ := h j hj
  exact ⟨g, b, c, e, (hb.cell (World.block_lt_of_cell? _ _ h1)).trans h1, h2.below hb⟩
theorem RwC.of {B hi n k N : Nat} {a : Option Addr} {L : Nat → Nat → Int} {W : World} (h : SsO B hi n a k (fun _ => N) L W) : RwC a n N L W := fun j hj => by
  rcases h with ⟨_, h2, _⟩ | ⟨g, aj, cj, e, _, ⟨M, F, f1, f2, f3⟩, h3, _⟩
  · omega
  · refine ⟨g, aj j, cj j, e, by rw [f2.cell (i := j) (by omega), f3 j hj], ?_⟩
    rcases h3 j hj with ⟨_, h4, _⟩ | ⟨b, e2, _, h5⟩
    · exact Or.inl h4
    · rw [e2]; exact h5.at_
theorem rn_facts {p : Pg.Prog} {LN : Nat → Nat} {L : Nat → Nat → Int} {n : Nat} (h : Cy.rn p LN L n ≠ 0) : Cy.rn p LN L n = n ∧ n ≤ 100 ∧ Cy.Runs p LN L n := by
  by_cases b : 100 < n
  · exact absurd (Cy.rn_big b) h
  · by_cases r : Cy.Runs p LN L n
    · exact ⟨Cy.rn_ok b r, by omega, r⟩
    · exact absurd (Cy.rn_no r) h
set_option maxRecDepth 100000 in
set_option maxHeartbeats 32000000 in
theorem guarded_fn (w : World) (a : Option Addr) (len cap : Nat) (h : Bytes a len w) (hl : len ≤ 9223372036854775807) (hg : Et w) :
    Calls Tryz.prog 3 #[.slice a len cap] w fun e w' => e = .returned (.bool true) ∧ Below w.heap.size w w' := by
  have H := Lib.hid h
  have HG0 := Lib.hid hg
  clear h hg
  by_cases hbig : (1048576 : Int) < (len : Int)
  · go_enter Tryz.func3, Tryz.ntmps3
    go_wp2_with fail
    go_ret
    exact ⟨rfl, Below.refl _ _⟩
  go_enter Tryz.func3, Tryz.ntmps3
  go_wp2_with fail
  refine (drawGR_any a len cap w H.out (by omega)).mono ?_
  rintro e w1 ⟨⟨p, la, lk, fa, fk, wa, wk, ga, N, ca, LN, CK, L, rfl, hP, hPS, hLS, hN, hLN⟩, hb⟩
  obtain ⟨pb, hpb⟩ : ∃ pb, pb = w1.heap.size := ⟨_, rfl⟩
  obtain ⟨W1, hW1⟩ : ∃ W, W = w1.alloc (.cells #[.slice la p.bn lk, .slice fa p.on fk, .slice wa p.nn wk] 27) := ⟨_, rfl⟩
  have hb1 : Below w1.heap.size w1 W1 := by rw [hW1]; exact nbel_alloc _ _
  have HB : Hid (Below w.heap.size w W1) := hb.trans (hb1.mono hb.size)
  have HP := Lib.hid (hP.below hb1)
  have HS := Lib.hid hPS
  have HLS := Lib.hid (hLS.below hb1)
  have HLN := Lib.hid hLN
  have HBP : Hid (W1.rowIs pb 27 3 (rowN (pgL p la lk fa fk wa wk))) := by show World.rowIs _ _ _ _ _; rw [hW1, hpb]; exact rowN_alloc w1 (pgL p la lk fa fk wa wk) _
  have HG := Lib.hid (HG0.out.below HB.out)
  have HW1 := Lib.hid hW1
  have HPB := Lib.hid hpb
  clear hP hPS hLS hLN hb hb1 hW1 hpb H HG0
  obtain ⟨⟨x0, x1, x2⟩, _⟩ := rowN3 HBP.out
  rw [HW1.out, HPB.out] at x0 x1 x2
  go_wp2_with fail
  rw [← HPB.out, ← HW1.out]
  clear x0 x1 x2 HW1 HPB
  refine (specLRunC_any p la lk fa fk wa wk ga N ca CK LN L _ HP.out HS.out HLS.out hN HLN.out).mono ?_
  rintro e w2 ⟨⟨ya, yk, rfl, _⟩, hb⟩
  replace HB : Hid (Below w.heap.size w w2) := HB.out.trans (hb.mono HB.out.size)
  replace HP := Lib.hid (HP.out.below hb)
  replace HLS := Lib.hid (HLS.out.below hb)
  replace HBP := Lib.hid (nrow_below HBP.out hb)
  replace HG := Lib.hid (HG.out.below hb)
  clear hb
  obtain ⟨R, hR⟩ : ∃ R, R = Cy.rn p LN L N := ⟨_, rfl⟩
  rw [← hR]
  by_cases h0 : R = 0
  · subst h0
    clear hR
    go_wp2_with fail
    go_ret
    exact ⟨rfl, HB.out⟩
  have hR0 : ((R : Int) == 0) = false := by simp; omega
  obtain ⟨hRN, hN100, hRUN⟩ := rn_facts (p := p) (LN := LN) (L := L) (n := N) (by rw [← hR]; exact h0)
  have HRUN := Lib.hid hRUN
  obtain rfl : N = R := by rw [hR]; exact hRN.symm
  have HRN := Lib.hid hRN
  clear hR hRN hRUN
  obtain ⟨⟨x0, x1, x2⟩, _⟩ := rowN3 HBP.out
  go_wp2_with fail
  clear x0 x1 x2
  refine (implLRunC_any p la lk fa fk wa wk ga N ca CK LN L _ HP.out HS.out HLS.out hN HLN.out HG.out).mono ?_
  rintro e w3 ⟨hE, hb⟩
  rw [HRN.out] at hE
  obtain ⟨xa, xk, rfl, hxo⟩ := hE
  replace HB : Hid (Below w.heap.size w w3) := HB.out.trans (hb.mono HB.out.size)
  replace HP := Lib.hid (HP.out.below hb)
  replace HLS := Lib.hid (HLS.out.below hb)
  replace HBP := Lib.hid (nrow_below HBP.out hb)
  replace HG := Lib.hid (HG.out.below hb)
  have HX := Lib.hid (RwC.of hxo)
  clear hb hxo
  have hnn : ((N : Int) != (N : Int)) = false := by simp
  obtain ⟨⟨x0, x1, x2⟩, _⟩ := rowN3 HBP.out
  go_wp2_with fail
  clear x0 x1 x2
  refine (implStart_any p la lk fa fk wa wk _ HP.out HS.out).mono ?_
  rintro e w4 ⟨⟨sa, sk, sb, sl, rfl, hO⟩, hb⟩
  obtain ⟨gs, hgs⟩ : ∃ g, g = w4.heap.size := ⟨_, rfl⟩
  obtain ⟨W5, hW5⟩ : ∃ W, W = w4.alloc (.cells #[.slice sa (Cy.start p).n sk, .slice sb (Cy.start p).m sl, .bool (Cy.start p).fl] 33) := ⟨_, rfl⟩
  have b5 : Below w3.heap.size w3 W5 := hb.trans (by rw [hW5]; exact (nbel_alloc _ _).mono hb.size)
  have HBS : Hid (W5.rowIs gs 33 3 (rowN (lgL (Cy.st p LN L 0) sa sk sb sl))) := by show World.rowIs _ _ _ _ _; rw [hW5, hgs]; exact rowN_alloc w4 (lgL (Cy.start p) sa sk sb sl) _
  have HLG : Hid (LgO 2 w3.heap.size (Cy.st p LN L 0).n sk (Cy.st p LN L 0).m sl sa sb (Cy.st p LN L 0).T (Cy.st p LN L 0).C W5) := by show LgO _ _ _ _ _ _ _ _ _ _ _; rw [hW5]; exact hO.below (nbel_alloc _ _)
  have HGS : Hid (w3.heap.size ≤ gs) := by show _ ≤ _; rw [hgs]; exact hb.size
  have HB5 := Lib.hid b5
  have HW5 := Lib.hid hW5
  have HGG := Lib.hid hgs
  clear hb hO b5 hW5 hgs
  go_wp2_with fail
  rw [← HGG.out, ← HW5.out]
  clear HGG HW5
  go_loopw [8, 9, 10, 11, 12, 13] (fun kv _ _ _ _ _ wr => ∃ (k : Nat) (sa : Option Addr) (sk : Nat) (sb : Option Addr) (sl : Nat), k ≤ N ∧ kv = .int .i64 k ∧ Hid (Below w3.heap.size w3 wr) ∧ Hid (wr.rowIs gs 33 3 (rowN (lgL (Cy.st p LN L k) sa sk sb sl))) ∧ Hid (LgO 2 w3.heap.size (Cy.st p LN L k).n sk (Cy.st p LN L k).m sl sa sb (Cy.st p LN L k).T (Cy.st p LN L k).C wr)) (fun kv _ _ _ _ _ _ => N - (intOf kv).toNat)
  case atStart => exact ⟨0, sa, sk, sb, sl, Nat.zero_le _, rfl, HB5, HBS, HLG⟩
  case round =>
    clear HB5 HBS HLG
    obtain ⟨k, sa, sk, sb, sl, hk, rfl, HBK, HBS, HLG⟩ := hrel
    obtain ⟨w6, hw6⟩ : ∃ W, W = wr := ⟨_, rfl⟩
    rw [← hw6] at HBK HBS HLG ⊢
    clear hw6
    by_cases hlt : k < N
    · have hltz : (k : Int) < (N : Int) := by omega
      obtain ⟨hn4, hfit⟩ := Gd.fit_of (HRUN.out k hlt)
      have HFIT := Lib.hid (And.intro hn4 hfit)
      have hon : p.on ≤ 100 := hfit.1.r.on
      have hans : Cy.ans p (Cy.st p LN L k) (LN k) (L k) = ⟨Cy.next p (Cy.st p LN L k) (L k), p.on, Cy.out p (Cy.st p LN L k) (L k), 0⟩ := Cy.ans_ok hn4 hfit
      have hro : Cy.ro p LN L k = Cy.out p (Cy.st p LN L k) (L k) := by show (Cy.ans p _ _ _).O = _; rw [hans]
      have HBIT : Hid (∀ j, j < p.on → 0 ≤ Cy.ro p LN L k j ∧ Cy.ro p LN L k j ≤ 1) := by show ∀ j, _; rw [hro]; exact Gd.out_bit hfit
      have HTWO : Hid (∀ i, i < p.nn → ∀ j, j ≤ p.on → Gd.both p.O (Cy.ro p LN L k) (p.N (i * 2)) (p.N (i * 2 + 1)) j ≤ 1) := by show ∀ i, _; rw [hro]; exact fun i hi j hj => Gd.both_out hfit hi hj
      have HFALL : Hid ((Cy.st p LN L k).fl = true → (Cy.ans p (Cy.st p LN L k) (LN k) (L k)).s.fl = true ∧ ∀ j, Cy.ro p LN L k j = 0) := fun hf => by
        rw [hans, hro]
        exact Gd.fallen hf
      have HANS : Hid ((Cy.ans p (Cy.st p LN L k) (LN k) (L k)).n = p.on) := by show _ = _; rw [hans]
      clear hn4 hfit hans hro
      obtain ⟨RO, hRO⟩ : ∃ RO, RO = Cy.ro p LN L k := ⟨_, rfl⟩
      have HRO := Lib.hid hRO
      clear hRO
      have hx1 := (HX.out.below HBK.out) k hlt
      obtain ⟨gx, xl, xc, hxa, cx, ax⟩ := hx1
      subst hxa
      obtain ⟨⟨p0, p1, p2⟩, _⟩ := rowN3 (nrow_below HBP.out HBK.out)
      have hqq : ((p.on : Int) != (p.on : Int)) = false := by simp
      have HXC := Lib.hid (And.intro cx ax)
      clear ax
      go_wp2_with fail
      go_quiet (fail)
      clear p0 p1 p2 cx
      have HD0 : Hid (Below w6.heap.size w6 w6) := Below.refl _ _
      go_wp2_with fail
      go_loopw [9, 10, 11] (fun iv _ _ wr2 => ∃ (i : Nat), i ≤ p.nn ∧ iv = .int .i64 i ∧ Hid (Below w6.heap.size w6 wr2)) (fun iv _ _ _ => p.nn - (intOf iv).toNat)
      case atStart => exact ⟨0, Nat.zero_le _, rfl, ndrewN HD0.out _⟩
      case round =>
        obtain ⟨i, hi, rfl, hB2⟩ := hrel
        clear HD0
        obtain ⟨w7, hw7⟩ : ∃ W, W = wr := ⟨_, rfl⟩
        rw [← hw7] at hB2 ⊢
        clear hw7
        by_cases hlt2 : i < p.nn
        · have hltz2 : (i : Int) < (p.nn : Int) := by omega
          obtain ⟨⟨p0, p1, p2⟩, _⟩ := rowN3 (nrow_below (nrow_below HBP.out HBK.out) hB2.out)
          go_wp2_with fail
          clear p0 p1 p2
          go_loopw [10, 11] (fun sv jv wr3 => ∃ (j : Nat), j ≤ p.on ∧ jv = .int .i64 j ∧ sv = .int .i64 (Gd.both p.O RO (p.N (i * 2)) (p.N (i * 2 + 1)) j) ∧ Hid (Below w6.heap.size w6 wr3)) (fun _ jv _ => p.on - (intOf jv).toNat)
          case atStart => exact ⟨0, Nat.zero_le _, rfl, rfl, hB2⟩
          case round =>
            obtain ⟨j, hj, rfl, rfl, hB3⟩ := hrel
            obtain ⟨⟨p0, p1, p2⟩, _⟩ := rowN3 (nrow_below (nrow_below HBP.out HBK.out) hB3.out)
            have hbd := Gd.both_bd (O := p.O) (R := RO) (a := p.N (i * 2)) (b := p.N (i * 2 + 1)) (n := p.on) (fun q hq => by rw [HRO.out]; exact HBIT.out q hq) j hj
            by_cases hlt3 : j < p.on
            · have hltz3 : (j : Int) < (p.on : Int) := by omega
              obtain ⟨bo, hbo, co⟩ := ((HP.out.below HBK.out).below hB3.out).f.at1 hlt3
              obtain ⟨bn, hbn, cn0, cn1⟩ := ((HP.out.below HBK.out).below hB3.out).w.at2 hlt2
              obtain ⟨bx, hbx, cxj⟩ := (HXC.out.2.below hB3.out).at1 hlt3
              subst hbo hbn hbx
              have cxk := (hB3.out.cell (World.block_lt_of_cell? _ _ HXC.out.1)).trans HXC.out.1
              rw [← HRO.out] at cxj
              have hbit : 0 ≤ RO j ∧ RO j ≤ 1 := by rw [HRO.out]; exact HBIT.out j hlt3
              have HBN : Hid (Gd.both p.O RO (p.N (i * 2)) (p.N (i * 2 + 1)) (j + 1) = if p.O j = p.N (i * 2) ∨ p.O j = p.N (i * 2 + 1) then Gd.both p.O RO (p.N (i * 2)) (p.N (i * 2 + 1)) j + RO j else Gd.both p.O RO (p.N (i * 2)) (p.N (i * 2 + 1)) j) := rfl
              obtain ⟨oj, hoj⟩ : ∃ x, x = p.O j := ⟨_, rfl⟩
              obtain ⟨na, hna⟩ : ∃ x, x = p.N (i * 2) := ⟨_, rfl⟩
              obtain ⟨nb, hnb⟩ : ∃ x, x = p.N (i * 2 + 1) := ⟨_, rfl⟩
              obtain ⟨rj, hrj⟩ : ∃ x, x = RO j := ⟨_, rfl⟩
              obtain ⟨sj, hsj⟩ : ∃ x, x = Gd.both p.O RO (p.N (i * 2)) (p.N (i * 2 + 1)) j := ⟨_, rfl⟩
              rw [← hsj] at hbd HBN ⊢
              rw [← hoj, ← hna, ← hnb, ← hrj] at HBN
              rw [← hoj] at co
              rw [← hna] at cn0
              rw [← hnb] at cn1
              rw [← hrj] at cxj hbit
              have HNA := Lib.hid hna
              have HNB := Lib.hid hnb
              have hs0 := hbd.1
              have hs1 : sj ≤ 100 := by omega
              have hr0 := hbit.1
              have hr1 := hbit.2
              clear hoj hna hnb hrj hsj hbd hbit
              by_cases e1 : oj = na
              · have b1 : (oj == na) = true := by simp [e1]
                have HE := Lib.hid e1
                clear e1
                go_wp2_with fail
                go_quiet (fail)
                go_wp2_with fail
                go_roundw
                case rel => exact ⟨j + 1, by omega, by go_num, by rw [← HNA.out, ← HNB.out, HBN.out, if_pos (Or.inl HE.out)], ndrewN hB3.out _⟩
                case measure => simp [intOf]; omega
              · have b1 : (oj == na) = false := by simp [e1]
                have HE := Lib.hid e1
                clear e1
                by_cases e2 : oj = nb
                · have b2 : (oj == nb) = true := by simp [e2]
                  have HE2 := Lib.hid e2
                  clear e2
                  go_wp2_with fail
                  go_quiet (fail)
                  go_wp2_with fail
                  go_roundw
                  case rel => exact ⟨j + 1, by omega, by go_num, by rw [← HNA.out, ← HNB.out, HBN.out, if_pos (Or.inr HE2.out)], ndrewN hB3.out _⟩
                  case measure => simp [intOf]; omega
                · have b2 : (oj == nb) = false := by simp [e2]
                  have HE2 := Lib.hid e2
                  clear e2
                  go_wp2_with fail
                  go_quiet (fail)
                  go_wp2_with fail
                  go_roundw
                  case rel => exact ⟨j + 1, by omega, by go_num, by rw [← HNA.out, ← HNB.out, HBN.out, if_neg (fun q => q.elim HE.out HE2.out)], ndrewN hB3.out _⟩
                  case measure => simp [intOf]; omega
            · have htwo : ¬ (1 : Int) < Gd.both p.O RO (p.N (i * 2)) (p.N (i * 2 + 1)) j := by
                have := HTWO.out i hlt2 j hj
                rw [← HRO.out] at this
                omega
              have hs3 : p.nn ≤ 1048576 := by have := HS.out; unfold PgSmall at this; omega
              clear hbd
              go_wp2_with fail
              go_roundw
              case rel => exact ⟨i + 1, by omega, by go_num, hB3⟩
              case measure => simp [intOf]; omega
        · have hbk7 : Below w3.heap.size w3 w7 := HBK.out.trans (hB2.out.mono HBK.out.size)
          obtain ⟨gi, lb, hgi, cgi, agi, hlk, hnl⟩ := (HLS.out.below hbk7) k hlt
          subst hgi
          have HLB : Hid (w7.cell? ⟨gi, k, none⟩ = some (.slice lb (LN k) (CK k)) ∧ IsAt lb (LN k) (L k) w7 ∧ LN k ≤ CK k ∧ (lb = none → CK k = 0)) := ⟨cgi, agi, hlk, hnl⟩
          replace HBS := Lib.hid (nrow_below HBS.out hB2.out)
          replace HLG := Lib.hid (HLG.out.below hB2.out)
          have HX7 : Hid (w7.cell? ⟨gx, k, none⟩ = some (.slice xl p.on xc) ∧ IsAt xl p.on (Cy.ro p LN L k) w7) := ⟨(hB2.out.cell (World.block_lt_of_cell? _ _ HXC.out.1)).trans HXC.out.1, HXC.out.2.below hB2.out⟩
          replace HBK := Lib.hid hbk7
          clear hB2 hbk7 cgi agi hlk hnl HXC HTWO HBIT HRO
          obtain ⟨⟨p0, p1, p2⟩, _⟩ := rowN3 (nrow_below HBP.out HBK.out)
          obtain ⟨⟨s0, s1, s2⟩, _⟩ := rowN3 HBS.out
          obtain ⟨was, hwas⟩ : ∃ x, x = (Cy.st p LN L k).fl := ⟨_, rfl⟩
          rw [← hwas] at s2
          obtain ⟨xx, hxx⟩ : ∃ x, x = Cy.ans p (Cy.st p LN L k) (LN k) (L k) := ⟨_, rfl⟩
          have HFA : Hid (was = true → xx.s.fl = true ∧ ∀ j, Cy.ro p LN L k j = 0) := fun e => by rw [hxx]; exact HFALL.out (hwas.symm.trans e)
          have HNN : Hid (xx.n = p.on) := by show _ = _; rw [hxx]; exact HANS.out
          have HRO2 : Hid (xx.O = Cy.ro p LN L k) := by show _ = _; rw [hxx]; rfl
          have HST : Hid (Cy.st p LN L (k + 1) = xx.s) := by show _ = _; rw [hxx]; rfl
          have HXX := Lib.hid hxx
          have HI := Lib.hid hi
          have hinn : ¬ (i : Int) < (p.nn : Int) := by omega
          clear hwas hxx HFALL HANS s0 s1
          go_wp2_with fail
          clear p0 p1 p2 s2 hinn
          go_cut [13] (fun q Wq => ∃ xb aN kN bN lN cN qN, q = .pointer (some ⟨xb, 0, none⟩) ∧ Hid (Below w7.heap.size w7 Wq ∧ Wq.rowIs xb 38 5 (rowN (coL xx aN kN bN lN cN qN)) ∧ CoO 2 w7.heap.size xx.s.n kN xx.s.m lN xx.n qN aN bN cN xx.s.T xx.s.C xx.O Wq ∧ w7.heap.size ≤ xb))
          case first =>
            refine wp_region_held_drew (S := fun V => Below w7.heap.size w7 V) (by kernel_rfl) (Below.refl _ _).drew (fun hHeld => ?_)
            obtain ⟨Z, hZ⟩ : ∃ Z, Z = w7.drew := ⟨_, rfl⟩
            rw [← hZ] at hHeld ⊢
            clear hZ
            refine take_do (i := 0) (v := (pgV p la lk fa fk wa wk)) rfl (by kernel_rfl) (by kernel_rfl) (by kernel_rfl) (fun _ _ _ h => h) (by rfl) ?_ (by assumption) ?_
            · intro w hSw
              obtain ⟨⟨a0, a1, a2⟩, _⟩ := rowN3 (nrow_below (nrow_below HBP.out HBK.out) hSw)
              go_simp
            simp only [Act.put, List.setIfInBounds_toArray, List.set_cons_zero, List.set_cons_succ]
            refine take_do (i := 1) (v := (lgV (Cy.st p LN L k) sa sk sb sl)) rfl (by kernel_rfl) (by kernel_rfl) (by kernel_rfl) (fun _ _ _ h => h) (by rfl) ?_ (by assumption) ?_
            · intro w hSw
              obtain ⟨⟨a0, a1, a2⟩, _⟩ := rowN3 (nrow_below HBS.out hSw)
              go_simp
            simp only [Act.put, List.setIfInBounds_toArray, List.set_cons_zero, List.set_cons_succ]
            refine take_do (i := 2) (v := (.slice (some ⟨gi, 0, none⟩) N ca)) rfl (by kernel_rfl) (by kernel_rfl) (by kernel_rfl) (fun _ _ _ h => h) (by rfl) ?_ (by assumption) ?_
            · intro w hSw
              go_simp
            simp only [Act.put, List.setIfInBounds_toArray, List.set_cons_zero, List.set_cons_succ]
            refine take_do (i := 3) (v := (.int .i64 k)) rfl (by kernel_rfl) (by kernel_rfl) (by kernel_rfl) (fun _ _ _ h => h) (by rfl) ?_ (by assumption) ?_
            · intro w hSw
              go_simp
            simp only [Act.put, List.setIfInBounds_toArray, List.set_cons_zero, List.set_cons_succ]
            refine take_do (i := 4) (v := (.pointer (some ⟨gi, k, none⟩))) rfl (by kernel_rfl) (by kernel_rfl) (by kernel_rfl) (fun _ _ _ h => h) (by rfl) ?_ (by assumption) ?_
            · intro w hSw
              go_simp
            simp only [Act.put, List.setIfInBounds_toArray, List.set_cons_zero, List.set_cons_succ]
            refine take_do (i := 5) (v := (.slice lb (LN k) (CK k))) rfl (by kernel_rfl) (by kernel_rfl) (by kernel_rfl) (fun _ _ _ h => h) (by rfl) ?_ (by assumption) ?_
            · intro w hSw
              have r0 := (hSw.cell (World.block_lt_of_cell? _ _ HLB.out.1)).trans HLB.out.1
              go_simp
            simp only [Act.put, List.setIfInBounds_toArray, List.set_cons_zero, List.set_cons_succ]
            refine wpAnyH_ready (rs := [6, 8]) (by kernel_rfl) (by simp) (AllReadyH.cons (at_drop (i := 6) rfl) (fun K2 hK => ?_) (AllReadyH.cons (at_drop (i := 8) rfl) (fun K2 hK => ?_) (AllReadyH.nil)))
            · go_simp
              refine (gdcopy_any lb (LN k) (CK k) (L k) _ (HLB.out.2.1.below hHeld) (by have := HFIT.out.1; omega) HLB.out.2.2.2).mono ?_
              rintro e Z1 ⟨⟨gc, cc, rfl, glo, gat, gcc⟩, hb⟩
              have HGC := Lib.hid gat
              have HCC := Lib.hid gcc
              clear gat glo gcc
              go_wp2_with fail
              refine hK.out _ _ (hHeld.trans (hb.mono hHeld.size)) (fun hHeld2 => ?_)
              clear hK hHeld hb
              have hHeld := hHeld2
              clear hHeld2
              refine wpAnyH_ready (rs := [7, 8]) (by kernel_rfl) (by simp) (AllReadyH.cons (at_drop (i := 7) rfl) (fun K2 hK => ?_) (AllReadyH.cons (at_drop (i := 8) rfl) (fun K2 hK => ?_) (AllReadyH.nil)))
              · go_simp
                refine (implCycle_any p la lk fa fk wa wk (Cy.st p LN L k) sa sk sb sl (some ⟨gc, 0, none⟩) (LN k) cc (L k) _ ((HP.out.below HBK.out).below hHeld) HS.out (HLG.out.ls.below hHeld) (run_small HS.out k) HGC.out (by have := HFIT.out.1; omega) HCC.out ((HG.out.below HBK.out).below hHeld)).mono ?_
                rintro e Z2 ⟨hE, hb⟩
                rw [← HXX.out] at hE
                obtain ⟨aN, kN, bN, lN, cN, qN, rfl, hO⟩ := hE
                have HOW := Lib.hid (hO.low hHeld.size)
                clear hO
                have HGC2 := Lib.hid (HGC.out.below hb)
                clear HGC
                have HGC := HGC2
                clear HGC2
                go_wp2_with fail
                refine hK.out _ _ (hHeld.trans (hb.mono hHeld.size)) (fun hHeld2 => ?_)
                clear hK hHeld hb
                have hHeld := hHeld2
                clear hHeld2
                refine wpAnyH_ready (rs := [8]) (by kernel_rfl) (by simp) (AllReadyH.cons (at_drop (i := 8) rfl) (fun K2 hK => ?_) (AllReadyH.nil))
                obtain ⟨Z3, hZ3⟩ : ∃ Z3, Z3 = Z2.alloc (.cells #[.slice none 0 0, .slice none 0 0, .bool false, .slice none 0 0, .int .i64 0] 38) := ⟨_, rfl⟩
                have hb : Below Z2.heap.size Z2 Z3 := by rw [hZ3]; exact nbel_alloc _ _
                have HV : Hid (Z3.rowIs Z2.heap.size 38 5 (rowN [.slice none 0 0, .slice none 0 0, .bool false, .slice none 0 0, .int .i64 0])) := by show World.rowIs _ _ _ _ _; rw [hZ3]; exact rowN_alloc _ _ _
                obtain ⟨xb, hxb⟩ : ∃ xb, xb = Z2.heap.size := ⟨_, rfl⟩
                rw [← hxb] at HV
                have HXL : Hid (w7.heap.size ≤ xb) := by show _ ≤ _; rw [hxb]; exact hHeld.size
                have HGC2 := Lib.hid (HGC.out.below hb)
                clear HGC
                have HGC := HGC2
                clear HGC2
                have HOW2 := Lib.hid (HOW.out.below hb)
                clear HOW
                have HOW := HOW2
                clear HOW2
                go_simp
                rw [← hZ3, ← hxb]
                clear hZ3
                refine hK.out _ _ (hHeld.trans (hb.mono hHeld.size)) (fun hHeld2 => ?_)
                clear hK hHeld hxb hb
                have hHeld := hHeld2
                clear hHeld2
                have zr := cyput5 HV.out rfl (.slice aN xx.s.n kN) (.slice bN xx.s.m lN) (.bool xx.s.fl) (.slice cN xx.n qN) (.int .i64 xx.cd)
                have zk := fun (k : Nat) (hk : k ≠ xb) => cyblk5 (W := Z3) hk (.slice aN xx.s.n kN) (.slice bN xx.s.m lN) (.bool xx.s.fl) (.slice cN xx.n qN) (.int .i64 xx.cd)
                have zb := cybel5 (g := xb) hHeld HXL.out (.slice aN xx.s.n kN) (.slice bN xx.s.m lN) (.bool xx.s.fl) (.slice cN xx.n qN) (.int .i64 xx.cd)
                obtain ⟨⟨o0, o1, o2, o3, o4⟩, z0, z1, z2, z3, z4⟩ := rowN5 HV.out
                have hol := HV.out.lt
                refine take_call (i := 9) rfl (by kernel_rfl) (fun K2 hK => ?_)
                go_simp
                clear o0 o1 o2 o3 o4 z0 z1 z2 z3 z4
                have zo : CoO 2 w7.heap.size xx.s.n kN xx.s.m lN xx.n qN aN bN cN xx.s.T xx.s.C xx.O _ := HOW.out.keep (fun j e _ _ => zk j (fun e2 => by rw [e2] at e; exact HOW.out.neR HV.out (by decide) e))
                generalize (((((Z3).setCell ⟨xb, 0, none⟩ (.slice aN xx.s.n kN)).setCell ⟨xb, 1, none⟩ (.slice bN xx.s.m lN)).setCell ⟨xb, 2, none⟩ (.bool xx.s.fl)).setCell ⟨xb, 3, none⟩ (.slice cN xx.n qN)).setCell ⟨xb, 4, none⟩ (.int .i64 xx.cd) = Y at zr zk zb zo ⊢
                refine hK.out _ _ zb (fun hHeld2 => ?_)
                clear hK hHeld hHeld2
                refine wpAnyH_done (by kernel_rfl) ?_ _
                have HPR : Hid (Below w7.heap.size w7 Y ∧ Y.rowIs xb 38 5 (rowN (coL xx aN kN bN lN cN qN)) ∧ CoO 2 w7.heap.size xx.s.n kN xx.s.m lN xx.n qN aN bN cN xx.s.T xx.s.C xx.O Y ∧ w7.heap.size ≤ xb) := ⟨zb, zr, zo, HXL.out⟩
                clear zo
                clear zr zk zb
                go_wp2_with fail
                go_meet
                case rel => exact ⟨xb, aN, kN, bN, lN, cN, qN, rfl, HPR⟩
              · obtain ⟨Z2, hZ2⟩ : ∃ Z2, Z2 = Z1.alloc (.cells #[.slice none 0 0, .slice none 0 0, .bool false, .slice none 0 0, .int .i64 0] 38) := ⟨_, rfl⟩
                have hb : Below Z1.heap.size Z1 Z2 := by rw [hZ2]; exact nbel_alloc _ _
                have HV : Hid (Z2.rowIs Z1.heap.size 38 5 (rowN [.slice none 0 0, .slice none 0 0, .bool false, .slice none 0 0, .int .i64 0])) := by show World.rowIs _ _ _ _ _; rw [hZ2]; exact rowN_alloc _ _ _
                obtain ⟨xb, hxb⟩ : ∃ xb, xb = Z1.heap.size := ⟨_, rfl⟩
                rw [← hxb] at HV
                have HXL : Hid (w7.heap.size ≤ xb) := by show _ ≤ _; rw [hxb]; exact hHeld.size
                have HGC2 := Lib.hid (HGC.out.below hb)
                clear HGC
                have HGC := HGC2
                clear HGC2
                go_simp
                rw [← hZ2, ← hxb]
                clear hZ2
                refine hK.out _ _ (hHeld.trans (hb.mono hHeld.size)) (fun hHeld2 => ?_)
                clear hK hHeld hxb hb
                have hHeld := hHeld2
                clear hHeld2
                refine wpAnyH_ready (rs := [7]) (by kernel_rfl) (by simp) (AllReadyH.cons (at_drop (i := 7) rfl) (fun K2 hK => ?_) (AllReadyH.nil))
                go_simp
                refine (implCycle_any p la lk fa fk wa wk (Cy.st p LN L k) sa sk sb sl (some ⟨gc, 0, none⟩) (LN k) cc (L k) _ ((HP.out.below HBK.out).below hHeld) HS.out (HLG.out.ls.below hHeld) (run_small HS.out k) HGC.out (by have := HFIT.out.1; omega) HCC.out ((HG.out.below HBK.out).below hHeld)).mono ?_
                rintro e Z3 ⟨hE, hb⟩
                rw [← HXX.out] at hE
                obtain ⟨aN, kN, bN, lN, cN, qN, rfl, hO⟩ := hE
                have HOW := Lib.hid (hO.low hHeld.size)
                clear hO
                have HV2 := Lib.hid (nrow_below HV.out hb)
                clear HV
                have HV := HV2
                clear HV2
                have HGC2 := Lib.hid (HGC.out.below hb)
                clear HGC
                have HGC := HGC2
                clear HGC2
                go_wp2_with fail
                refine hK.out _ _ (hHeld.trans (hb.mono hHeld.size)) (fun hHeld2 => ?_)
                clear hK hHeld hb
                have hHeld := hHeld2
                clear hHeld2
                have zr := cyput5 HV.out rfl (.slice aN xx.s.n kN) (.slice bN xx.s.m lN) (.bool xx.s.fl) (.slice cN xx.n qN) (.int .i64 xx.cd)
                have zk := fun (k : Nat) (hk : k ≠ xb) => cyblk5 (W := Z3) hk (.slice aN xx.s.n kN) (.slice bN xx.s.m lN) (.bool xx.s.fl) (.slice cN xx.n qN) (.int .i64 xx.cd)
                have zb := cybel5 (g := xb) hHeld HXL.out (.slice aN xx.s.n kN) (.slice bN xx.s.m lN) (.bool xx.s.fl) (.slice cN xx.n qN) (.int .i64 xx.cd)
                obtain ⟨⟨o0, o1, o2, o3, o4⟩, z0, z1, z2, z3, z4⟩ := rowN5 HV.out
                have hol := HV.out.lt
                refine take_call (i := 9) rfl (by kernel_rfl) (fun K2 hK => ?_)
                go_simp
                clear o0 o1 o2 o3 o4 z0 z1 z2 z3 z4
                have zo : CoO 2 w7.heap.size xx.s.n kN xx.s.m lN xx.n qN aN bN cN xx.s.T xx.s.C xx.O _ := HOW.out.keep (fun j e _ _ => zk j (fun e2 => by rw [e2] at e; exact HOW.out.neR HV.out (by decide) e))
                generalize (((((Z3).setCell ⟨xb, 0, none⟩ (.slice aN xx.s.n kN)).setCell ⟨xb, 1, none⟩ (.slice bN xx.s.m lN)).setCell ⟨xb, 2, none⟩ (.bool xx.s.fl)).setCell ⟨xb, 3, none⟩ (.slice cN xx.n qN)).setCell ⟨xb, 4, none⟩ (.int .i64 xx.cd) = Y at zr zk zb zo ⊢
                refine hK.out _ _ zb (fun hHeld2 => ?_)
                clear hK hHeld hHeld2
                refine wpAnyH_done (by kernel_rfl) ?_ _
                have HPR : Hid (Below w7.heap.size w7 Y ∧ Y.rowIs xb 38 5 (rowN (coL xx aN kN bN lN cN qN)) ∧ CoO 2 w7.heap.size xx.s.n kN xx.s.m lN xx.n qN aN bN cN xx.s.T xx.s.C xx.O Y ∧ w7.heap.size ≤ xb) := ⟨zb, zr, zo, HXL.out⟩
                clear zo
                clear zr zk zb
                go_wp2_with fail
                go_meet
                case rel => exact ⟨xb, aN, kN, bN, lN, cN, qN, rfl, HPR⟩
            · obtain ⟨Z1, hZ1⟩ : ∃ Z1, Z1 = Z.alloc (.cells #[.slice none 0 0, .slice none 0 0, .bool false, .slice none 0 0, .int .i64 0] 38) := ⟨_, rfl⟩
              have hb : Below Z.heap.size Z Z1 := by rw [hZ1]; exact nbel_alloc _ _
              have HV : Hid (Z1.rowIs Z.heap.size 38 5 (rowN [.slice none 0 0, .slice none 0 0, .bool false, .slice none 0 0, .int .i64 0])) := by show World.rowIs _ _ _ _ _; rw [hZ1]; exact rowN_alloc _ _ _
              obtain ⟨xb, hxb⟩ : ∃ xb, xb = Z.heap.size := ⟨_, rfl⟩
              rw [← hxb] at HV
              have HXL : Hid (w7.heap.size ≤ xb) := by show _ ≤ _; rw [hxb]; exact hHeld.size
              go_simp
              rw [← hZ1, ← hxb]
              clear hZ1
              refine hK.out _ _ (hHeld.trans (hb.mono hHeld.size)) (fun hHeld2 => ?_)
              clear hK hHeld hxb hb
              have hHeld := hHeld2
              clear hHeld2
              refine wpAnyH_ready (rs := [6]) (by kernel_rfl) (by simp) (AllReadyH.cons (at_drop (i := 6) rfl) (fun K2 hK => ?_) (AllReadyH.nil))
              go_simp
              refine (gdcopy_any lb (LN k) (CK k) (L k) _ (HLB.out.2.1.below hHeld) (by have := HFIT.out.1; omega) HLB.out.2.2.2).mono ?_
              rintro e Z2 ⟨⟨gc, cc, rfl, glo, gat, gcc⟩, hb⟩
              have HGC := Lib.hid gat
              have HCC := Lib.hid gcc
              clear gat glo gcc
              have HV2 := Lib.hid (nrow_below HV.out hb)
              clear HV
              have HV := HV2
              clear HV2
              go_wp2_with fail
              refine hK.out _ _ (hHeld.trans (hb.mono hHeld.size)) (fun hHeld2 => ?_)
              clear hK hHeld hb
              have hHeld := hHeld2
              clear hHeld2
              refine wpAnyH_ready (rs := [7]) (by kernel_rfl) (by simp) (AllReadyH.cons (at_drop (i := 7) rfl) (fun K2 hK => ?_) (AllReadyH.nil))
              go_simp
              refine (implCycle_any p la lk fa fk wa wk (Cy.st p LN L k) sa sk sb sl (some ⟨gc, 0, none⟩) (LN k) cc (L k) _ ((HP.out.below HBK.out).below hHeld) HS.out (HLG.out.ls.below hHeld) (run_small HS.out k) HGC.out (by have := HFIT.out.1; omega) HCC.out ((HG.out.below HBK.out).below hHeld)).mono ?_
              rintro e Z3 ⟨hE, hb⟩
              rw [← HXX.out] at hE
              obtain ⟨aN, kN, bN, lN, cN, qN, rfl, hO⟩ := hE
              have HOW := Lib.hid (hO.low hHeld.size)
              clear hO
              have HV2 := Lib.hid (nrow_below HV.out hb)
              clear HV
              have HV := HV2
              clear HV2
              have HGC2 := Lib.hid (HGC.out.below hb)
              clear HGC
              have HGC := HGC2
              clear HGC2
              go_wp2_with fail
              refine hK.out _ _ (hHeld.trans (hb.mono hHeld.size)) (fun hHeld2 => ?_)
              clear hK hHeld hb
              have hHeld := hHeld2
              clear hHeld2
              have zr := cyput5 HV.out rfl (.slice aN xx.s.n kN) (.slice bN xx.s.m lN) (.bool xx.s.fl) (.slice cN xx.n qN) (.int .i64 xx.cd)
              have zk := fun (k : Nat) (hk : k ≠ xb) => cyblk5 (W := Z3) hk (.slice aN xx.s.n kN) (.slice bN xx.s.m lN) (.bool xx.s.fl) (.slice cN xx.n qN) (.int .i64 xx.cd)
              have zb := cybel5 (g := xb) hHeld HXL.out (.slice aN xx.s.n kN) (.slice bN xx.s.m lN) (.bool xx.s.fl) (.slice cN xx.n qN) (.int .i64 xx.cd)
              obtain ⟨⟨o0, o1, o2, o3, o4⟩, z0, z1, z2, z3, z4⟩ := rowN5 HV.out
              have hol := HV.out.lt
              refine take_call (i := 9) rfl (by kernel_rfl) (fun K2 hK => ?_)
              go_simp
              clear o0 o1 o2 o3 o4 z0 z1 z2 z3 z4
              have zo : CoO 2 w7.heap.size xx.s.n kN xx.s.m lN xx.n qN aN bN cN xx.s.T xx.s.C xx.O _ := HOW.out.keep (fun j e _ _ => zk j (fun e2 => by rw [e2] at e; exact HOW.out.neR HV.out (by decide) e))
              generalize (((((Z3).setCell ⟨xb, 0, none⟩ (.slice aN xx.s.n kN)).setCell ⟨xb, 1, none⟩ (.slice bN xx.s.m lN)).setCell ⟨xb, 2, none⟩ (.bool xx.s.fl)).setCell ⟨xb, 3, none⟩ (.slice cN xx.n qN)).setCell ⟨xb, 4, none⟩ (.int .i64 xx.cd) = Y at zr zk zb zo ⊢
              refine hK.out _ _ zb (fun hHeld2 => ?_)
              clear hK hHeld hHeld2
              refine wpAnyH_done (by kernel_rfl) ?_ _
              have HPR : Hid (Below w7.heap.size w7 Y ∧ Y.rowIs xb 38 5 (rowN (coL xx aN kN bN lN cN qN)) ∧ CoO 2 w7.heap.size xx.s.n kN xx.s.m lN xx.n qN aN bN cN xx.s.T xx.s.C xx.O Y ∧ w7.heap.size ≤ xb) := ⟨zb, zr, zo, HXL.out⟩
              clear zo
              clear zr zk zb
              go_wp2_with fail
              go_meet
              case rel => exact ⟨xb, aN, kN, bN, lN, cN, qN, rfl, HPR⟩
          case rest =>
            obtain ⟨xb, aN, kN, bN, lN, cN, qN, rfl, HC⟩ := hcut
            obtain ⟨wz, hwz⟩ : ∃ Z, Z = wc := ⟨_, rfl⟩
            rw [← hwz] at HC ⊢
            clear hwz
            have HOA : Hid (IsAt cN p.on (Cy.ro p LN L k) wz) := by
              have := HC.out.2.2.1.o.at_
              rw [HRO2.out, HNN.out] at this
              exact this
            have HXZ : Hid (wz.cell? ⟨gx, k, none⟩ = some (.slice xl p.on xc) ∧ IsAt xl p.on (Cy.ro p LN L k) wz) := ⟨((HC.out.1).cell (World.block_lt_of_cell? _ _ HX7.out.1)).trans HX7.out.1, HX7.out.2.below HC.out.1⟩
            go_wp2_with fail
            go_cut [138] from 114 to 138 (fun q Wq => q = .bool false ∧ Hid (Below wz.heap.size wz Wq))
            case first =>
              refine wp_region_held_drew (S := fun V => Below wz.heap.size wz V) (by kernel_rfl) (Below.refl _ _).drew (fun hHeld => ?_)
              refine take_do (i := 0) (v := (.pointer (some ⟨xb, 3, none⟩))) rfl (by kernel_rfl) (by kernel_rfl) (by kernel_rfl) (fun _ _ _ h => h) (by rfl) ?_ (by assumption) ?_
              · intro w hSw
                go_simp
              simp only [Act.put, List.setIfInBounds_toArray, List.set_cons_zero, List.set_cons_succ]
              refine take_do (i := 1) (v := (.slice cN p.on qN)) rfl (by kernel_rfl) (by kernel_rfl) (by kernel_rfl) (fun _ _ _ h => h) (by rfl) ?_ (by assumption) ?_
              · intro w hSw
                obtain ⟨⟨y0, y1, y2, y3, y4⟩, _⟩ := rowN5 (nrow_below HC.out.2.1 hSw)
                rw [HNN.out] at y3
                go_simp
              simp only [Act.put, List.setIfInBounds_toArray, List.set_cons_zero, List.set_cons_succ]
              refine take_do (i := 2) (v := (.slice (some ⟨gx, 0, none⟩) N xk)) rfl (by kernel_rfl) (by kernel_rfl) (by kernel_rfl) (fun _ _ _ h => h) (by rfl) ?_ (by assumption) ?_
              · intro w hSw
                go_simp
              simp only [Act.put, List.setIfInBounds_toArray, List.set_cons_zero, List.set_cons_succ]
              refine take_do (i := 3) (v := (.int .i64 k)) rfl (by kernel_rfl) (by kernel_rfl) (by kernel_rfl) (fun _ _ _ h => h) (by rfl) ?_ (by assumption) ?_
              · intro w hSw
                go_simp
              simp only [Act.put, List.setIfInBounds_toArray, List.set_cons_zero, List.set_cons_succ]
              refine take_do (i := 4) (v := (.pointer (some ⟨gx, k, none⟩))) rfl (by kernel_rfl) (by kernel_rfl) (by kernel_rfl) (fun _ _ _ h => h) (by rfl) ?_ (by assumption) ?_
              · intro w hSw
                go_simp
              simp only [Act.put, List.setIfInBounds_toArray, List.set_cons_zero, List.set_cons_succ]
              refine take_do (i := 5) (v := (.slice xl p.on xc)) rfl (by kernel_rfl) (by kernel_rfl) (by kernel_rfl) (fun _ _ _ h => h) (by rfl) ?_ (by assumption) ?_
              · intro w hSw
                have r0 := (hSw.cell (World.block_lt_of_cell? _ _ HXZ.out.1)).trans HXZ.out.1
                go_simp
              simp only [Act.put, List.setIfInBounds_toArray, List.set_cons_zero, List.set_cons_succ]
              refine take_call (i := 6) rfl (by kernel_rfl) (fun K2 hK => ?_)
              go_simp
              refine (nsame_same _ _ p.on _ _ (Cy.ro p LN L k) _ ((HOA.out).below hHeld) (HXZ.out.2.below hHeld) (by have := HS.out.2.1; omega)).mono ?_
              rintro e Z1 ⟨rfl, hb⟩
              go_wp2_with fail
              refine hK.out _ _ (hHeld.trans (hb.mono hHeld.size)) (fun hHeld2 => ?_)
              clear hK hHeld hb
              have hHeld := hHeld2
              clear hHeld2
              refine take_do (i := 7) (v := (.bool false)) rfl (by kernel_rfl) (by kernel_rfl) (by kernel_rfl) (fun _ _ _ h => h) (by rfl) ?_ (by assumption) ?_
              · intro w hSw
                go_simp
              simp only [Act.put, List.setIfInBounds_toArray, List.set_cons_zero, List.set_cons_succ]
              refine take_do (i := 8) (v := (.bool false)) rfl (by kernel_rfl) (by kernel_rfl) (by kernel_rfl) (fun _ _ _ h => h) (by rfl) ?_ (by assumption) ?_
              · intro w hSw
                go_simp
              simp only [Act.put, List.setIfInBounds_toArray, List.set_cons_zero, List.set_cons_succ]
              cases was with
              | false =>
                refine take_do (i := 9) (v := (.bool false)) rfl (by kernel_rfl) (by kernel_rfl) (by kernel_rfl) (fun _ _ _ h => h) (by rfl) ?_ (by assumption) ?_
                · intro w hSw
                  go_simp
                simp only [Act.put, List.setIfInBounds_toArray, List.set_cons_zero, List.set_cons_succ]
                refine take_do (i := 10) (v := (.bool false)) rfl (by kernel_rfl) (by kernel_rfl) (by kernel_rfl) (fun _ _ _ h => h) (by rfl) ?_ (by assumption) ?_
                · intro w hSw
                  go_simp
                simp only [Act.put, List.setIfInBounds_toArray, List.set_cons_zero, List.set_cons_succ]
                refine take_skip (i := 11) rfl (by kernel_rfl) (by kernel_rfl) (by kernel_rfl) (fun _ _ _ h => h) (by rfl) (by assumption) ?_
                simp only [Act.put, List.setIfInBounds_toArray, List.set_cons_zero, List.set_cons_succ]
                refine take_skip (i := 12) rfl (by kernel_rfl) (by kernel_rfl) (by kernel_rfl) (fun _ _ _ h => h) (by rfl) (by assumption) ?_
                simp only [Act.put, List.setIfInBounds_toArray, List.set_cons_zero, List.set_cons_succ]
                refine take_skip (i := 13) rfl (by kernel_rfl) (by kernel_rfl) (by kernel_rfl) (fun _ _ _ h => h) (by rfl) (by assumption) ?_
                simp only [Act.put, List.setIfInBounds_toArray, List.set_cons_zero, List.set_cons_succ]
                refine take_skip (i := 14) rfl (by kernel_rfl) (by kernel_rfl) (by kernel_rfl) (fun _ _ _ h => h) (by rfl) (by assumption) ?_
                simp only [Act.put, List.setIfInBounds_toArray, List.set_cons_zero, List.set_cons_succ]
                refine take_skip (i := 15) rfl (by kernel_rfl) (by kernel_rfl) (by kernel_rfl) (fun _ _ _ h => h) (by rfl) (by assumption) ?_
                simp only [Act.put, List.setIfInBounds_toArray, List.set_cons_zero, List.set_cons_succ]
                refine take_skip (i := 16) rfl (by kernel_rfl) (by kernel_rfl) (by kernel_rfl) (fun _ _ _ h => h) (by rfl) (by assumption) ?_
                simp only [Act.put, List.setIfInBounds_toArray, List.set_cons_zero, List.set_cons_succ]
                refine take_skip (i := 17) rfl (by kernel_rfl) (by kernel_rfl) (by kernel_rfl) (fun _ _ _ h => h) (by rfl) (by assumption) ?_
                simp only [Act.put, List.setIfInBounds_toArray, List.set_cons_zero, List.set_cons_succ]
                refine take_skip (i := 18) rfl (by kernel_rfl) (by kernel_rfl) (by kernel_rfl) (fun _ _ _ h => h) (by rfl) (by assumption) ?_
                simp only [Act.put, List.setIfInBounds_toArray, List.set_cons_zero, List.set_cons_succ]
                refine take_skip (i := 19) rfl (by kernel_rfl) (by kernel_rfl) (by kernel_rfl) (fun _ _ _ h => h) (by rfl) (by assumption) ?_
                simp only [Act.put, List.setIfInBounds_toArray, List.set_cons_zero, List.set_cons_succ]
                refine take_skip (i := 20) rfl (by kernel_rfl) (by kernel_rfl) (by kernel_rfl) (fun _ _ _ h => h) (by rfl) (by assumption) ?_
                simp only [Act.put, List.setIfInBounds_toArray, List.set_cons_zero, List.set_cons_succ]
                refine take_skip (i := 21) rfl (by kernel_rfl) (by kernel_rfl) (by kernel_rfl) (fun _ _ _ h => h) (by rfl) (by assumption) ?_
                simp only [Act.put, List.setIfInBounds_toArray, List.set_cons_zero, List.set_cons_succ]
                refine take_skip (i := 22) rfl (by kernel_rfl) (by kernel_rfl) (by kernel_rfl) (fun _ _ _ h => h) (by rfl) (by assumption) ?_
                simp only [Act.put, List.setIfInBounds_toArray, List.set_cons_zero, List.set_cons_succ]
                refine take_do (i := 23) (v := (.bool false)) rfl (by kernel_rfl) (by kernel_rfl) (by kernel_rfl) (fun _ _ _ h => h) (by rfl) ?_ (by assumption) ?_
                · intro w hSw
                  go_simp
                simp only [Act.put, List.setIfInBounds_toArray, List.set_cons_zero, List.set_cons_succ]
                refine take_do (i := 24) (v := (.bool false)) rfl (by kernel_rfl) (by kernel_rfl) (by kernel_rfl) (fun _ _ _ h => h) (by rfl) ?_ (by assumption) ?_
                · intro w hSw
                  go_simp
                simp only [Act.put, List.setIfInBounds_toArray, List.set_cons_zero, List.set_cons_succ]
                refine wpAnyH_done (by kernel_rfl) ?_ _
                have HB9 := Lib.hid hHeld
                clear hHeld
                go_wp2_with fail
                go_meet
                case rel => exact ⟨rfl, HB9⟩
              | true =>
                obtain ⟨hf1, hf2⟩ := HFA.out rfl
                refine take_do (i := 9) (v := (.bool true)) rfl (by kernel_rfl) (by kernel_rfl) (by kernel_rfl) (fun _ _ _ h => h) (by rfl) ?_ (by assumption) ?_
                · intro w hSw
                  go_simp
                simp only [Act.put, List.setIfInBounds_toArray, List.set_cons_zero, List.set_cons_succ]
                refine take_do (i := 10) (v := (.bool true)) rfl (by kernel_rfl) (by kernel_rfl) (by kernel_rfl) (fun _ _ _ h => h) (by rfl) ?_ (by assumption) ?_
                · intro w hSw
                  go_simp
                simp only [Act.put, List.setIfInBounds_toArray, List.set_cons_zero, List.set_cons_succ]
                refine take_do (i := 11) (v := (.pointer (some ⟨xb, 0, none⟩))) rfl (by kernel_rfl) (by kernel_rfl) (by kernel_rfl) (fun _ _ _ h => h) (by rfl) ?_ (by assumption) ?_
                · intro w hSw
                  go_simp
                simp only [Act.put, List.setIfInBounds_toArray, List.set_cons_zero, List.set_cons_succ]
                refine take_do (i := 12) (v := (.pointer (some ⟨xb, 2, none⟩))) rfl (by kernel_rfl) (by kernel_rfl) (by kernel_rfl) (fun _ _ _ h => h) (by rfl) ?_ (by assumption) ?_
                · intro w hSw
                  go_simp
                simp only [Act.put, List.setIfInBounds_toArray, List.set_cons_zero, List.set_cons_succ]
                refine take_do (i := 13) (v := (.bool true)) rfl (by kernel_rfl) (by kernel_rfl) (by kernel_rfl) (fun _ _ _ h => h) (by rfl) ?_ (by assumption) ?_
                · intro w hSw
                  obtain ⟨⟨y0, y1, y2, y3, y4⟩, _⟩ := rowN5 (nrow_below HC.out.2.1 hSw)
                  rw [HNN.out] at y3
                  rw [hf1] at y2
                  go_simp
                simp only [Act.put, List.setIfInBounds_toArray, List.set_cons_zero, List.set_cons_succ]
                refine take_do (i := 14) (v := (.bool false)) rfl (by kernel_rfl) (by kernel_rfl) (by kernel_rfl) (fun _ _ _ h => h) (by rfl) ?_ (by assumption) ?_
                · intro w hSw
                  go_simp
                simp only [Act.put, List.setIfInBounds_toArray, List.set_cons_zero, List.set_cons_succ]
                refine take_do (i := 15) (v := (.bool false)) rfl (by kernel_rfl) (by kernel_rfl) (by kernel_rfl) (fun _ _ _ h => h) (by rfl) ?_ (by assumption) ?_
                · intro w hSw
                  go_simp
                simp only [Act.put, List.setIfInBounds_toArray, List.set_cons_zero, List.set_cons_succ]
                refine take_do (i := 16) (v := (.slice (some ⟨gx, 0, none⟩) N xk)) rfl (by kernel_rfl) (by kernel_rfl) (by kernel_rfl) (fun _ _ _ h => h) (by rfl) ?_ (by assumption) ?_
                · intro w hSw
                  go_simp
                simp only [Act.put, List.setIfInBounds_toArray, List.set_cons_zero, List.set_cons_succ]
                refine take_do (i := 17) (v := (.int .i64 k)) rfl (by kernel_rfl) (by kernel_rfl) (by kernel_rfl) (fun _ _ _ h => h) (by rfl) ?_ (by assumption) ?_
                · intro w hSw
                  go_simp
                simp only [Act.put, List.setIfInBounds_toArray, List.set_cons_zero, List.set_cons_succ]
                refine take_do (i := 18) (v := (.pointer (some ⟨gx, k, none⟩))) rfl (by kernel_rfl) (by kernel_rfl) (by kernel_rfl) (fun _ _ _ h => h) (by rfl) ?_ (by assumption) ?_
                · intro w hSw
                  go_simp
                simp only [Act.put, List.setIfInBounds_toArray, List.set_cons_zero, List.set_cons_succ]
                refine take_do (i := 19) (v := (.slice xl p.on xc)) rfl (by kernel_rfl) (by kernel_rfl) (by kernel_rfl) (fun _ _ _ h => h) (by rfl) ?_ (by assumption) ?_
                · intro w hSw
                  have r0 := (hSw.cell (World.block_lt_of_cell? _ _ HXZ.out.1)).trans HXZ.out.1
                  go_simp
                simp only [Act.put, List.setIfInBounds_toArray, List.set_cons_zero, List.set_cons_succ]
                refine take_call (i := 20) rfl (by kernel_rfl) (fun K2 hK => ?_)
                go_simp
                refine (gdsum_any _ p.on _ (Cy.ro p LN L k) _ (HXZ.out.2.below hHeld).in_ (by have := hon; omega) (fun j _ => by rw [hf2 j]; omega)).mono ?_
                rintro e Z2 ⟨rfl, rfl⟩
                rw [Gd.sum_zero (n := p.on) (fun j _ => hf2 j) p.on (Nat.le_refl _)]
                go_wp2_with fail
                refine hK.out _ _ hHeld (fun hHeld2 => ?_)
                clear hK hHeld2
                refine take_do (i := 21) (v := (.bool false)) rfl (by kernel_rfl) (by kernel_rfl) (by kernel_rfl) (fun _ _ _ h => h) (by rfl) ?_ (by assumption) ?_
                · intro w hSw
                  go_simp
                simp only [Act.put, List.setIfInBounds_toArray, List.set_cons_zero, List.set_cons_succ]
                refine take_do (i := 22) (v := (.bool false)) rfl (by kernel_rfl) (by kernel_rfl) (by kernel_rfl) (fun _ _ _ h => h) (by rfl) ?_ (by assumption) ?_
                · intro w hSw
                  go_simp
                simp only [Act.put, List.setIfInBounds_toArray, List.set_cons_zero, List.set_cons_succ]
                refine take_do (i := 23) (v := (.bool false)) rfl (by kernel_rfl) (by kernel_rfl) (by kernel_rfl) (fun _ _ _ h => h) (by rfl) ?_ (by assumption) ?_
                · intro w hSw
                  go_simp
                simp only [Act.put, List.setIfInBounds_toArray, List.set_cons_zero, List.set_cons_succ]
                refine take_do (i := 24) (v := (.bool false)) rfl (by kernel_rfl) (by kernel_rfl) (by kernel_rfl) (fun _ _ _ h => h) (by rfl) ?_ (by assumption) ?_
                · intro w hSw
                  go_simp
                simp only [Act.put, List.setIfInBounds_toArray, List.set_cons_zero, List.set_cons_succ]
                refine wpAnyH_done (by kernel_rfl) ?_ _
                have HB9 := Lib.hid hHeld
                clear hHeld
                go_wp2_with fail
                go_meet
                case rel => exact ⟨rfl, HB9⟩
            case rest =>
              obtain ⟨rfl, hB9⟩ := hcut
              obtain ⟨w9, hw9⟩ : ∃ Z, Z = wc := ⟨_, rfl⟩
              rw [← hw9] at hB9 ⊢
              clear hw9
              have BZ : Hid (Below w7.heap.size w7 w9) := HC.out.1.trans (hB9.out.mono HC.out.1.size)
              have hg7 : gs < w7.heap.size := HBS.out.lt
              have HR9 := Lib.hid (nrow_below HBS.out BZ.out)
              obtain ⟨⟨z0, z1, z2⟩, f0, f1, f2⟩ := rowN3 HR9.out
              have hrl := HR9.out.lt
              obtain ⟨⟨y0, y1, y2, y3, y4⟩, _⟩ := rowN5 (nrow_below HC.out.2.1 hB9.out)
              have HL9 := Lib.hid (HC.out.2.2.1.s.below hB9.out)
              have HB9 := Lib.hid (HBK.out.trans (BZ.out.mono HBK.out.size))
              clear hB9
              go_wp2_with fail
              go_roundw
              case rel =>
                refine ⟨k + 1, aN, kN, bN, lN, by omega, by go_num, (((HB9.out.setCell (p := ⟨gs, 0, none⟩) HGS.out _).setCell (p := ⟨gs, 1, none⟩) HGS.out _).setCell (p := ⟨gs, 2, none⟩) HGS.out _), ?_, ?_⟩
                · show World.rowIs _ _ _ _ _
                  rw [HST.out]
                  exact rowN_put (rowN_put (rowN_put HR9.out 0 _ (by simp)) 1 _ (by simp)) 2 _ (by simp)
                · show LgO _ _ _ _ _ _ _ _ _ _ _
                  rw [HST.out]
                  exact (HL9.out.keep (fun j _ h1 _ => by
                    have e : j ≠ gs := by omega
                    exact (Below.heap_setCell _ _ _ _ e).trans ((Below.heap_setCell _ _ _ _ e).trans (Below.heap_setCell _ _ _ _ e)))).low HBK.out.size
              case measure => simp [intOf]; omega
    · obtain rfl : k = N := by omega
      go_wp2_with fail
      go_ret
      exact ⟨rfl, HB.out.trans (HBK.out.mono HB.out.size)⟩
end Go.Proofs.YtogfjomfhenhfaaGreatDoor
