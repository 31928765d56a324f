/-
  A cycle of a program: the program's.
-/
import Derived.Test.YtogfjomfhenhfaaGreatDoorGdA
import Derived.Test.YtogfjomfhenhfaaGreatDoorCyI3
import Derived.Test.YtogfjomfhenhfaaGreatDoorCyI5
import Derived.Test.YtogfjomfhenhfaaGreatDoorPgIs
import Derived.Deep.DeepCutAuto
namespace Go.Proofs.YtogfjomfhenhfaaGreatDoor
open Go.RowKit Go.Deep

theorem cyput7 {W : World} {g : Nat} {T : TypeId} {l : List Value} (h : W.rowIs g T 7 (rowN l)) (hl : l.length = 7) (v0 v1 v2 v3 v4 v5 v6 : Value) : World.rowIs (((((((W.setCell ⟨g, 0, none⟩ v0).setCell ⟨g, 1, none⟩ v1).setCell ⟨g, 2, none⟩ v2).setCell ⟨g, 3, none⟩ v3).setCell ⟨g, 4, none⟩ v4).setCell ⟨g, 5, none⟩ v5).setCell ⟨g, 6, none⟩ v6) g T 7 (rowN [v0, v1, v2, v3, v4, v5, v6]) := by
  match l, hl with
  | [a, b, c, d, e, f, k], _ => exact rowN_put (rowN_put (rowN_put (rowN_put (rowN_put (rowN_put (rowN_put h 0 v0 (by simp)) 1 v1 (by simp)) 2 v2 (by simp)) 3 v3 (by simp)) 4 v4 (by simp)) 5 v5 (by simp)) 6 v6 (by simp)
theorem cyblk7 {W : World} {g k : Nat} (h : k ≠ g) (v0 v1 v2 v3 v4 v5 v6 : Value) : (World.heap (((((((W.setCell ⟨g, 0, none⟩ v0).setCell ⟨g, 1, none⟩ v1).setCell ⟨g, 2, none⟩ v2).setCell ⟨g, 3, none⟩ v3).setCell ⟨g, 4, none⟩ v4).setCell ⟨g, 5, none⟩ v5).setCell ⟨g, 6, none⟩ v6))[k]? = W.heap[k]? := (cyhs _ _ _ h 6 v6).trans ((cyhs _ _ _ h 5 v5).trans ((cyhs _ _ _ h 4 v4).trans ((cyhs _ _ _ h 3 v3).trans ((cyhs _ _ _ h 2 v2).trans ((cyhs _ _ _ h 1 v1).trans (cyhs _ _ _ h 0 v0))))))
theorem cybel7 {B g : Nat} {W0 W : World} (h : Below B W0 W) (hg : B ≤ g) (v0 v1 v2 v3 v4 v5 v6 : Value) : Below B W0 (((((((W.setCell ⟨g, 0, none⟩ v0).setCell ⟨g, 1, none⟩ v1).setCell ⟨g, 2, none⟩ v2).setCell ⟨g, 3, none⟩ v3).setCell ⟨g, 4, none⟩ v4).setCell ⟨g, 5, none⟩ v5).setCell ⟨g, 6, none⟩ v6) := (((((((h.setCell (p := ⟨g, 0, none⟩) hg v0).setCell (p := ⟨g, 1, none⟩) hg v1).setCell (p := ⟨g, 2, none⟩) hg v2).setCell (p := ⟨g, 3, none⟩) hg v3).setCell (p := ⟨g, 4, none⟩) hg v4).setCell (p := ⟨g, 5, none⟩) hg v5).setCell (p := ⟨g, 6, none⟩) hg v6)
theorem cyrow_ne {W : World} {a b n m : Nat} {S R : TypeId} {F G : Nat → Value} (h : W.rowIs a S n F) (k : W.rowIs b R m G) (hT : S ≠ R) : a ≠ b := by
  rintro rfl
  obtain ⟨c, q, _⟩ := h
  obtain ⟨c2, q2, _⟩ := k
  rw [q] at q2
  simp at q2
  exact hT q2.2
/-- What cycleOf tells. -/
def CcEnd (B : Nat) (p : Pg.Prog) (s : Cy.Lg) (n : Nat) (I : Nat → Int) (e : Ending) (W : World) : Prop :=
  (Cy.code p s n I = 0 ∧ ∃ a k b l c q, e = .returned (.tuple #[coV (Cy.ans p s n I) a k b l c q, .nilIface]) ∧ CoO 2 B (Cy.ans p s n I).s.n k (Cy.ans p s n I).s.m l (Cy.ans p s n I).n q a b c (Cy.ans p s n I).s.T (Cy.ans p s n I).s.C (Cy.ans p s n I).O W) ∨
  (Cy.code p s n I ≠ 0 ∧ ∃ t, e = .returned (.tuple #[coV (Cy.no 0) none 0 none 0 none 0, errV t (Cy.code p s n I)]))
/-- The boxes of cycleOf, and the cycle's struct. -/
structure CyX (p : Pg.Prog) (la : Option Addr) (lk : Nat) (fa : Option Addr) (fk : Nat) (wa : Option Addr) (wk : Nat) (s : Cy.Lg) (sa : Option Addr) (sk : Nat) (sb : Option Addr) (sl cb tg cg : Nat) (T C : Nat → Int) (fl : Bool) (ix : Option Addr) (m k : Nat) (F : Nat → Int) (w W : World) : Prop where
  a : CyW p la lk fa fk wa wk w.heap.size (w.heap.size + 1) s sa sk sb sl w W
  rs : W.rowIs (w.heap.size + 1 + 1) 38 5 (rowN [.slice none 0 0, .slice none 0 0, .bool false, .slice none 0 0, .int .i64 0])
  c : CyC s sa sk sb sl p.bn cb tg cg T C fl ix m k F w W
section
variable {p : Pg.Prog} {la : Option Addr} {lk : Nat} {fa : Option Addr} {fk : Nat} {wa : Option Addr} {wk : Nat} {s : Cy.Lg} {sa : Option Addr} {sk : Nat} {sb : Option Addr} {sl cb tg cg : Nat} {T C T' C' : Nat → Int} {fl fl' : Bool} {ix ix' : Option Addr} {m k m' k' : Nat} {F F' : Nat → Int} {w W W' : World}
theorem CyX.below (h : CyX p la lk fa fk wa wk s sa sk sb sl cb tg cg T C fl ix m k F w W) (hb : Below W.heap.size W W') : CyX p la lk fa fk wa wk s sa sk sb sl cb tg cg T C fl ix m k F w W' := ⟨h.a.below hb, nrow_below h.rs hb, h.c.below hb⟩
/-- Behind a method that changes the struct or the counts. -/
theorem CyX.only (h : CyX p la lk fa fk wa wk s sa sk sb sl cb tg cg T C fl ix m k F w W) (ho : OnlyC cb cg W W') (hc : CyC s sa sk sb sl p.bn cb tg cg T' C' fl' ix' m' k' F' w W') : CyX p la lk fa fk wa wk s sa sk sb sl cb tg cg T' C' fl' ix' m' k' F' w W' :=
  ⟨⟨h.a.bp.of_block (ho.block _ h.a.bp.lt (cyrow_ne h.a.bp h.c.row (by decide)) (isblk_ne h.c.c h.a.bp (by decide))), h.a.bs.of_block (ho.block _ h.a.bs.lt (cyrow_ne h.a.bs h.c.row (by decide)) (isblk_ne h.c.c h.a.bs (by decide))), hc.old⟩, h.rs.of_block (ho.block _ h.rs.lt (cyrow_ne h.rs h.c.row (by decide)) (isblk_ne h.c.c h.rs (by decide))), hc⟩
theorem CyX.putT (h : CyX p la lk fa fk wa wk s sa sk sb sl cb tg cg T C fl ix m k F w W) (i : Nat) (x : Int) : CyX p la lk fa fk wa wk s sa sk sb sl cb tg cg (updI T i x) C fl ix m k F w (W.setCell ⟨tg, i, none⟩ (.int .i64 x)) :=
  ⟨⟨nrow_set h.a.bp (p := ⟨tg, i, none⟩) (isblk_ne h.c.t h.a.bp (by decide)) _, nrow_set h.a.bs (p := ⟨tg, i, none⟩) (isblk_ne h.c.t h.a.bs (by decide)) _, (h.c.putT i x).old⟩, nrow_set h.rs (p := ⟨tg, i, none⟩) (isblk_ne h.c.t h.rs (by decide)) _, h.c.putT i x⟩
theorem CyX.fall (h : CyX p la lk fa fk wa wk s sa sk sb sl cb tg cg T C fl ix m k F w W) (x : Bool) : CyX p la lk fa fk wa wk s sa sk sb sl cb tg cg T C x ix m k F w (W.setCell ⟨cb, 5, none⟩ (.bool x)) :=
  h.only ((OnlyC.of_below (Below.refl _ _)).set1 5 _) (h.c.fall x)
end
theorem Cy.lf_shift {p : Pg.Prog} {I : Nat → Int} {i : Nat} : Cy.lf (p.B i) (fun j => I (Pg.insTo p.B i + j)) = fun j => I (Pg.insTo p.B (i + 1) + j) := by
  unfold Cy.lf
  by_cases h : (p.B i).kind = 1
  · rw [if_pos h, Pg.insTo_yes h]
    funext j
    show I (Pg.insTo p.B i + (j + 1)) = I (Pg.insTo p.B i + 1 + j)
    congr 1
    omega
  · rw [if_neg h, Pg.insTo_no h]
theorem Cy.lm_shift {p : Pg.Prog} {n i : Nat} : Cy.lm (p.B i) (n - Pg.insTo p.B i) = n - Pg.insTo p.B (i + 1) := by
  unfold Cy.lm
  by_cases h : (p.B i).kind = 1
  · rw [if_pos h, Pg.insTo_yes h]; omega
  · rw [if_neg h, Pg.insTo_no h]
theorem at_in {a : Option Addr} {N : Nat} {f : Nat → Int} {w : World} (h : IsAt a N f w) : IsIn a N f w := by
  rcases h with h | ⟨b, e, h⟩
  · exact Or.inl h
  · exact Or.inr ⟨b, 0, e, fun j hj => by rw [Nat.zero_add]; exact h j hj⟩
set_option maxRecDepth 100000 in
set_option maxHeartbeats 16000000 in
theorem cycleOf_any (p : Pg.Prog) (la : Option Addr) (lk : Nat) (fa : Option Addr) (fk : Nat) (wa : Option Addr) (wk : Nat) (s : Cy.Lg) (sa : Option Addr) (sk : Nat) (sb : Option Addr) (sl : Nat) (ia : Option Addr) (iN iK : Nat) (I : Nat → Int) (w : World) (h : PgAt p la fa wa w) (hs : PgSmall p) (h2 : LgAt s sa sb w) (hs2 : LgSmall s) (h3 : IsAt ia iN I w) (hi : iN ≤ 1048576) (hk : iN ≤ iK) :
    Calls Tryz.prog 46 #[pgV p la lk fa fk wa wk, lgV s sa sk sb sl, .slice ia iN iK] w fun e w' => CcEnd w.heap.size p s iN I e w' ∧ Below w.heap.size w w' := by
  obtain ⟨W, hW⟩ : ∃ W, W = ((w.alloc (.cells #[.slice la p.bn lk, .slice fa p.on fk, .slice wa p.nn wk] 27)).alloc (.cells (lgA s sa sk sb sl) 33)).alloc (.cells #[.slice none 0 0, .slice none 0 0, .bool false, .slice none 0 0, .int .i64 0] 38) := ⟨_, rfl⟩
  have S0 : Hid (CyW p la lk fa fk wa wk w.heap.size (w.heap.size + 1) s sa sk sb sl w W) := by
    show CyW _ _ _ _ _ _ _ _ _ _ _ _ _ _ _ _
    rw [hW]
    exact ⟨nrow_below (nrow_below (rowN_alloc w _ _) (nbel_alloc _ _)) (nbel_alloc _ _), nrow_below (rowN_alloc' (by simp) (lgL s sa sk sb sl) _) (nbel_alloc _ _), ((nbel_alloc _ _).alloc (by simp) _).alloc (by simp; omega) _⟩
  have Q0 : Hid (W.rowIs (w.heap.size + 1 + 1) 38 5 (rowN [.slice none 0 0, .slice none 0 0, .bool false, .slice none 0 0, .int .i64 0])) := by show World.rowIs _ _ _ _ _; rw [hW]; exact rowN_alloc' (by simp) [.slice none 0 0, .slice none 0 0, .bool false, .slice none 0 0, .int .i64 0] _
  have H := Lib.hid h
  have HS := Lib.hid hs
  have H2 := Lib.hid h2
  have HS2 := Lib.hid hs2
  have H3 := Lib.hid h3
  have HK := Lib.hid hk
  have hb1 : p.bn ≤ 1048576 := hs.1.1
  have hn1 : p.nn ≤ 1048576 := hs.2.2
  have ho1 : p.on ≤ 1048576 := hs.2.1
  have HW := Lib.hid hW
  clear h hs hW h2 hs2 h3 hk
  obtain ⟨⟨x0, x1, x2⟩, _⟩ := rowN3 S0.out.bp
  obtain ⟨⟨y0, y1, y2⟩, _⟩ := rowN3 S0.out.bs
  rw [HW.out] at x0 x1 x2 y0 y1 y2
  by_cases big : 400 < iN
  · have bigz : (400 : Int) < (iN : Int) := by omega
    have HE := Lib.hid (Cy.code_big (p := p) (s := s) (I := I) big)
    clear big
    go_enter Tryz.func46, Tryz.ntmps46
    go_wp2_with fail
    exact bodyPost_ret (v := .tuple #[coV (Cy.no 0) none 0 none 0 none 0, errV ⟨#[116, 104, 101, 32, 105, 110, 115, 32, 111, 102, 32, 97, 32, 99, 121, 99, 108, 101]⟩ 2]) (by
      simp only [results, Tryz.results46]
      simp [go_sem, Cy.no, Cy.z0]) rfl ⟨Or.inr ⟨by rw [HE.out]; decide, _, by rw [HE.out]⟩, ((nbel_alloc _ _).alloc (by simp) _).alloc (by simp; omega) _⟩
  have HBG := Lib.hid big
  have bigz : ¬ (400 : Int) < (iN : Int) := by omega
  clear big
  go_enter Tryz.func46, Tryz.ntmps46
  go_wp2_with fail
  rw [← HW.out]
  clear HW x0 x1 x2 y0 y1 y2
  refine (implOf_cy p la lk fa fk wa wk s sa sk sb sl _ (H.out.below S0.out.old) HS.out (H2.out.below S0.out.old) HS2.out).mono ?_
  rintro e w1 ⟨rfl, hb⟩
  have S1 := Lib.hid (S0.out.below hb)
  have Q1 := Lib.hid (nrow_below Q0.out hb)
  clear hb S0 Q0
  by_cases k : Cy.Of p s
  · rw [dB_tt k]
    have HO := Lib.hid k
    clear k
    obtain ⟨⟨x0, x1, x2⟩, _⟩ := rowN3 S1.out.bp
    go_wp2_with fail
    clear x0 x1 x2
    refine (implIns_any p la lk fa fk wa wk _ (H.out.below S1.out.old) HS.out).mono ?_
    rintro e w2 ⟨rfl, hb⟩
    have S2 := Lib.hid (S1.out.below hb)
    have Q2 := Lib.hid (nrow_below Q1.out hb)
    clear hb S1 Q1
    by_cases k : (iN : Int) = Pg.ins p
    · have d1 : ((iN : Int) != Pg.ins p) = false := by rw [k]; simp
      have HI := Lib.hid k
      clear k
      go_wp2_with fail
      refine (within_any ia iN iK I 1 _ (H3.out.below S2.out.old) hi).mono ?_
      rintro e w3 ⟨rfl, hw⟩
      rw [hw]
      clear hw w3 d1
      by_cases k : ∀ i, i < iN → 0 ≤ I i ∧ I i ≤ 1
      · rw [dB_tt k]
        have HF : Hid (Cy.Fit p s iN I) := ⟨HO.out, HI.out, k⟩
        have HE := Lib.hid (Cy.ans_ok HBG.out HF.out)
        have HCD := Lib.hid (Cy.code_ok HBG.out HF.out)
        clear k
        go_wp2_with fail
        go_cut [8] (fun q Wq => ∃ xb tN cN, q = .pointer (some ⟨xb, 0, none⟩) ∧ Hid (Below w2.heap.size w2 Wq ∧ Wq.rowIs xb 116 7 (rowN [.slice sa s.n sk, .slice sb s.m sl, .bool s.fl, .slice (some ⟨tN, 0, none⟩) p.bn p.bn, .slice (some ⟨cN, 0, none⟩) p.bn p.bn, .bool false, .slice ia iN iK]) ∧ (IsBlk 2 tN p.bn (fun _ => 0) Wq ∧ IsBlk 2 cN p.bn (fun _ => 0) Wq) ∧ (w2.heap.size ≤ xb ∧ w2.heap.size ≤ tN ∧ w2.heap.size ≤ cN ∧ tN ≠ cN)))
        case first =>
          refine wp_region_held_drew (S := fun V => Below w2.heap.size w2 V) (by kernel_rfl) (Below.refl _ _).drew (fun hHeld => ?_)
          obtain ⟨Z, hZ⟩ : ∃ Z, Z = w2.drew := ⟨_, rfl⟩
          rw [← hZ] at hHeld ⊢
          clear hZ
          refine take_do (i := 0) (v := (lgV s sa sk sb sl)) rfl (by kernel_rfl) (by kernel_rfl) (by kernel_rfl) (fun _ _ _ h => h) (by rfl) ?_ (by assumption) ?_
          · intro w hSw
            obtain ⟨⟨a0, a1, a2⟩, _⟩ := rowN3 (nrow_below S2.out.bs hSw)
            go_simp
          simp only [Act.put, List.setIfInBounds_toArray, List.set_cons_zero, List.set_cons_succ]
          refine take_do (i := 1) (v := (.pointer (some ⟨w.heap.size, 0, none⟩))) rfl (by kernel_rfl) (by kernel_rfl) (by kernel_rfl) (fun _ _ _ h => h) (by rfl) ?_ (by assumption) ?_
          · intro w hSw
            go_simp
          simp only [Act.put, List.setIfInBounds_toArray, List.set_cons_zero, List.set_cons_succ]
          refine take_do (i := 2) (v := (.slice la p.bn lk)) rfl (by kernel_rfl) (by kernel_rfl) (by kernel_rfl) (fun _ _ _ h => h) (by rfl) ?_ (by assumption) ?_
          · intro w hSw
            obtain ⟨⟨a0, a1, a2⟩, _⟩ := rowN3 (nrow_below S2.out.bp hSw)
            go_simp
          simp only [Act.put, List.setIfInBounds_toArray, List.set_cons_zero, List.set_cons_succ]
          refine take_do (i := 3) (v := (.int .i64 p.bn)) rfl (by kernel_rfl) (by kernel_rfl) (by kernel_rfl) (fun _ _ _ h => h) (by rfl) ?_ (by assumption) ?_
          · intro w hSw
            go_simp
          simp only [Act.put, List.setIfInBounds_toArray, List.set_cons_zero, List.set_cons_succ]
          refine take_do (i := 5) (v := (.slice ia iN iK)) rfl (by kernel_rfl) (by kernel_rfl) (by kernel_rfl) (fun _ _ _ h => h) (by rfl) ?_ (by assumption) ?_
          · intro w hSw
            go_simp
          simp only [Act.put, List.setIfInBounds_toArray, List.set_cons_zero, List.set_cons_succ]
          refine wpAnyH_ready (rs := [4, 7]) (by kernel_rfl) (by simp) (AllReadyH.cons (at_drop (i := 4) rfl) (fun K2 hK => ?_) (AllReadyH.cons (at_drop (i := 7) rfl) (fun K2 hK => ?_) (AllReadyH.nil)))
          · go_simp
            refine (still_blk p.bn hb1 _).mono ?_
            rintro e Z1 ⟨⟨tN, cN, rfl, ho, ht, hc⟩, hb⟩
            have HTN := Lib.hid ht
            have HCN := Lib.hid hc
            have HON : Hid (w2.heap.size ≤ tN ∧ w2.heap.size ≤ cN ∧ tN ≠ cN) := ⟨Nat.le_trans hHeld.size ho.1, Nat.le_trans hHeld.size ho.2.1, ho.2.2⟩
            clear ht hc ho
            go_wp2_with fail
            refine hK.out _ _ (hHeld.trans (hb.mono hHeld.size)) (fun hHeld2 => ?_)
            clear hK hHeld hb
            have hHeld := hHeld2
            clear hHeld2
            refine take_do (i := 6) (v := (.agg #[.slice sa s.n sk, .slice sb s.m sl, .bool s.fl, .slice (some ⟨tN, 0, none⟩) p.bn p.bn, .slice (some ⟨cN, 0, none⟩) p.bn p.bn, .bool false, .slice ia iN iK])) rfl (by kernel_rfl) (by kernel_rfl) (by kernel_rfl) (fun _ _ _ h => h) (by rfl) ?_ (by assumption) ?_
            · intro w hSw
              go_simp
            simp only [Act.put, List.setIfInBounds_toArray, List.set_cons_zero, List.set_cons_succ]
            refine wpAnyH_ready (rs := [7]) (by kernel_rfl) (by simp) (AllReadyH.cons (at_drop (i := 7) rfl) (fun K2 hK => ?_) (AllReadyH.nil))
            obtain ⟨Z2, hZ2⟩ : ∃ Z2, Z2 = Z1.alloc (.cells #[.slice none 0 0, .slice none 0 0, .bool false, .slice none 0 0, .slice none 0 0, .bool false, .slice none 0 0] 116) := ⟨_, rfl⟩
            have hb : Below Z1.heap.size Z1 Z2 := by rw [hZ2]; exact nbel_alloc _ _
            have HV : Hid (Z2.rowIs Z1.heap.size 116 7 (rowN [.slice none 0 0, .slice none 0 0, .bool false, .slice none 0 0, .slice none 0 0, .bool false, .slice none 0 0])) := by show World.rowIs _ _ _ _ _; rw [hZ2]; exact rowN_alloc _ _ _
            obtain ⟨xb, hxb⟩ : ∃ xb, xb = Z1.heap.size := ⟨_, rfl⟩
            rw [← hxb] at HV
            have HXL : Hid (w2.heap.size ≤ xb) := by show _ ≤ _; rw [hxb]; exact hHeld.size
            have HTN2 := Lib.hid (HTN.out.below hb)
            clear HTN
            have HTN := HTN2
            clear HTN2
            have HCN2 := Lib.hid (HCN.out.below hb)
            clear HCN
            have HCN := HCN2
            clear HCN2
            go_simp
            rw [← hZ2, ← hxb]
            clear hZ2
            refine hK.out _ _ (hHeld.trans (hb.mono hHeld.size)) (fun hHeld2 => ?_)
            clear hK hHeld hxb hb
            have hHeld := hHeld2
            clear hHeld2
            have zr := cyput7 HV.out rfl (.slice sa s.n sk) (.slice sb s.m sl) (.bool s.fl) (.slice (some ⟨tN, 0, none⟩) p.bn p.bn) (.slice (some ⟨cN, 0, none⟩) p.bn p.bn) (.bool false) (.slice ia iN iK)
            have zk := fun (k : Nat) (hk : k ≠ xb) => cyblk7 (W := Z2) hk (.slice sa s.n sk) (.slice sb s.m sl) (.bool s.fl) (.slice (some ⟨tN, 0, none⟩) p.bn p.bn) (.slice (some ⟨cN, 0, none⟩) p.bn p.bn) (.bool false) (.slice ia iN iK)
            have zb := cybel7 (g := xb) hHeld HXL.out (.slice sa s.n sk) (.slice sb s.m sl) (.bool s.fl) (.slice (some ⟨tN, 0, none⟩) p.bn p.bn) (.slice (some ⟨cN, 0, none⟩) p.bn p.bn) (.bool false) (.slice ia iN iK)
            obtain ⟨⟨o0, o1, o2, o3, o4, o5, o6⟩, z0, z1, z2, z3, z4, z5, z6⟩ := rowN7c HV.out
            have hol := HV.out.lt
            refine take_call (i := 8) rfl (by kernel_rfl) (fun K2 hK => ?_)
            go_simp
            clear o0 o1 o2 o3 o4 o5 o6 z0 z1 z2 z3 z4 z5 z6
            have zt : IsBlk 2 tN p.bn (fun _ => 0) _ := HTN.out.block (zk tN (Ne.symm (isblk_ne HTN.out HV.out (by decide))))
            have zc : IsBlk 2 cN p.bn (fun _ => 0) _ := HCN.out.block (zk cN (Ne.symm (isblk_ne HCN.out HV.out (by decide))))
            generalize (((((((Z2).setCell ⟨xb, 0, none⟩ (.slice sa s.n sk)).setCell ⟨xb, 1, none⟩ (.slice sb s.m sl)).setCell ⟨xb, 2, none⟩ (.bool s.fl)).setCell ⟨xb, 3, none⟩ (.slice (some ⟨tN, 0, none⟩) p.bn p.bn)).setCell ⟨xb, 4, none⟩ (.slice (some ⟨cN, 0, none⟩) p.bn p.bn)).setCell ⟨xb, 5, none⟩ (.bool false)).setCell ⟨xb, 6, none⟩ (.slice ia iN iK) = Y at zr zk zb zt zc ⊢
            refine hK.out _ _ zb (fun hHeld2 => ?_)
            clear hK hHeld hHeld2
            refine wpAnyH_done (by kernel_rfl) ?_ _
            have HPR : Hid (Below w2.heap.size w2 Y ∧ Y.rowIs xb 116 7 (rowN [.slice sa s.n sk, .slice sb s.m sl, .bool s.fl, .slice (some ⟨tN, 0, none⟩) p.bn p.bn, .slice (some ⟨cN, 0, none⟩) p.bn p.bn, .bool false, .slice ia iN iK]) ∧ (IsBlk 2 tN p.bn (fun _ => 0) Y ∧ IsBlk 2 cN p.bn (fun _ => 0) Y) ∧ (w2.heap.size ≤ xb ∧ w2.heap.size ≤ tN ∧ w2.heap.size ≤ cN ∧ tN ≠ cN)) := ⟨zb, zr, ⟨zt, zc⟩, HXL.out, HON.out⟩
            clear zt zc
            clear zr zk zb
            go_wp2_with fail
            go_meet
            case rel => exact ⟨xb, tN, cN, rfl, HPR⟩
          · obtain ⟨Z1, hZ1⟩ : ∃ Z1, Z1 = Z.alloc (.cells #[.slice none 0 0, .slice none 0 0, .bool false, .slice none 0 0, .slice none 0 0, .bool false, .slice none 0 0] 116) := ⟨_, rfl⟩
            have hb : Below Z.heap.size Z Z1 := by rw [hZ1]; exact nbel_alloc _ _
            have HV : Hid (Z1.rowIs Z.heap.size 116 7 (rowN [.slice none 0 0, .slice none 0 0, .bool false, .slice none 0 0, .slice none 0 0, .bool false, .slice none 0 0])) := by show World.rowIs _ _ _ _ _; rw [hZ1]; exact rowN_alloc _ _ _
            obtain ⟨xb, hxb⟩ : ∃ xb, xb = Z.heap.size := ⟨_, rfl⟩
            rw [← hxb] at HV
            have HXL : Hid (w2.heap.size ≤ xb) := by show _ ≤ _; rw [hxb]; exact hHeld.size
            go_simp
            rw [← hZ1, ← hxb]
            clear hZ1
            refine hK.out _ _ (hHeld.trans (hb.mono hHeld.size)) (fun hHeld2 => ?_)
            clear hK hHeld hxb hb
            have hHeld := hHeld2
            clear hHeld2
            refine wpAnyH_ready (rs := [4]) (by kernel_rfl) (by simp) (AllReadyH.cons (at_drop (i := 4) rfl) (fun K2 hK => ?_) (AllReadyH.nil))
            go_simp
            refine (still_blk p.bn hb1 _).mono ?_
            rintro e Z2 ⟨⟨tN, cN, rfl, ho, ht, hc⟩, hb⟩
            have HTN := Lib.hid ht
            have HCN := Lib.hid hc
            have HON : Hid (w2.heap.size ≤ tN ∧ w2.heap.size ≤ cN ∧ tN ≠ cN) := ⟨Nat.le_trans hHeld.size ho.1, Nat.le_trans hHeld.size ho.2.1, ho.2.2⟩
            clear ht hc ho
            have HV2 := Lib.hid (nrow_below HV.out hb)
            clear HV
            have HV := HV2
            clear HV2
            go_wp2_with fail
            refine hK.out _ _ (hHeld.trans (hb.mono hHeld.size)) (fun hHeld2 => ?_)
            clear hK hHeld hb
            have hHeld := hHeld2
            clear hHeld2
            refine take_do (i := 6) (v := (.agg #[.slice sa s.n sk, .slice sb s.m sl, .bool s.fl, .slice (some ⟨tN, 0, none⟩) p.bn p.bn, .slice (some ⟨cN, 0, none⟩) p.bn p.bn, .bool false, .slice ia iN iK])) rfl (by kernel_rfl) (by kernel_rfl) (by kernel_rfl) (fun _ _ _ h => h) (by rfl) ?_ (by assumption) ?_
            · intro w hSw
              go_simp
            simp only [Act.put, List.setIfInBounds_toArray, List.set_cons_zero, List.set_cons_succ]
            have zr := cyput7 HV.out rfl (.slice sa s.n sk) (.slice sb s.m sl) (.bool s.fl) (.slice (some ⟨tN, 0, none⟩) p.bn p.bn) (.slice (some ⟨cN, 0, none⟩) p.bn p.bn) (.bool false) (.slice ia iN iK)
            have zk := fun (k : Nat) (hk : k ≠ xb) => cyblk7 (W := Z2) hk (.slice sa s.n sk) (.slice sb s.m sl) (.bool s.fl) (.slice (some ⟨tN, 0, none⟩) p.bn p.bn) (.slice (some ⟨cN, 0, none⟩) p.bn p.bn) (.bool false) (.slice ia iN iK)
            have zb := cybel7 (g := xb) hHeld HXL.out (.slice sa s.n sk) (.slice sb s.m sl) (.bool s.fl) (.slice (some ⟨tN, 0, none⟩) p.bn p.bn) (.slice (some ⟨cN, 0, none⟩) p.bn p.bn) (.bool false) (.slice ia iN iK)
            obtain ⟨⟨o0, o1, o2, o3, o4, o5, o6⟩, z0, z1, z2, z3, z4, z5, z6⟩ := rowN7c HV.out
            have hol := HV.out.lt
            refine take_call (i := 8) rfl (by kernel_rfl) (fun K2 hK => ?_)
            go_simp
            clear o0 o1 o2 o3 o4 o5 o6 z0 z1 z2 z3 z4 z5 z6
            have zt : IsBlk 2 tN p.bn (fun _ => 0) _ := HTN.out.block (zk tN (Ne.symm (isblk_ne HTN.out HV.out (by decide))))
            have zc : IsBlk 2 cN p.bn (fun _ => 0) _ := HCN.out.block (zk cN (Ne.symm (isblk_ne HCN.out HV.out (by decide))))
            generalize (((((((Z2).setCell ⟨xb, 0, none⟩ (.slice sa s.n sk)).setCell ⟨xb, 1, none⟩ (.slice sb s.m sl)).setCell ⟨xb, 2, none⟩ (.bool s.fl)).setCell ⟨xb, 3, none⟩ (.slice (some ⟨tN, 0, none⟩) p.bn p.bn)).setCell ⟨xb, 4, none⟩ (.slice (some ⟨cN, 0, none⟩) p.bn p.bn)).setCell ⟨xb, 5, none⟩ (.bool false)).setCell ⟨xb, 6, none⟩ (.slice ia iN iK) = Y at zr zk zb zt zc ⊢
            refine hK.out _ _ zb (fun hHeld2 => ?_)
            clear hK hHeld hHeld2
            refine wpAnyH_done (by kernel_rfl) ?_ _
            have HPR : Hid (Below w2.heap.size w2 Y ∧ Y.rowIs xb 116 7 (rowN [.slice sa s.n sk, .slice sb s.m sl, .bool s.fl, .slice (some ⟨tN, 0, none⟩) p.bn p.bn, .slice (some ⟨cN, 0, none⟩) p.bn p.bn, .bool false, .slice ia iN iK]) ∧ (IsBlk 2 tN p.bn (fun _ => 0) Y ∧ IsBlk 2 cN p.bn (fun _ => 0) Y) ∧ (w2.heap.size ≤ xb ∧ w2.heap.size ≤ tN ∧ w2.heap.size ≤ cN ∧ tN ≠ cN)) := ⟨zb, zr, ⟨zt, zc⟩, HXL.out, HON.out⟩
            clear zt zc
            clear zr zk zb
            go_wp2_with fail
            go_meet
            case rel => exact ⟨xb, tN, cN, rfl, HPR⟩
        case rest =>
          obtain ⟨cb, tg, cg, rfl, hPR⟩ := hcut
          obtain ⟨W3, hW3⟩ : ∃ Z, Z = wc := ⟨_, rfl⟩
          rw [← hW3] at hPR ⊢
          have hbz := hPR.out.1
          have X3 : Hid (∃ iy ky, CyX p la lk fa fk wa wk s sa sk sb sl cb tg cg (Cy.run p s I (0)).T (Cy.run p s I (0)).C false iy (iN - Pg.insTo p.B (0)) ky (fun j => I (Pg.insTo p.B (0) + j)) w W3) := by
            have hz := S2.out.old.size
            have ho := hPR.out.2.2.2
            refine ⟨ia, iK, ⟨S2.out.below hbz, nrow_below Q2.out hbz, ⟨hPR.out.2.1, hPR.out.2.2.1.1, hPR.out.2.2.1.2, ⟨?_, ?_⟩, ⟨ho.2.2.2, by omega, by omega, by omega⟩, S2.out.old.trans (hbz.mono hz)⟩⟩⟩
            · have e : (fun j => I (Pg.insTo p.B 0 + j)) = I := by funext j; rw [Pg.insTo, Nat.zero_add]
              rw [e, Pg.insTo, Nat.sub_zero]
              exact at_in H3.out
            · exact Nat.le_trans (Nat.sub_le _ _) HK.out
          clear hW3 hPR hbz S2 Q2
          have HIN := Lib.hid (Cy.Fit.ins HF.out)
          obtain ⟨iy0, ky0, X3b⟩ := X3.out
          obtain ⟨⟨x0, x1, x2⟩, _⟩ := rowN3 X3b.a.bp
          clear X3b
          go_wp2_with fail
          clear x0 x1 x2
          go_loopw [53] (fun iv wr => ∃ (i : Nat), i ≤ p.bn ∧ iv = .int .i64 i ∧ Hid (∃ iy ky, CyX p la lk fa fk wa wk s sa sk sb sl cb tg cg (Cy.run p s I (i)).T (Cy.run p s I (i)).C false iy (iN - Pg.insTo p.B (i)) ky (fun j => I (Pg.insTo p.B (i) + j)) w wr)) (fun iv _ => p.bn - (intOf iv).toNat)
          case atStart => exact ⟨0, Nat.zero_le _, rfl, X3⟩
          case round =>
            obtain ⟨i, hi2, rfl, hX⟩ := hrel
            clear X3
            obtain ⟨iy, ky, hX1⟩ := hX.out
            have HX := Lib.hid hX1
            clear hX hX1
            by_cases hlt : i < p.bn
            · have hltz : (i : Int) < (p.bn : Int) := by omega
              obtain ⟨b, eb, c0, c1, c2, c3⟩ := (H.out.l.below HX.out.a.old).at_ hlt
              subst eb
              have hbits := Cy.run_bits HO.out HF.out.bits hi2
              have HBT := Lib.hid hbits.1
              clear hbits
              go_wp2_with fail
              obtain ⟨V, hV⟩ : ∃ V, V = wr.alloc (.cells #[.int .i64 (p.B i).kind, .string (p.B i).name, .int .i64 (p.B i).a, .int .i64 (p.B i).b] 84) := ⟨_, rfl⟩
              have RV : V.rowIs wr.heap.size 84 4 (rowN [.int .i64 (p.B i).kind, .string (p.B i).name, .int .i64 (p.B i).a, .int .i64 (p.B i).b]) := by rw [hV]; exact rowN_alloc wr _ _
              have XV := HX.out.below (nbel_alloc wr (.cells #[.int .i64 (p.B i).kind, .string (p.B i).name, .int .i64 (p.B i).a, .int .i64 (p.B i).b] 84))
              rw [← hV] at XV ⊢
              clear hV HX c0 c1 c2 c3
              refine wp_region_held_drew (S := fun V => V.rowIs wr.heap.size 84 4 (rowN [.int .i64 (p.B i).kind, .string (p.B i).name, .int .i64 (p.B i).a, .int .i64 (p.B i).b]) ∧ V.cell? ⟨cb, 3, none⟩ = some (.slice (some ⟨tg, 0, none⟩) p.bn p.bn)) (by kernel_rfl) ⟨nrow_below RV (Below.refl _ _).drew, (rowN7c (XV.below (Below.refl _ _).drew).c.row).1.2.2.2.1⟩ (fun hHeld => ?_)
              have XZ := Lib.hid (XV.below (Below.refl _ _).drew)
              have RZ := Lib.hid (nrow_below RV (Below.refl _ V).drew)
              obtain ⟨Z, hZ⟩ : ∃ Z, Z = V.drew := ⟨_, rfl⟩
              rw [← hZ] at hHeld XZ RZ ⊢
              clear hZ XV RV
              refine take_do (i := 0) (v := (.pointer (some ⟨cb, 3, none⟩))) rfl (by kernel_rfl) (by kernel_rfl) (by kernel_rfl) (fun _ _ _ h => h) (by rfl) ?_ (by assumption) ?_
              · intro w hSw
                go_simp
              simp only [Act.put, List.setIfInBounds_toArray, List.set_cons_zero, List.set_cons_succ]
              refine take_do (i := 1) (v := (.pointer (some ⟨cb, 3, none⟩))) rfl (by kernel_rfl) (by kernel_rfl) (by kernel_rfl) (fun _ _ _ h => h) (by rfl) ?_ (by assumption) ?_
              · intro w hSw
                go_simp
              simp only [Act.put, List.setIfInBounds_toArray, List.set_cons_zero, List.set_cons_succ]
              refine take_do (i := 2) (v := (.slice (some ⟨tg, 0, none⟩) p.bn p.bn)) rfl (by kernel_rfl) (by kernel_rfl) (by kernel_rfl) (fun _ _ _ h => h) (by rfl) ?_ (by assumption) ?_
              · intro w hSw
                have r3 := hSw.2
                go_simp
              simp only [Act.put, List.setIfInBounds_toArray, List.set_cons_zero, List.set_cons_succ]
              refine take_do (i := 3) (v := (.int .i64 i)) rfl (by kernel_rfl) (by kernel_rfl) (by kernel_rfl) (fun _ _ _ h => h) (by rfl) ?_ (by assumption) ?_
              · intro w hSw
                go_simp
              simp only [Act.put, List.setIfInBounds_toArray, List.set_cons_zero, List.set_cons_succ]
              refine take_do (i := 4) (v := (.int .i64 i)) rfl (by kernel_rfl) (by kernel_rfl) (by kernel_rfl) (fun _ _ _ h => h) (by rfl) ?_ (by assumption) ?_
              · intro w hSw
                go_simp
              simp only [Act.put, List.setIfInBounds_toArray, List.set_cons_zero, List.set_cons_succ]
              refine take_do (i := 5) (v := (bkV (p.B i))) rfl (by kernel_rfl) (by kernel_rfl) (by kernel_rfl) (fun _ _ _ h => h) (by rfl) ?_ (by assumption) ?_
              · intro w hSw
                obtain ⟨⟨a0, a1, a2, a3⟩, _⟩ := rowN4 hSw.1
                go_simp
              simp only [Act.put, List.setIfInBounds_toArray, List.set_cons_zero, List.set_cons_succ]
              refine take_call (i := 6) rfl (by kernel_rfl) (fun K2 hK => ?_)
              go_simp
              refine (truthAt_any (p.B i) i w Z XZ.out.c H2.out ⟨HO.out.n, HO.out.k.m.trans HO.out.n⟩ ⟨by rw [← HO.out.n]; exact HO.out.k.t, by rw [← HO.out.n, ← HO.out.k.m]; exact HO.out.k.c⟩ HBT.out hlt (HO.out.r.b i hlt).2.2 (fun hk => by have := Cy.insTo_lt hlt hk; have := HIN.out; omega) (Cy.run_C_ge p s I i i (Nat.le_refl _))).mono ?_
              rintro e w5 ⟨rfl, hy, ho⟩
              rw [Cy.lf_shift, Cy.lm_shift] at hy
              obtain ⟨iy2, ky2, hc⟩ := hy
              have X5 := Lib.hid (XZ.out.only ho hc)
              have R5 := Lib.hid (RZ.out.of_block (ho.block _ RZ.out.lt (cyrow_ne RZ.out XZ.out.c.row (by decide)) (isblk_ne XZ.out.c.c RZ.out (by decide))))
              go_wp2_with fail
              refine hK.out _ _ ⟨R5.out, (rowN7c X5.out.c.row).1.2.2.2.1⟩ (fun hHeld2 => ?_)
              clear hK hHeld ho hc XZ RZ
              have hHeld := hHeld2
              clear hHeld2
              refine take_do (i := 7) (v := (.pointer (some ⟨tg, i, none⟩))) rfl (by kernel_rfl) (by kernel_rfl) (by kernel_rfl) (fun _ _ _ h => h) (by rfl) ?_ (by assumption) ?_
              · intro w hSw
                go_simp
              simp only [Act.put, List.setIfInBounds_toArray, List.set_cons_zero, List.set_cons_succ]
              refine take_call (i := 8) rfl (by kernel_rfl) (fun K2 hK => ?_)
              have ti := X5.out.c.t.cell (i := i) hlt
              have ft := X5.out.c.t.frozen i
              have hl := X5.out.c.t.lt
              obtain ⟨x, hx⟩ : ∃ x, x = Cy.vl (p.B i) i s.T s.C (Cy.run p s I i).T (I (Pg.insTo p.B i)) := ⟨_, rfl⟩
              have HXE := Lib.hid hx
              rw [← hx]
              clear hx
              go_simp
              have X6 := Lib.hid (X5.out.putT i x)
              have R6 := Lib.hid (nrow_set R5.out (p := ⟨tg, i, none⟩) (isblk_ne X5.out.c.t R5.out (by decide)) (.int .i64 x))
              obtain ⟨Z6, hZ6⟩ : ∃ Z6, Z6 = w5.setCell ⟨tg, i, none⟩ (.int .i64 x) := ⟨_, rfl⟩
              rw [← hZ6] at X6 R6 ⊢
              clear hZ6 ti ft hl
              refine hK.out _ _ ⟨R6.out, (rowN7c X6.out.c.row).1.2.2.2.1⟩ (fun hHeld2 => ?_)
              clear hK hHeld hHeld2 X5 R5 R6
              refine wpAnyH_done (by kernel_rfl) ?_ _
              have X7 : Hid (∃ iy ky, CyX p (some ⟨b, 0, none⟩) lk fa fk wa wk s sa sk sb sl cb tg cg (Cy.run p s I (i + 1)).T (Cy.run p s I (i + 1)).C false iy (iN - Pg.insTo p.B (i + 1)) ky (fun j => I (Pg.insTo p.B (i + 1) + j)) w Z6) := ⟨iy2, ky2, by rw [Cy.run_T1, Cy.run_C1]; rw [← HXE.out]; exact X6.out⟩
              clear X6 HXE
              go_wp2_with fail
              go_roundw
              case rel => exact ⟨i + 1, by omega, by go_num, X7⟩
              case measure => simp [intOf]; omega
            · obtain rfl : i = p.bn := by omega
              clear hi2
              have HBT := Lib.hid (Cy.run_bits HO.out HF.out.bits (Nat.le_refl _)).1
              obtain ⟨⟨x0, x1, x2⟩, _⟩ := rowN3 HX.out.a.bp
              obtain ⟨⟨y0, y1, y2⟩, _⟩ := rowN3 HX.out.a.bs
              obtain ⟨⟨r0, r1, r2, r3, r4, r5, r6⟩, f0, f1, f2, f3, f4, f5, f6⟩ := rowN7c HX.out.c.row
              have hl := HX.out.c.row.lt
              by_cases hfl : s.fl = true
              · as_aux_lemma =>
                obtain ⟨fl, hf⟩ : ∃ fl, fl = true := ⟨_, rfl⟩
                have HFL : Hid (Cy.fell p s I = fl) := by show Cy.fell _ _ _ = _; unfold Cy.fell; rw [hfl, hf]; rfl
                rw [hfl] at y2
                have X4 := Lib.hid (HX.out.fall fl)
                obtain ⟨V, hV⟩ : ∃ V, V = wr.setCell ⟨cb, 5, none⟩ (.bool fl) := ⟨_, rfl⟩
                rw [← hV] at X4
                have HV := Lib.hid (hf ▸ hV)
                clear hV hfl
                go_wp2_with fail
                rw [← HV.out]
                clear HV HX hf x0 x1 x2 y0 y1 y2 r0 r1 r2 r3 r4 r5 r6 f0 f1 f2 f3 f4 f5 f6 hl
                refine wp_region_held_drew (S := fun U => U.rowIs cb 116 7 (rowN [.slice sa s.n sk, .slice sb s.m sl, .bool s.fl, .slice (some ⟨tg, 0, none⟩) p.bn p.bn, .slice (some ⟨cg, 0, none⟩) p.bn p.bn, .bool fl, .slice iy (iN - Pg.insTo p.B p.bn) ky]) ∧ U.rowIs w.heap.size 27 3 (rowN (pgL p la lk fa fk wa wk))) (by kernel_rfl) ⟨(X4.out.below (Below.refl _ _).drew).c.row, (X4.out.below (Below.refl _ _).drew).a.bp⟩ (fun hHeld => ?_)
                have XZ := Lib.hid (X4.out.below (Below.refl _ _).drew)
                obtain ⟨Z, hZ⟩ : ∃ Z, Z = V.drew := ⟨_, rfl⟩
                rw [← hZ] at hHeld XZ ⊢
                clear hZ X4
                refine take_do (i := 0) (v := (.pointer (some ⟨cb, 3, none⟩))) rfl (by kernel_rfl) (by kernel_rfl) (by kernel_rfl) (fun _ _ _ h => h) (by rfl) ?_ (by assumption) ?_
                · intro w hSw
                  go_simp
                simp only [Act.put, List.setIfInBounds_toArray, List.set_cons_zero, List.set_cons_succ]
                refine take_do (i := 1) (v := (.agg #[.slice (some ⟨tg, 0, none⟩) p.bn p.bn, .slice (some ⟨cg, 0, none⟩) p.bn p.bn, .bool fl])) rfl (by kernel_rfl) (by kernel_rfl) (by kernel_rfl) (fun _ _ _ h => h) (by rfl) ?_ (by assumption) ?_
                · intro w hSw
                  obtain ⟨⟨r0, r1, r2, r3, r4, r5, r6⟩, _⟩ := rowN7c hSw.1
                  go_simp
                simp only [Act.put, List.setIfInBounds_toArray, List.set_cons_zero, List.set_cons_succ]
                refine take_do (i := 2) (v := (.pointer (some ⟨w.heap.size, 1, none⟩))) rfl (by kernel_rfl) (by kernel_rfl) (by kernel_rfl) (fun _ _ _ h => h) (by rfl) ?_ (by assumption) ?_
                · intro w hSw
                  go_simp
                simp only [Act.put, List.setIfInBounds_toArray, List.set_cons_zero, List.set_cons_succ]
                refine take_do (i := 3) (v := (.slice fa p.on fk)) rfl (by kernel_rfl) (by kernel_rfl) (by kernel_rfl) (fun _ _ _ h => h) (by rfl) ?_ (by assumption) ?_
                · intro w hSw
                  obtain ⟨⟨a0, a1, a2⟩, _⟩ := rowN3 hSw.2
                  go_simp
                simp only [Act.put, List.setIfInBounds_toArray, List.set_cons_zero, List.set_cons_succ]
                refine take_call (i := 4) rfl (by kernel_rfl) (fun K2 hK => ?_)
                go_simp
                refine (outs_any fa p.on fk p.O w Z XZ.out.c H.out.f ho1 (fun j hj => Cy.out_in HO.out.r hj)).mono ?_
                rintro e w5 ⟨⟨rfl, hk⟩, hb⟩
                obtain ⟨g, hg⟩ : ∃ g, g = Z.heap.size := ⟨_, rfl⟩
                rw [← hg] at hk ⊢
                have HGZ := Lib.hid hg
                have K5 := Lib.hid hk
                have B5 : Hid (Below Z.heap.size Z w5) := hb
                have X5 := Lib.hid (XZ.out.below hb)
                clear hg
                go_wp2_with fail
                refine hK.out _ _ ⟨X5.out.c.row, X5.out.a.bp⟩ (fun hHeld2 => ?_)
                clear hK hHeld hk hb X5
                refine take_call (i := 5) rfl (by kernel_rfl) (fun K2 hK => ?_)
                go_simp
                refine (endCycle_any (some ⟨tg, 0, none⟩) p.bn p.bn (some ⟨cg, 0, none⟩) p.bn p.bn fl g p.on _ w5 K5.out).mono ?_
                rintro e w6 ⟨rfl, hk, ho⟩
                have B6 : Hid (Below Z.heap.size Z w6) := B5.out.trans (ho.below (Nat.le_of_eq HGZ.out.symm) B5.out.size)
                have X6 := Lib.hid (XZ.out.below B6.out)
                have K6 := Lib.hid hk
                have HLT : Hid (tg < g ∧ cg < g ∧ w.heap.size ≤ g ∧ w.heap.size + 1 + 1 < g) := by
                  have h1 := XZ.out.c.t.lt
                  have h2 := XZ.out.c.c.lt
                  have h3 := XZ.out.rs.lt
                  have h4 := HGZ.out
                  exact ⟨by omega, by omega, by omega, by omega⟩
                go_wp2_with fail
                refine hK.out _ _ ⟨X6.out.c.row, X6.out.a.bp⟩ (fun hHeld3 => ?_)
                clear hK hHeld2 hk ho XZ B5 K5
                refine take_call (i := 6) rfl (by kernel_rfl) (fun K2 hK => ?_)
                obtain ⟨⟨z0, z1, z2, z3, z4⟩, f0, f1, f2, f3, f4⟩ := rowN5 X6.out.rs
                have hrl := X6.out.rs.lt
                have QP := Lib.hid (cyput5 X6.out.rs rfl (.slice (some ⟨tg, 0, none⟩) p.bn p.bn) (.slice (some ⟨cg, 0, none⟩) p.bn p.bn) (.bool fl) (.slice (some ⟨g, 0, none⟩) p.on p.on) (.int .i64 0))
                have BP := Lib.hid (cybel5 (g := w.heap.size + 1 + 1) X6.out.a.old (by omega) (.slice (some ⟨tg, 0, none⟩) p.bn p.bn) (.slice (some ⟨cg, 0, none⟩) p.bn p.bn) (.bool fl) (.slice (some ⟨g, 0, none⟩) p.on p.on) (.int .i64 0))
                have KB := Lib.hid (fun (k : Nat) (hk : k ≠ w.heap.size + 1 + 1) => cyblk5 (W := w6) hk (.slice (some ⟨tg, 0, none⟩) p.bn p.bn) (.slice (some ⟨cg, 0, none⟩) p.bn p.bn) (.bool fl) (.slice (some ⟨g, 0, none⟩) p.on p.on) (.int .i64 0))
                go_simp
                obtain ⟨W7, hW7⟩ : ∃ W7, W7 = ((((w6.setCell ⟨w.heap.size + 1 + 1, 0, none⟩ (.slice (some ⟨tg, 0, none⟩) p.bn p.bn)).setCell ⟨w.heap.size + 1 + 1, 1, none⟩ (.slice (some ⟨cg, 0, none⟩) p.bn p.bn)).setCell ⟨w.heap.size + 1 + 1, 2, none⟩ (.bool fl)).setCell ⟨w.heap.size + 1 + 1, 3, none⟩ (.slice (some ⟨g, 0, none⟩) p.on p.on)).setCell ⟨w.heap.size + 1 + 1, 4, none⟩ (.int .i64 0) := ⟨_, rfl⟩
                rw [← hW7] at QP BP KB ⊢
                clear hW7 z0 z1 z2 z3 z4 f0 f1 f2 f3 f4
                refine hK.out _ _ ⟨X6.out.c.row.of_block (KB.out cb (cyrow_ne X6.out.c.row X6.out.rs (by decide))), X6.out.a.bp.of_block (KB.out _ (by omega))⟩ (fun hHeld => ?_)
                clear hK hHeld3
                refine take_do (i := 7) (v := .nilIface) rfl (by kernel_rfl) (by kernel_rfl) (by kernel_rfl) (fun _ _ _ h => h) (by rfl) ?_ (by assumption) ?_
                · intro w hSw
                  go_simp
                simp only [Act.put, List.setIfInBounds_toArray, List.set_cons_zero, List.set_cons_succ]
                refine wpAnyH_done (by kernel_rfl) ?_ _
                go_wp2_with fail
                refine bodyPost_ret (v := .tuple #[.agg #[.slice (some ⟨tg, 0, none⟩) p.bn p.bn, .slice (some ⟨cg, 0, none⟩) p.bn p.bn, .bool fl, .slice (some ⟨g, 0, none⟩) p.on p.on, .int .i64 0], .nilIface]) (by
                  obtain ⟨⟨x0, x1, x2, x3, x4⟩, _⟩ := rowN5 QP.out
                  simp only [results, Tryz.results46]
                  simp [go_sem, x0, x1, x2, x3, x4]) rfl ⟨Or.inl ⟨HCD.out, some ⟨tg, 0, none⟩, p.bn, some ⟨cg, 0, none⟩, p.bn, some ⟨g, 0, none⟩, p.on, ?_, ?_⟩, BP.out⟩
                · rw [HE.out, ← HFL.out]; rfl
                · rw [HE.out]
                  have hl := HLT.out
                  have ho := X6.out.c.o
                  refine ⟨⟨Or.inr ⟨tg, rfl, ho.2.1, X6.out.c.t.block (KB.out tg (Ne.symm (isblk_ne X6.out.c.t X6.out.rs (by decide))))⟩, Or.inr ⟨cg, rfl, ho.2.2.1, X6.out.c.c.block (KB.out cg (Ne.symm (isblk_ne X6.out.c.c X6.out.rs (by decide))))⟩, fun k e e' => by have q := e.trans e'.symm; simp at q <;> omega⟩, Or.inr ⟨g, rfl, hl.2.2.1, (K6.out.congr (fun j _ => ?_)).block (KB.out g (by omega))⟩, fun k e e' => by have q := e.trans e'.symm; simp at q <;> omega, fun k e e' => by have q := e.trans e'.symm; simp at q <;> omega⟩
                  show (if fl = true then 0 else _) = Cy.out p s I j
                  unfold Cy.out
                  rw [HFL.out]
              · as_aux_lemma =>
                have hfl2 : s.fl = false := by cases h : s.fl <;> simp_all
                rw [hfl2] at y2
                clear hfl
                have HS2 := Lib.hid hfl2
                clear hfl2
                go_wp2_with fail
                clear x0 x1 x2 y0 y1 y2 r0 r1 r2 r3 r4 r5 r6 f0 f1 f2 f3 f4 f5 f6 hl
                refine (breaksOne_any wa p.nn wk p.N w wr HX.out.c HBT.out H.out.w hn1 (fun j hj => Cy.nev_in HO.out.r hj)).mono ?_
                rintro e w4 ⟨he, hb⟩
                obtain ⟨fl, hf⟩ : ∃ fl, fl = dB (∃ j, j < p.nn ∧ (Cy.run p s I p.bn).T (p.N (j * 2)).toNat = 1 ∧ (Cy.run p s I p.bn).T (p.N (j * 2 + 1)).toNat = 1) := ⟨_, rfl⟩
                have HFL : Hid (Cy.fell p s I = fl) := by show Cy.fell _ _ _ = _; unfold Cy.fell; rw [HS2.out, hf]; rfl
                rw [← hf] at he
                subst he
                have X4b := Lib.hid (HX.out.below hb)
                clear hf hb HX
                obtain ⟨⟨r0, r1, r2, r3, r4, r5, r6⟩, f0, f1, f2, f3, f4, f5, f6⟩ := rowN7c X4b.out.c.row
                have hl := X4b.out.c.row.lt
                have X4 := Lib.hid (X4b.out.fall fl)
                obtain ⟨V, hV⟩ : ∃ V, V = w4.setCell ⟨cb, 5, none⟩ (.bool fl) := ⟨_, rfl⟩
                rw [← hV] at X4
                have HV := Lib.hid hV
                clear hV X4b
                go_wp2_with fail
                rw [← HV.out]
                clear HV r0 r1 r2 r3 r4 r5 r6 f0 f1 f2 f3 f4 f5 f6 hl
                refine wp_region_held_drew (S := fun U => U.rowIs cb 116 7 (rowN [.slice sa s.n sk, .slice sb s.m sl, .bool s.fl, .slice (some ⟨tg, 0, none⟩) p.bn p.bn, .slice (some ⟨cg, 0, none⟩) p.bn p.bn, .bool fl, .slice iy (iN - Pg.insTo p.B p.bn) ky]) ∧ U.rowIs w.heap.size 27 3 (rowN (pgL p la lk fa fk wa wk))) (by kernel_rfl) ⟨(X4.out.below (Below.refl _ _).drew).c.row, (X4.out.below (Below.refl _ _).drew).a.bp⟩ (fun hHeld => ?_)
                have XZ := Lib.hid (X4.out.below (Below.refl _ _).drew)
                obtain ⟨Z, hZ⟩ : ∃ Z, Z = V.drew := ⟨_, rfl⟩
                rw [← hZ] at hHeld XZ ⊢
                clear hZ X4
                refine take_do (i := 0) (v := (.pointer (some ⟨cb, 3, none⟩))) rfl (by kernel_rfl) (by kernel_rfl) (by kernel_rfl) (fun _ _ _ h => h) (by rfl) ?_ (by assumption) ?_
                · intro w hSw
                  go_simp
                simp only [Act.put, List.setIfInBounds_toArray, List.set_cons_zero, List.set_cons_succ]
                refine take_do (i := 1) (v := (.agg #[.slice (some ⟨tg, 0, none⟩) p.bn p.bn, .slice (some ⟨cg, 0, none⟩) p.bn p.bn, .bool fl])) rfl (by kernel_rfl) (by kernel_rfl) (by kernel_rfl) (fun _ _ _ h => h) (by rfl) ?_ (by assumption) ?_
                · intro w hSw
                  obtain ⟨⟨r0, r1, r2, r3, r4, r5, r6⟩, _⟩ := rowN7c hSw.1
                  go_simp
                simp only [Act.put, List.setIfInBounds_toArray, List.set_cons_zero, List.set_cons_succ]
                refine take_do (i := 2) (v := (.pointer (some ⟨w.heap.size, 1, none⟩))) rfl (by kernel_rfl) (by kernel_rfl) (by kernel_rfl) (fun _ _ _ h => h) (by rfl) ?_ (by assumption) ?_
                · intro w hSw
                  go_simp
                simp only [Act.put, List.setIfInBounds_toArray, List.set_cons_zero, List.set_cons_succ]
                refine take_do (i := 3) (v := (.slice fa p.on fk)) rfl (by kernel_rfl) (by kernel_rfl) (by kernel_rfl) (fun _ _ _ h => h) (by rfl) ?_ (by assumption) ?_
                · intro w hSw
                  obtain ⟨⟨a0, a1, a2⟩, _⟩ := rowN3 hSw.2
                  go_simp
                simp only [Act.put, List.setIfInBounds_toArray, List.set_cons_zero, List.set_cons_succ]
                refine take_call (i := 4) rfl (by kernel_rfl) (fun K2 hK => ?_)
                go_simp
                refine (outs_any fa p.on fk p.O w Z XZ.out.c H.out.f ho1 (fun j hj => Cy.out_in HO.out.r hj)).mono ?_
                rintro e w5 ⟨⟨rfl, hk⟩, hb⟩
                obtain ⟨g, hg⟩ : ∃ g, g = Z.heap.size := ⟨_, rfl⟩
                rw [← hg] at hk ⊢
                have HGZ := Lib.hid hg
                have K5 := Lib.hid hk
                have B5 : Hid (Below Z.heap.size Z w5) := hb
                have X5 := Lib.hid (XZ.out.below hb)
                clear hg
                go_wp2_with fail
                refine hK.out _ _ ⟨X5.out.c.row, X5.out.a.bp⟩ (fun hHeld2 => ?_)
                clear hK hHeld hk hb X5
                refine take_call (i := 5) rfl (by kernel_rfl) (fun K2 hK => ?_)
                go_simp
                refine (endCycle_any (some ⟨tg, 0, none⟩) p.bn p.bn (some ⟨cg, 0, none⟩) p.bn p.bn fl g p.on _ w5 K5.out).mono ?_
                rintro e w6 ⟨rfl, hk, ho⟩
                have B6 : Hid (Below Z.heap.size Z w6) := B5.out.trans (ho.below (Nat.le_of_eq HGZ.out.symm) B5.out.size)
                have X6 := Lib.hid (XZ.out.below B6.out)
                have K6 := Lib.hid hk
                have HLT : Hid (tg < g ∧ cg < g ∧ w.heap.size ≤ g ∧ w.heap.size + 1 + 1 < g) := by
                  have h1 := XZ.out.c.t.lt
                  have h2 := XZ.out.c.c.lt
                  have h3 := XZ.out.rs.lt
                  have h4 := HGZ.out
                  exact ⟨by omega, by omega, by omega, by omega⟩
                go_wp2_with fail
                refine hK.out _ _ ⟨X6.out.c.row, X6.out.a.bp⟩ (fun hHeld3 => ?_)
                clear hK hHeld2 hk ho XZ B5 K5
                refine take_call (i := 6) rfl (by kernel_rfl) (fun K2 hK => ?_)
                obtain ⟨⟨z0, z1, z2, z3, z4⟩, f0, f1, f2, f3, f4⟩ := rowN5 X6.out.rs
                have hrl := X6.out.rs.lt
                have QP := Lib.hid (cyput5 X6.out.rs rfl (.slice (some ⟨tg, 0, none⟩) p.bn p.bn) (.slice (some ⟨cg, 0, none⟩) p.bn p.bn) (.bool fl) (.slice (some ⟨g, 0, none⟩) p.on p.on) (.int .i64 0))
                have BP := Lib.hid (cybel5 (g := w.heap.size + 1 + 1) X6.out.a.old (by omega) (.slice (some ⟨tg, 0, none⟩) p.bn p.bn) (.slice (some ⟨cg, 0, none⟩) p.bn p.bn) (.bool fl) (.slice (some ⟨g, 0, none⟩) p.on p.on) (.int .i64 0))
                have KB := Lib.hid (fun (k : Nat) (hk : k ≠ w.heap.size + 1 + 1) => cyblk5 (W := w6) hk (.slice (some ⟨tg, 0, none⟩) p.bn p.bn) (.slice (some ⟨cg, 0, none⟩) p.bn p.bn) (.bool fl) (.slice (some ⟨g, 0, none⟩) p.on p.on) (.int .i64 0))
                go_simp
                obtain ⟨W7, hW7⟩ : ∃ W7, W7 = ((((w6.setCell ⟨w.heap.size + 1 + 1, 0, none⟩ (.slice (some ⟨tg, 0, none⟩) p.bn p.bn)).setCell ⟨w.heap.size + 1 + 1, 1, none⟩ (.slice (some ⟨cg, 0, none⟩) p.bn p.bn)).setCell ⟨w.heap.size + 1 + 1, 2, none⟩ (.bool fl)).setCell ⟨w.heap.size + 1 + 1, 3, none⟩ (.slice (some ⟨g, 0, none⟩) p.on p.on)).setCell ⟨w.heap.size + 1 + 1, 4, none⟩ (.int .i64 0) := ⟨_, rfl⟩
                rw [← hW7] at QP BP KB ⊢
                clear hW7 z0 z1 z2 z3 z4 f0 f1 f2 f3 f4
                refine hK.out _ _ ⟨X6.out.c.row.of_block (KB.out cb (cyrow_ne X6.out.c.row X6.out.rs (by decide))), X6.out.a.bp.of_block (KB.out _ (by omega))⟩ (fun hHeld => ?_)
                clear hK hHeld3
                refine take_do (i := 7) (v := .nilIface) rfl (by kernel_rfl) (by kernel_rfl) (by kernel_rfl) (fun _ _ _ h => h) (by rfl) ?_ (by assumption) ?_
                · intro w hSw
                  go_simp
                simp only [Act.put, List.setIfInBounds_toArray, List.set_cons_zero, List.set_cons_succ]
                refine wpAnyH_done (by kernel_rfl) ?_ _
                go_wp2_with fail
                refine bodyPost_ret (v := .tuple #[.agg #[.slice (some ⟨tg, 0, none⟩) p.bn p.bn, .slice (some ⟨cg, 0, none⟩) p.bn p.bn, .bool fl, .slice (some ⟨g, 0, none⟩) p.on p.on, .int .i64 0], .nilIface]) (by
                  obtain ⟨⟨x0, x1, x2, x3, x4⟩, _⟩ := rowN5 QP.out
                  simp only [results, Tryz.results46]
                  simp [go_sem, x0, x1, x2, x3, x4]) rfl ⟨Or.inl ⟨HCD.out, some ⟨tg, 0, none⟩, p.bn, some ⟨cg, 0, none⟩, p.bn, some ⟨g, 0, none⟩, p.on, ?_, ?_⟩, BP.out⟩
                · rw [HE.out, ← HFL.out]; rfl
                · rw [HE.out]
                  have hl := HLT.out
                  have ho := X6.out.c.o
                  refine ⟨⟨Or.inr ⟨tg, rfl, ho.2.1, X6.out.c.t.block (KB.out tg (Ne.symm (isblk_ne X6.out.c.t X6.out.rs (by decide))))⟩, Or.inr ⟨cg, rfl, ho.2.2.1, X6.out.c.c.block (KB.out cg (Ne.symm (isblk_ne X6.out.c.c X6.out.rs (by decide))))⟩, fun k e e' => by have q := e.trans e'.symm; simp at q <;> omega⟩, Or.inr ⟨g, rfl, hl.2.2.1, (K6.out.congr (fun j _ => ?_)).block (KB.out g (by omega))⟩, fun k e e' => by have q := e.trans e'.symm; simp at q <;> omega, fun k e e' => by have q := e.trans e'.symm; simp at q <;> omega⟩
                  show (if fl = true then 0 else _) = Cy.out p s I j
                  unfold Cy.out
                  rw [HFL.out]
      · rw [dB_ff k]
        have HE := Lib.hid (Cy.code_bad (p := p) (s := s) (I := I) HBG.out (fun q => k q.2.2))
        clear k
        have QP := Lib.hid (cyput5 Q2.out rfl (.slice none 0 0) (.slice none 0 0) (.bool false) (.slice none 0 0) (.int .i64 0))
        have BP := Lib.hid (cybel5 (g := w.heap.size + 1 + 1) S2.out.old (by omega) (.slice none 0 0) (.slice none 0 0) (.bool false) (.slice none 0 0) (.int .i64 0))
        obtain ⟨⟨z0, z1, z2, z3, z4⟩, f0, f1, f2, f3, f4⟩ := rowN5 Q2.out
        have hlt := Q2.out.lt
        go_wp2_with fail
        exact bodyPost_ret (v := .tuple #[coV (Cy.no 0) none 0 none 0 none 0, errV ⟨#[116, 104, 101, 32, 105, 110, 115, 32, 111, 102, 32, 97, 32, 99, 121, 99, 108, 101]⟩ 1]) (by
          obtain ⟨⟨x0, x1, x2, x3, x4⟩, _⟩ := rowN5 QP.out
          simp only [results, Tryz.results46]
          simp [go_sem, x0, x1, x2, x3, x4, Cy.no, Cy.z0]) rfl ⟨Or.inr ⟨by rw [HE.out]; decide, _, by rw [HE.out]⟩, BP.out⟩
    · have d1 : ((iN : Int) != Pg.ins p) = true := by simp; exact k
      have HE := Lib.hid (Cy.code_bad (s := s) (I := I) HBG.out (fun q => k q.2.1))
      clear k
      have QP := Lib.hid (cyput5 Q2.out rfl (.slice none 0 0) (.slice none 0 0) (.bool false) (.slice none 0 0) (.int .i64 0))
      have BP := Lib.hid (cybel5 (g := w.heap.size + 1 + 1) S2.out.old (by omega) (.slice none 0 0) (.slice none 0 0) (.bool false) (.slice none 0 0) (.int .i64 0))
      obtain ⟨⟨z0, z1, z2, z3, z4⟩, f0, f1, f2, f3, f4⟩ := rowN5 Q2.out
      have hlt := Q2.out.lt
      go_wp2_with fail
      exact bodyPost_ret (v := .tuple #[coV (Cy.no 0) none 0 none 0 none 0, errV ⟨#[116, 104, 101, 32, 105, 110, 115, 32, 111, 102, 32, 97, 32, 99, 121, 99, 108, 101]⟩ 1]) (by
        obtain ⟨⟨x0, x1, x2, x3, x4⟩, _⟩ := rowN5 QP.out
        simp only [results, Tryz.results46]
        simp [go_sem, x0, x1, x2, x3, x4, Cy.no, Cy.z0]) rfl ⟨Or.inr ⟨by rw [HE.out]; decide, _, by rw [HE.out]⟩, BP.out⟩
  · rw [dB_ff k]
    have HE := Lib.hid (Cy.code_bad (I := I) HBG.out (fun q => k q.1))
    clear k
    have QP := Lib.hid (cyput5 Q1.out rfl (.slice none 0 0) (.slice none 0 0) (.bool false) (.slice none 0 0) (.int .i64 0))
    have BP := Lib.hid (cybel5 (g := w.heap.size + 1 + 1) S1.out.old (by omega) (.slice none 0 0) (.slice none 0 0) (.bool false) (.slice none 0 0) (.int .i64 0))
    obtain ⟨⟨z0, z1, z2, z3, z4⟩, f0, f1, f2, f3, f4⟩ := rowN5 Q1.out
    have hlt := Q1.out.lt
    go_wp2_with fail
    exact bodyPost_ret (v := .tuple #[coV (Cy.no 0) none 0 none 0 none 0, errV ⟨#[97, 32, 112, 114, 111, 103, 114, 97, 109, 32, 97, 110, 100, 32, 105, 116, 115, 32, 76, 111, 103, 105, 99]⟩ 1]) (by
      obtain ⟨⟨x0, x1, x2, x3, x4⟩, _⟩ := rowN5 QP.out
      simp only [results, Tryz.results46]
      simp [go_sem, x0, x1, x2, x3, x4, Cy.no, Cy.z0]) rfl ⟨Or.inr ⟨by rw [HE.out]; decide, _, by rw [HE.out]⟩, BP.out⟩
end Go.Proofs.YtogfjomfhenhfaaGreatDoor
