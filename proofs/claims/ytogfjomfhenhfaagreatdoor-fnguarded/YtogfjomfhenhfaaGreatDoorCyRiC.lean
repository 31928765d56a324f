/-
  A run of cycles: the program's.
-/
import Derived.Test.YtogfjomfhenhfaaGreatDoorGdA
import Derived.Test.YtogfjomfhenhfaaGreatDoorCyI7
import Derived.Deep.DeepCutAuto
namespace Go.Proofs.YtogfjomfhenhfaaGreatDoor
open Go.RowKit Go.Deep

theorem mk_ss (n : Nat) (hn : n ≤ 1048576) (w : World) : (Instr.makeSlice 28 (.int .i64 (n : Int)) (.int .i64 (n : Int))).run Tryz.prog w = .ok (.slice (some ⟨w.heap.size, 0, none⟩) n n) (w.alloc (.cells (madeCells #[.slice none 0 0] (n * 1)) 24)) := by
  obtain ⟨i0, hi, hz0, hz1, hz2⟩ := info_parts rwinfo
  have := run_make (P := Tryz.prog) w 28 24 i0 _ Tryz.underlying28 hi hz0 .i64 .i64 n n (by omega) (Int.le_refl _) (by rw [hz2]; omega) (by omega)
  rw [hz1] at this
  simp only [Int.toNat_natCast] at this
  exact this
/-- What stands ahead of a cycle of a run. -/
structure CyQ (p : Pg.Prog) (la : Option Addr) (lk : Nat) (fa : Option Addr) (fk : Nat) (wa : Option Addr) (wk : Nat) (LN : Nat → Nat) (L : Nat → Nat → Int) (gs gl i n : Nat) (a : Option Addr) (k : Nat) (b : Option Addr) (l : Nat) (aj : Nat → Option Addr) (cj : Nat → Nat) (F : Nat → Value) (w W : World) : Prop where
  bp : W.rowIs w.heap.size 27 3 (rowN (pgL p la lk fa fk wa wk))
  bs : W.rowIs gs 33 3 (rowN (lgL (Cy.st p LN L i) a k b l))
  lg : LgO 2 w.heap.size (Cy.st p LN L i).n k (Cy.st p LN L i).m l a b (Cy.st p LN L i).T (Cy.st p LN L i).C W
  ol : W.rowIs gl 24 n F
  oF : ∀ j, j < i → F j = .slice (aj j) p.on (cj j)
  lo : w.heap.size ≤ gs ∧ w.heap.size ≤ gl
  rs : RowsO w.heap.size p.on i aj cj (Cy.ro p LN L) W
  old : Below w.heap.size w W
section
variable {p : Pg.Prog} {la : Option Addr} {lk : Nat} {fa : Option Addr} {fk : Nat} {wa : Option Addr} {wk : Nat} {LN : Nat → Nat} {L : Nat → Nat → Int} {gs gl i n : Nat} {a : Option Addr} {k : Nat} {b : Option Addr} {l : Nat} {aj : Nat → Option Addr} {cj : Nat → Nat} {F : Nat → Value} {w W W' : World}
theorem CyQ.below (h : CyQ p la lk fa fk wa wk LN L gs gl i n a k b l aj cj F w W) (hb : Below W.heap.size W W') : CyQ p la lk fa fk wa wk LN L gs gl i n a k b l aj cj F w W' :=
  ⟨nrow_below h.bp hb, nrow_below h.bs hb, h.lg.below hb, nrow_below h.ol hb, h.oF, h.lo, h.rs.below hb, h.old.trans (hb.mono h.old.size)⟩
/-- Behind the cycle. -/
theorem CyQ.next {x : Cy.Ans} {a' b' c : Option Addr} {k' l' q D : Nat} (h : CyQ p la lk fa fk wa wk LN L gs gl i n a k b l aj cj F w W) (hb : Below W.heap.size W W') (hx : x = Cy.ans p (Cy.st p LN L i) (LN i) (L i)) (hn : x.n = p.on) (hD : W.heap.size ≤ D)
    (ho : CoO 2 D x.s.n k' x.s.m l' x.n q a' b' c x.s.T x.s.C x.O W') :
    CyQ p la lk fa fk wa wk LN L gs gl (i + 1) n a' k' b' l' (fun j => if j = i then c else aj j) (fun j => if j = i then q else cj j) (fun j => if j = i then .slice c x.n q else F j) w ((((W'.setCell ⟨gs, 0, none⟩ (.slice a' x.s.n k')).setCell ⟨gs, 1, none⟩ (.slice b' x.s.m l')).setCell ⟨gs, 2, none⟩ (.bool x.s.fl)).setCell ⟨gl, i, none⟩ (.slice c x.n q)) := by
  have hw : w.heap.size ≤ W.heap.size := h.old.size
  have h2 := h.below hb
  have hs : Cy.st p LN L (i + 1) = x.s := by rw [hx]; rfl
  have n1 : gs ≠ w.heap.size := cyrow_ne h.bs h.bp (by decide)
  have n2 : gl ≠ w.heap.size := cyrow_ne h.ol h.bp (by decide)
  have n3 : gl ≠ gs := cyrow_ne h.ol h.bs (by decide)
  have t1 : ∀ j, a' = some ⟨j, 0, none⟩ ∨ b' = some ⟨j, 0, none⟩ ∨ c = some ⟨j, 0, none⟩ → j ≠ gs ∧ j ≠ gl := by
    rintro j e
    refine ⟨?_, ?_⟩
    · rintro rfl
      rcases e with e | e | e
      · exact ho.s.t.ne h2.bs (by decide) e
      · exact ho.s.c.ne h2.bs (by decide) e
      · exact ho.o.ne h2.bs (by decide) e
    · rintro rfl
      rcases e with e | e | e
      · exact ho.s.t.ne h2.ol (by decide) e
      · exact ho.s.c.ne h2.ol (by decide) e
      · exact ho.o.ne h2.ol (by decide) e
  have kb : ∀ j, j ≠ gs → j ≠ gl → (((((W'.setCell ⟨gs, 0, none⟩ (.slice a' x.s.n k')).setCell ⟨gs, 1, none⟩ (.slice b' x.s.m l')).setCell ⟨gs, 2, none⟩ (.bool x.s.fl)).setCell ⟨gl, i, none⟩ (.slice c x.n q)).heap)[j]? = W'.heap[j]? := fun j e1 e2 =>
    (Below.heap_setCell _ _ _ _ e2).trans ((Below.heap_setCell _ _ _ _ e1).trans ((Below.heap_setCell _ _ _ _ e1).trans (Below.heap_setCell _ _ _ _ e1)))
  have hco : x.O = Cy.ro p LN L i := by rw [hx]; rfl
  have row := h.rs.more (a := c) (c := q) hD hb (Nat.le_trans hw hD) (by rw [← hco, ← hn]; exact ho.o)
  refine ⟨nrow_set (nrow_set (nrow_set (nrow_set h2.bp (p := ⟨gs, 0, none⟩) (Ne.symm n1) _) (p := ⟨gs, 1, none⟩) (Ne.symm n1) _) (p := ⟨gs, 2, none⟩) (Ne.symm n1) _) (p := ⟨gl, i, none⟩) (Ne.symm n2) _, ?_, ?_, ?_, ?_, h.lo, ?_, ?_⟩
  · rw [hs]
    exact nrow_set (rowN_put (rowN_put (rowN_put h2.bs 0 (.slice a' x.s.n k') (by simp)) 1 (.slice b' x.s.m l') (by simp)) 2 (.bool x.s.fl) (by simp)) (p := ⟨gl, i, none⟩) (Ne.symm n3) _
  · rw [hs]
    exact (ho.s.low (Nat.le_trans hw hD)).keep (fun j e _ _ => kb j (t1 j (by rcases e with e | e; exact Or.inl e; exact Or.inr (Or.inl e))).1 (t1 j (by rcases e with e | e; exact Or.inl e; exact Or.inr (Or.inl e))).2)
  · exact (nrow_set (nrow_set (nrow_set h2.ol (p := ⟨gs, 0, none⟩) n3 _) (p := ⟨gs, 1, none⟩) n3 _) (p := ⟨gs, 2, none⟩) n3 _).set i _
  · intro j hj
    by_cases e : j = i
    · simp only [if_pos e]; rw [hn]
    · simp only [if_neg e]; exact h.oF j (by omega)
  · refine row.keep (fun g _ _ j hj e => kb g ?_ ?_)
    · rintro rfl
      exact (row.o j hj).ne h2.bs (by decide) e
    · rintro rfl
      exact (row.o j hj).ne h2.ol (by decide) e
  · exact (((h2.old.setCell (p := ⟨gs, 0, none⟩) h.lo.1 _).setCell (p := ⟨gs, 1, none⟩) h.lo.1 _).setCell (p := ⟨gs, 2, none⟩) h.lo.1 _).setCell (p := ⟨gl, i, none⟩) h.lo.2 _
end
set_option maxRecDepth 100000 in
set_option maxHeartbeats 8000000 in
theorem implLRunC_any (p : Pg.Prog) (la : Option Addr) (lk : Nat) (fa : Option Addr) (fk : Nat) (wa : Option Addr) (wk : Nat) (ga : Option Addr) (n ca : Nat) (CK : Nat → Nat) (LN : Nat → Nat) (L : Nat → Nat → Int) (w : World) (h : PgAt p la fa wa w) (hs : PgSmall p) (h2 : LsC ga n LN CK L w) (hn : n ≤ 1048576) (hl : ∀ i, i < n → LN i ≤ 1048576) (hg : Et w) :
    Calls Tryz.prog 8 #[pgV p la lk fa fk wa wk, .slice ga n ca] w fun e w' => RowsEnd w.heap.size (Cy.rn p LN L n) p.on (Cy.ro p LN L) e w' ∧ Below w.heap.size w w' := by
  by_cases big : 100 < n
  · have bigz : (100 : Int) < (n : Int) := by omega
    have HE := Lib.hid (Cy.rn_big (p := p) (LN := LN) (L := L) big)
    clear big
    go_enter Tryz.func8, Tryz.ntmps8
    go_wp2_with fail
    go_ret
    rw [HE.out]
    exact ⟨RowsEnd.nil, nbel_alloc _ _⟩
  obtain ⟨W, hW⟩ : ∃ W, W = w.alloc (.cells #[.slice la p.bn lk, .slice fa p.on fk, .slice wa p.nn wk] 27) := ⟨_, rfl⟩
  have R0 : Hid (W.rowIs w.heap.size 27 3 (rowN (pgL p la lk fa fk wa wk))) := by show World.rowIs _ _ _ _ _; rw [hW]; exact rowN_alloc w (pgL p la lk fa fk wa wk) _
  have B0 : Hid (Below w.heap.size w W) := by show Below _ _ _; rw [hW]; exact nbel_alloc _ _
  have H := Lib.hid h
  have HS := Lib.hid hs
  have H2 := Lib.hid h2
  have HL := Lib.hid hl
  have HG := Lib.hid hg
  have HBG := Lib.hid big
  have bigz : ¬ (100 : Int) < (n : Int) := by omega
  have HW := Lib.hid hW
  have hmk := mk_ss n hn
  clear h hs hW h2 hl hg big
  obtain ⟨⟨x0, x1, x2⟩, _⟩ := rowN3 R0.out
  rw [HW.out] at x0 x1 x2
  go_enter Tryz.func8, Tryz.ntmps8
  go_wp2_with fail
  rw [← HW.out]
  clear HW x0 x1 x2
  refine (implStart_any p la lk fa fk wa wk W (H.out.below B0.out) HS.out).mono ?_
  rintro e w1 ⟨⟨a, k, b, l, rfl, hO⟩, hb⟩
  have R1 := Lib.hid (nrow_below R0.out hb)
  have B1 : Hid (Below w.heap.size w w1) := B0.out.trans (hb.mono B0.out.size)
  have O1 := Lib.hid (hO.low B0.out.size)
  clear hb hO R0 B0
  go_wp2_with fail
  obtain ⟨gs, hgs⟩ : ∃ gs, gs = w1.heap.size := ⟨_, rfl⟩
  obtain ⟨V1, hV1⟩ : ∃ V1, V1 = w1.alloc (.cells #[.slice a (Cy.start p).n k, .slice b (Cy.start p).m l, .bool (Cy.start p).fl] 33) := ⟨_, rfl⟩
  have bV1 : Below w1.heap.size w1 V1 := by rw [hV1]; exact nbel_alloc _ _
  have rV1 : V1.rowIs gs 33 3 (rowN (lgL (Cy.start p) a k b l)) := by rw [hV1, hgs]; exact rowN_alloc w1 (lgL (Cy.start p) a k b l) _
  obtain ⟨gl, hgl⟩ : ∃ gl, gl = V1.heap.size := ⟨_, rfl⟩
  obtain ⟨V2, hV2⟩ : ∃ V2, V2 = V1.alloc (.cells (madeCells #[.slice none 0 0] n) 24) := ⟨_, rfl⟩
  have bV2 : Below V1.heap.size V1 V2 := by rw [hV2]; exact nbel_alloc _ _
  have rV2 : V2.rowIs gl 24 n (fun _ => .slice none 0 0) := by rw [hV2, hgl]; exact World.rowIs_made V1 (.slice none 0 0) n 24
  have U0 : Hid (CyQ p la lk fa fk wa wk LN L gs gl 0 n a k b l (fun _ => none) (fun _ => 0) (fun _ => .slice none 0 0) w V2) :=
    ⟨nrow_below (nrow_below R1.out bV1) bV2, nrow_below rV1 bV2, (O1.out.below bV1).below bV2, rV2, fun j hj => absurd hj (by omega), ⟨by rw [hgs]; exact B1.out.size, by rw [hgl]; exact Nat.le_trans B1.out.size bV1.size⟩, RowsO.none, (B1.out.trans (bV1.mono B1.out.size)).trans (bV2.mono (Nat.le_trans B1.out.size bV1.size))⟩
  have hgl2 : gl = gs + 1 := by rw [hgl, hV1, hgs]; simp
  rw [← hV1, ← hV2, ← hgs, ← hgl2]
  clear hV1 hV2 hgs hgl hgl2 bV1 bV2 rV1 rV2 R1 B1 O1
  go_loopw [20] (fun iv wr => ∃ (i : Nat), i ≤ n ∧ iv = .int .i64 i ∧ Hid (Cy.Runs p LN L i ∧ ∃ a k b l aj cj F, CyQ p la lk fa fk wa wk LN L gs gl i n a k b l aj cj F w wr)) (fun iv _ => n - (intOf iv).toNat)
  case atStart => exact ⟨0, Nat.zero_le _, rfl, ⟨Cy.runs0, _, _, _, _, _, _, _, U0.out⟩⟩
  case round =>
    obtain ⟨i, hi2, rfl, hX⟩ := hrel
    clear U0
    obtain ⟨hR, a, k, b, l, aj, cj, F, hU⟩ := hX.out
    have HR := Lib.hid hR
    have U := Lib.hid hU
    clear hX hR hU
    by_cases hlt : i < n
    · have hltz : (i : Int) < (n : Int) := by omega
      have HLT := Lib.hid hlt
      obtain ⟨g, lb, ge, lc, hlb, hck⟩ := (H2.out.below U.out.old) i hlt
      subst ge
      have HCK := Lib.hid hck
      clear hck
      have LB := Lib.hid hlb
      clear hlb hlt
      obtain ⟨⟨x0, x1, x2⟩, _⟩ := rowN3 U.out.bp
      obtain ⟨⟨y0, y1, y2⟩, _⟩ := rowN3 U.out.bs
      go_wp2_with fail
      clear x0 x1 x2 y0 y1 y2 lc
      refine (implCycle_any p la lk fa fk wa wk (Cy.st p LN L i) a k b l lb (LN i) (CK i) (L i) wr (H.out.below U.out.old) HS.out U.out.lg.ls (run_small HS.out i) LB.out (HL.out i HLT.out) HCK.out.1 (HG.out.below U.out.old)).mono ?_
      rintro e w2 ⟨hE, hb⟩
      obtain ⟨x, hx⟩ : ∃ x, x = Cy.ans p (Cy.st p LN L i) (LN i) (L i) := ⟨_, rfl⟩
      rw [← hx] at hE
      have HX := Lib.hid hx
      obtain ⟨a', k', b', l', c, q, rfl, hO⟩ := hE
      obtain ⟨ob, hob⟩ : ∃ ob, ob = w2.heap.size := ⟨_, rfl⟩
      obtain ⟨Z, hZ⟩ : ∃ Z, Z = w2.alloc (.cells (coA x a' k' b' l' c q) 38) := ⟨_, rfl⟩
      have hbz : Below wr.heap.size wr Z := hb.trans (by rw [hZ]; exact (nbel_alloc _ _).mono hb.size)
      have hoz : CoO 2 wr.heap.size x.s.n k' x.s.m l' x.n q a' b' c x.s.T x.s.C x.O Z := by rw [hZ]; exact hO.below (nbel_alloc _ _)
      have hrz : Z.rowIs ob 38 5 (rowN (coL x a' k' b' l' c q)) := by rw [hZ, hob]; exact rowN_alloc w2 (coL x a' k' b' l' c q) _
      have OZ := Lib.hid hoz
      have RZ := Lib.hid hrz
      have BZ := Lib.hid hbz
      have HZ := Lib.hid hZ
      have HOB := Lib.hid hob
      clear hO hb hx hob hoz hbz hZ
      obtain ⟨⟨o0, o1, o2, o3, o4⟩, _⟩ := rowN5 hrz
      rw [HZ.out, HOB.out] at o4
      clear hrz o0 o1 o2 o3
      by_cases hc : Cy.code p (Cy.st p LN L i) (LN i) (L i) = 0
      · have HC := Lib.hid hc
        have hcd : x.cd = 0 := by rw [HX.out, Cy.ans_cd]; exact hc
        have HN : Hid (x.n = p.on) := by show _ = _; rw [HX.out]; exact Cy.ans_n hc
        rw [hcd] at o4
        have HCD := Lib.hid hcd
        clear hc hcd
        go_wp2_with fail
        rw [← HZ.out, ← HOB.out]
        clear HZ HOB o4
        refine wp_region_held_drew (S := fun V => V.rowIs ob 38 5 (rowN (coL x a' k' b' l' c q))) (by kernel_rfl) (nrow_below RZ.out (Below.refl _ _).drew) (fun hHeld => ?_)
        have OY := Lib.hid (OZ.out.below (Below.refl Z.heap.size Z).drew)
        have RY := Lib.hid (nrow_below RZ.out (Below.refl _ Z).drew)
        have BY : Hid (Below wr.heap.size wr Z.drew) := BZ.out.trans ((Below.refl Z.heap.size Z).drew.mono BZ.out.size)
        obtain ⟨Y, hY⟩ : ∃ Y, Y = Z.drew := ⟨_, rfl⟩
        rw [← hY] at hHeld OY RY BY ⊢
        clear hY OZ RZ BZ
        refine take_do (i := 0) (v := (.slice (some ⟨gl, 0, none⟩) n n)) rfl (by kernel_rfl) (by kernel_rfl) (by kernel_rfl) (fun _ _ _ h => h) (by rfl) ?_ (by assumption) ?_
        · intro w hSw
          go_simp
        simp only [Act.put, List.setIfInBounds_toArray, List.set_cons_zero, List.set_cons_succ]
        refine take_do (i := 1) (v := (.int .i64 i)) rfl (by kernel_rfl) (by kernel_rfl) (by kernel_rfl) (fun _ _ _ h => h) (by rfl) ?_ (by assumption) ?_
        · intro w hSw
          go_simp
        simp only [Act.put, List.setIfInBounds_toArray, List.set_cons_zero, List.set_cons_succ]
        refine take_do (i := 2) (v := (.pointer (some ⟨ob, 0, none⟩))) rfl (by kernel_rfl) (by kernel_rfl) (by kernel_rfl) (fun _ _ _ h => h) (by rfl) ?_ (by assumption) ?_
        · intro w hSw
          go_simp
        simp only [Act.put, List.setIfInBounds_toArray, List.set_cons_zero, List.set_cons_succ]
        refine take_do (i := 3) (v := (.agg #[.slice a' x.s.n k', .slice b' x.s.m l', .bool x.s.fl])) rfl (by kernel_rfl) (by kernel_rfl) (by kernel_rfl) (fun _ _ _ h => h) (by rfl) ?_ (by assumption) ?_
        · intro w hSw
          obtain ⟨⟨r0, r1, r2, r3, r4⟩, _⟩ := rowN5 hSw
          go_simp
        simp only [Act.put, List.setIfInBounds_toArray, List.set_cons_zero, List.set_cons_succ]
        refine take_do (i := 4) (v := (.pointer (some ⟨ob, 3, none⟩))) rfl (by kernel_rfl) (by kernel_rfl) (by kernel_rfl) (fun _ _ _ h => h) (by rfl) ?_ (by assumption) ?_
        · intro w hSw
          go_simp
        simp only [Act.put, List.setIfInBounds_toArray, List.set_cons_zero, List.set_cons_succ]
        refine take_do (i := 5) (v := (.slice c x.n q)) rfl (by kernel_rfl) (by kernel_rfl) (by kernel_rfl) (fun _ _ _ h => h) (by rfl) ?_ (by assumption) ?_
        · intro w hSw
          obtain ⟨⟨r0, r1, r2, r3, r4⟩, _⟩ := rowN5 hSw
          go_simp
        simp only [Act.put, List.setIfInBounds_toArray, List.set_cons_zero, List.set_cons_succ]
        refine take_call (i := 6) rfl (by kernel_rfl) (fun K2 hK => ?_)
        have UY := Lib.hid (U.out.below BY.out)
        obtain ⟨⟨z0, z1, z2⟩, f0, f1, f2⟩ := rowN3 UY.out.bs
        have hrl := UY.out.bs.lt
        go_simp
        have NX := Lib.hid (U.out.next BY.out HX.out HN.out (Nat.le_refl _) OY.out)
        have RW := Lib.hid (nrow_set (nrow_set (nrow_set RY.out (p := ⟨gs, 0, none⟩) (cyrow_ne RY.out UY.out.bs (by decide)) (.slice a' x.s.n k')) (p := ⟨gs, 1, none⟩) (cyrow_ne RY.out UY.out.bs (by decide)) (.slice b' x.s.m l')) (p := ⟨gs, 2, none⟩) (cyrow_ne RY.out UY.out.bs (by decide)) (.bool x.s.fl))
        have OL := Lib.hid (nrow_set (nrow_set (nrow_set UY.out.ol (p := ⟨gs, 0, none⟩) (cyrow_ne UY.out.ol UY.out.bs (by decide)) (.slice a' x.s.n k')) (p := ⟨gs, 1, none⟩) (cyrow_ne UY.out.ol UY.out.bs (by decide)) (.slice b' x.s.m l')) (p := ⟨gs, 2, none⟩) (cyrow_ne UY.out.ol UY.out.bs (by decide)) (.bool x.s.fl))
        obtain ⟨W7, hW7⟩ : ∃ W7, W7 = ((Y.setCell ⟨gs, 0, none⟩ (.slice a' x.s.n k')).setCell ⟨gs, 1, none⟩ (.slice b' x.s.m l')).setCell ⟨gs, 2, none⟩ (.bool x.s.fl) := ⟨_, rfl⟩
        rw [← hW7] at NX RW OL ⊢
        clear hW7 z0 z1 z2 f0 f1 f2 hrl
        refine hK.out _ _ RW.out (fun hHeld2 => ?_)
        clear hK hHeld UY U OY RY BY
        refine take_do (i := 7) (v := (.pointer (some ⟨gl, i, none⟩))) rfl (by kernel_rfl) (by kernel_rfl) (by kernel_rfl) (fun _ _ _ h => h) (by rfl) ?_ (by assumption) ?_
        · intro w hSw
          go_simp
        simp only [Act.put, List.setIfInBounds_toArray, List.set_cons_zero, List.set_cons_succ]
        refine take_call (i := 8) rfl (by kernel_rfl) (fun K2 hK => ?_)
        have c0 := OL.out.cell HLT.out
        have c1 := OL.out.frozen i
        have c2 := OL.out.lt
        go_simp
        have RW2 := Lib.hid (nrow_set RW.out (p := ⟨gl, i, none⟩) (cyrow_ne RW.out OL.out (by decide)) (.slice c x.n q))
        obtain ⟨W8, hW8⟩ : ∃ W8, W8 = W7.setCell ⟨gl, i, none⟩ (.slice c x.n q) := ⟨_, rfl⟩
        rw [← hW8] at NX RW2 ⊢
        clear hW8 c0 c1 c2
        refine hK.out _ _ RW2.out (fun hHeld => ?_)
        clear hK hHeld hHeld2 RW RW2 OL
        refine wpAnyH_done (by kernel_rfl) ?_ _
        go_wp2_with fail
        go_roundw
        case rel => exact ⟨i + 1, by have := HLT.out; omega, by go_num, ⟨HR.out.more HC.out, _, _, _, _, _, _, _, NX.out⟩⟩
        case measure => have := HLT.out; simp [intOf]; omega
      · have hcd : x.cd ≠ 0 := by rw [HX.out, Cy.ans_cd]; exact hc
        have HE := Lib.hid (Cy.runs_stop HLT.out hc)
        have hbn : (x.cd != 0) = true := by simp; exact hcd
        have B2 : Hid (Below w.heap.size w Z) := U.out.old.trans (BZ.out.mono U.out.old.size)
        clear hc hcd
        go_wp2_with fail
        go_ret
        rw [HE.out, ← HZ.out]
        exact ⟨RowsEnd.nil, B2.out⟩
    · obtain rfl : i = n := by omega
      clear hi2
      have HE := Lib.hid (Cy.rn_ok HBG.out HR.out)
      go_wp2_with fail
      go_ret
      rw [HE.out]
      exact ⟨U.out.rs.ss U.out.lo.2 U.out.ol (Nat.le_refl _) U.out.oF, U.out.old⟩
end Go.Proofs.YtogfjomfhenhfaaGreatDoor
