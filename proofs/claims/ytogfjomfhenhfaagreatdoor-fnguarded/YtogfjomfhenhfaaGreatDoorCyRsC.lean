/-
  A run of cycles: the model's.
-/
import Derived.Test.YtogfjomfhenhfaaGreatDoorGdA
import Derived.Test.YtogfjomfhenhfaaGreatDoorCyS2
import Derived.Test.YtogfjomfhenhfaaGreatDoorCyRiC
import Derived.Deep.DeepCutAuto
namespace Go.Proofs.YtogfjomfhenhfaaGreatDoor
open Go.RowKit Go.Deep

theorem rw_ne {B n m g : Nat} {T S : TypeId} {v : Value} {xs : List Value} {F : Nat → Value} {W : World} (h : W.ownsRow B T 1 v n xs) (hr : W.rowIs g S m F) (hT : T ≠ S) : v.ownBlock ≠ some g := by
  intro e
  rcases h.2 with ⟨rfl, _⟩ | ⟨g', cap, cur, rfl, _, e3, _⟩
  · cases e
  · cases e
    obtain ⟨c, q, _⟩ := hr
    rw [e3] at q
    simp at q
    exact hT q.2
/-- A list of numbers stays, whatever becomes of the box and of the list of rows. -/
theorem cyo_stay {B D N c n m gs : Nat} {S : TypeId} {a : Option Addr} {f : Nat → Int} {v : Value} {xs : List Value} {G : Nat → Value} {Z Z2 : World} (h : CyO 2 B N a c f Z) (bs : Z.rowIs gs S m G) (hS : 2 ≠ S) (ow : Z.ownsRow D 24 1 v n xs) (KP : ∀ j, j < Z.heap.size → j ≠ gs → v.ownBlock ≠ some j → Z2.heap[j]? = Z.heap[j]?) : CyO 2 B N a c f Z2 := by
  rcases h with h | ⟨g, e, h1, h2⟩
  · exact Or.inl h
  · refine Or.inr ⟨g, e, h1, h2.block (KP g h2.lt (Ne.symm (isblk_ne h2 bs hS)) ?_)⟩
    obtain ⟨M, F, _, r, _⟩ := h2
    exact rw_ne ow r (by decide)
/-- What stands ahead of a cycle of a run. -/
structure CyT (p : Pg.Prog) (la : Option Addr) (lk : Nat) (fa : Option Addr) (fk : Nat) (wa : Option Addr) (wk : Nat) (LN : Nat → Nat) (L : Nat → Nat → Int) (gs i : Nat) (a : Option Addr) (k : Nat) (b : Option Addr) (l : Nat) (aj : Nat → Option Addr) (cj : Nat → Nat) (v : Value) (w W : World) : Prop where
  bp : W.rowIs w.heap.size 27 3 (rowN (pgL p la lk fa fk wa wk))
  bs : W.rowIs gs 33 3 (rowN (lgL (Cy.st p LN L i) a k b l))
  lg : LgO 2 w.heap.size (Cy.st p LN L i).n k (Cy.st p LN L i).m l a b (Cy.st p LN L i).T (Cy.st p LN L i).C W
  ow : W.ownsRow w.heap.size 24 1 v i (rwV p.on aj cj i)
  lo : w.heap.size ≤ gs
  rs : RowsO w.heap.size p.on i aj cj (Cy.ro p LN L) W
  old : Below w.heap.size w W
section
variable {p : Pg.Prog} {la : Option Addr} {lk : Nat} {fa : Option Addr} {fk : Nat} {wa : Option Addr} {wk : Nat} {LN : Nat → Nat} {L : Nat → Nat → Int} {gs i : Nat} {a : Option Addr} {k : Nat} {b : Option Addr} {l : Nat} {aj : Nat → Option Addr} {cj : Nat → Nat} {v : Value} {w W W' : World}
theorem CyT.below (h : CyT p la lk fa fk wa wk LN L gs i a k b l aj cj v w W) (hb : Below W.heap.size W W') : CyT p la lk fa fk wa wk LN L gs i a k b l aj cj v w W' :=
  ⟨nrow_below h.bp hb, nrow_below h.bs hb, h.lg.below hb, h.ow.kept (row := none) ⟨hb.os, hb.tape, hb.output, hb.size, fun k hk _ => hb.block k hk⟩ (by cases v.ownBlock <;> simp), h.lo, h.rs.below hb, h.old.trans (hb.mono h.old.size)⟩
/-- Behind the cycle and the append. -/
theorem CyT.next {x : Cy.Ans} {a' b' c : Option Addr} {k' l' q D : Nat} {v2 : Value} {o : Obj} {Z Z2 : World} (h : CyT p la lk fa fk wa wk LN L gs i a k b l aj cj v w W) (hb : Below W.heap.size W Z) (hx : x = Cy.ans p (Cy.st p LN L i) (LN i) (L i)) (hn : x.n = p.on) (hD : W.heap.size ≤ D)
    (ho : CoO 2 D x.s.n k' x.s.m l' x.n q a' b' c x.s.T x.s.C x.O Z) (hgrow : ((((Z.setCell ⟨gs, 0, none⟩ (.slice a' x.s.n k')).setCell ⟨gs, 1, none⟩ (.slice b' x.s.m l')).setCell ⟨gs, 2, none⟩ (.bool x.s.fl)).alloc o).grownBy Z2 v.ownBlock)
    (hown : Z2.ownsRow w.heap.size 24 1 v2 (i + 1) (rwV p.on (fun j => if j = i then c else aj j) (fun j => if j = i then q else cj j) (i + 1))) :
    CyT p la lk fa fk wa wk LN L gs (i + 1) a' k' b' l' (fun j => if j = i then c else aj j) (fun j => if j = i then q else cj j) v2 w Z2 := by
  have hw : w.heap.size ≤ W.heap.size := h.old.size
  have h2 := h.below hb
  have hs : Cy.st p LN L (i + 1) = x.s := by rw [hx]; rfl
  have hco : x.O = Cy.ro p LN L i := by rw [hx]; rfl
  have n1 : gs ≠ w.heap.size := cyrow_ne h.bs h.bp (by decide)
  obtain ⟨W7, hW7⟩ : ∃ W7, W7 = ((Z.setCell ⟨gs, 0, none⟩ (.slice a' x.s.n k')).setCell ⟨gs, 1, none⟩ (.slice b' x.s.m l')).setCell ⟨gs, 2, none⟩ (.bool x.s.fl) := ⟨_, rfl⟩
  have s7 : W7.heap.size = Z.heap.size := by rw [hW7]; simp
  have kb : ∀ j, j ≠ gs → W7.heap[j]? = Z.heap[j]? := fun j e1 => by
    rw [hW7]
    exact (Below.heap_setCell _ _ _ _ e1).trans ((Below.heap_setCell _ _ _ _ e1).trans (Below.heap_setCell _ _ _ _ e1))
  have b7 : W7.rowIs gs 33 3 (rowN [.slice a' x.s.n k', .slice b' x.s.m l', .bool x.s.fl]) := by rw [hW7]; exact rowN_put (rowN_put (rowN_put h2.bs 0 (.slice a' x.s.n k') (by simp)) 1 (.slice b' x.s.m l') (by simp)) 2 (.bool x.s.fl) (by simp)
  have o7 : Below w.heap.size w W7 := by rw [hW7]; exact ((h2.old.setCell (p := ⟨gs, 0, none⟩) h.lo _).setCell (p := ⟨gs, 1, none⟩) h.lo _).setCell (p := ⟨gs, 2, none⟩) h.lo _
  rw [← hW7] at hgrow
  clear hW7
  have KG : ∀ j, j < W7.heap.size → v.ownBlock ≠ some j → Z2.heap[j]? = W7.heap[j]? := fun j hj e => (hgrow.block j (by simp; omega) (fun q => e q.symm)).trans ((nbel_alloc W7 o).block j hj)
  have KP : ∀ j, j < Z.heap.size → j ≠ gs → v.ownBlock ≠ some j → Z2.heap[j]? = Z.heap[j]? := fun j hj e1 e2 => (KG j (by omega) e2).trans (kb j e1)
  have row := h.rs.more (a := c) (c := q) hD hb (Nat.le_trans hw hD) (by rw [← hco, ← hn]; exact ho.o)
  refine ⟨h2.bp.of_block (KP _ h2.bp.lt (Ne.symm n1) (rw_ne h2.ow h2.bp (by decide))), ?_, ?_, hown, h.lo, ⟨fun j hj => cyo_stay (row.o j hj) h2.bs (by decide) h2.ow KP, row.ne⟩, cy_grown (o7.alloc (by rw [s7]; exact Nat.le_trans hw hb.size) o) (by simp; have := hb.size; omega) hgrow (fun k e => (h.ow.lt k e).1)⟩
  · rw [hs]
    exact b7.of_block (KG gs b7.lt (rw_ne h2.ow h2.bs (by decide)))
  · rw [hs]
    exact ⟨cyo_stay (ho.s.low (Nat.le_trans hw hD)).t h2.bs (by decide) h2.ow KP, cyo_stay (ho.s.low (Nat.le_trans hw hD)).c h2.bs (by decide) h2.ow KP, ho.s.ne⟩
end
set_option maxRecDepth 100000 in
set_option maxHeartbeats 8000000 in
theorem specLRunC_any (p : Pg.Prog) (la : Option Addr) (lk : Nat) (fa : Option Addr) (fk : Nat) (wa : Option Addr) (wk : Nat) (ga : Option Addr) (n ca : Nat) (CK : Nat → Nat) (LN : Nat → Nat) (L : Nat → Nat → Int) (w : World) (h : PgAt p la fa wa w) (hs : PgSmall p) (h2 : LsC ga n LN CK L w) (hn : n ≤ 1048576) (hl : ∀ i, i < n → LN i ≤ 1048576) :
    Calls Tryz.prog 7 #[pgV p la lk fa fk wa wk, .slice ga n ca] w fun e w' => RowsEnd w.heap.size (Cy.rn p LN L n) p.on (Cy.ro p LN L) e w' ∧ Below w.heap.size w w' := by
  obtain ⟨W, hW⟩ : ∃ W, W = (w.alloc (.cells #[.slice la p.bn lk, .slice fa p.on fk, .slice wa p.nn wk] 27)).alloc (.cells #[] 24) := ⟨_, rfl⟩
  have R0 : Hid (W.rowIs w.heap.size 27 3 (rowN (pgL p la lk fa fk wa wk))) := by show World.rowIs _ _ _ _ _; rw [hW]; exact nrow_below (rowN_alloc w (pgL p la lk fa fk wa wk) _) (nbel_alloc _ _)
  have E0 : Hid (W.rowIs (w.heap.size + 1) 24 0 (rowN [])) := by show World.rowIs _ _ _ _ _; rw [hW]; exact rowN_alloc' (by simp) [] _
  have OW0 : Hid (W.ownsRow w.heap.size 24 1 (.slice (some ⟨w.heap.size + 1, 0, none⟩) 0 0) 0 []) := by
    have := World.ownsRow_made (base := w.heap.size) (e := 24) (size := 1) (w.alloc (.cells #[.slice la p.bn lk, .slice fa p.on fk, .slice wa p.nn wk] 27)) #[] 0 (by simp) (by decide) (by simp)
    show World.ownsRow _ _ _ _ _ _ _
    rw [hW]
    simpa using this
  have B0 : Hid (Below w.heap.size w W) := by show Below _ _ _; rw [hW]; exact (nbel_alloc _ _).alloc (by simp) _
  have H := Lib.hid h
  have HS := Lib.hid hs
  have H2 := Lib.hid h2
  have HL := Lib.hid hl
  have HW := Lib.hid hW
  clear h hs hW h2 hl
  obtain ⟨⟨x0, x1, x2⟩, _⟩ := rowN3 R0.out
  rw [HW.out] at x0 x1 x2
  go_enter Tryz.func7, Tryz.ntmps7
  go_wp2_with fail
  rw [← HW.out]
  clear HW x0 x1 x2
  refine (specPRight_any p la lk fa fk wa wk W (H.out.below B0.out) HS.out).mono ?_
  rintro e w0 ⟨rfl, hb⟩
  replace R0 := Lib.hid (nrow_below R0.out hb)
  replace E0 := Lib.hid (nrow_below E0.out hb)
  replace OW0 : Hid (w0.ownsRow w.heap.size 24 1 (.slice (some ⟨w.heap.size + 1, 0, none⟩) 0 0) 0 []) := OW0.out.kept (row := none) ⟨hb.os, hb.tape, hb.output, hb.size, fun k hk _ => hb.block k hk⟩ (by simp [Value.ownBlock])
  replace B0 : Hid (Below w.heap.size w w0) := B0.out.trans (hb.mono B0.out.size)
  clear hb
  by_cases k : Pg.Right p
  case neg =>
    rw [dB_ff k]
    have HE := Lib.hid (Cy.rn_wrong (LN := LN) (L := L) (n := n) k)
    clear k
    go_wp2_with fail
    go_ret
    rw [HE.out]
    exact ⟨RowsEnd.empty (by omega) E0.out, B0.out⟩
  rw [dB_tt k]
  have HRP := Lib.hid k
  clear k
  by_cases big : 100 < n
  · have bigz : (100 : Int) < (n : Int) := by omega
    have HE := Lib.hid (Cy.rn_big (p := p) (LN := LN) (L := L) big)
    clear big
    go_wp2_with fail
    go_ret
    rw [HE.out]
    exact ⟨RowsEnd.empty (by omega) E0.out, B0.out⟩
  have HBG := Lib.hid big
  have bigz : ¬ (100 : Int) < (n : Int) := by omega
  clear big
  obtain ⟨⟨x0, x1, x2⟩, _⟩ := rowN3 R0.out
  go_wp2_with fail
  clear x0 x1 x2
  refine (specStart_any p la lk fa fk wa wk w0 (H.out.below B0.out) HS.out).mono ?_
  rintro e w1 ⟨⟨a, k, b, l, rfl, hO⟩, hb⟩
  have R1 := Lib.hid (nrow_below R0.out hb)
  have B1 : Hid (Below w.heap.size w w1) := B0.out.trans (hb.mono B0.out.size)
  have O1 := Lib.hid (hO.low B0.out.size)
  have OW1 : Hid (w1.ownsRow w.heap.size 24 1 (.slice (some ⟨w.heap.size + 1, 0, none⟩) 0 0) 0 []) := OW0.out.kept (row := none) ⟨hb.os, hb.tape, hb.output, hb.size, fun k hk _ => hb.block k hk⟩ (by simp [Value.ownBlock])
  clear hb hO R0 B0 E0 OW0
  go_wp2_with fail
  obtain ⟨gs, hgs⟩ : ∃ gs, gs = w1.heap.size := ⟨_, rfl⟩
  obtain ⟨V1, hV1⟩ : ∃ V1, V1 = w1.alloc (.cells #[.slice a (Cy.start p).n k, .slice b (Cy.start p).m l, .bool (Cy.start p).fl] 33) := ⟨_, rfl⟩
  have bV1 : Below w1.heap.size w1 V1 := by rw [hV1]; exact nbel_alloc _ _
  have rV1 : V1.rowIs gs 33 3 (rowN (lgL (Cy.start p) a k b l)) := by rw [hV1, hgs]; exact rowN_alloc w1 (lgL (Cy.start p) a k b l) _
  have U0 : Hid (CyT p la lk fa fk wa wk LN L gs 0 a k b l (fun _ => none) (fun _ => 0) (.slice (some ⟨w.heap.size + 1, 0, none⟩) 0 0) w V1) :=
    ⟨nrow_below R1.out bV1, rV1, O1.out.below bV1, OW1.out.kept (row := none) ⟨bV1.os, bV1.tape, bV1.output, bV1.size, fun k hk _ => bV1.block k hk⟩ (by simp [Value.ownBlock]), by rw [hgs]; exact B1.out.size, RowsO.none, B1.out.trans (bV1.mono B1.out.size)⟩
  rw [← hV1, ← hgs]
  clear hV1 hgs bV1 rV1 R1 B1 O1 OW1
  go_loopw [5, 7] (fun vv iv wr => ∃ (i : Nat) (v : Value), i ≤ n ∧ v = vv ∧ iv = .int .i64 i ∧ Hid (Cy.Runs p LN L i ∧ ∃ a k b l aj cj, CyT p la lk fa fk wa wk LN L gs i a k b l aj cj v w wr)) (fun _ iv _ => n - (intOf iv).toNat)
  case atStart => exact ⟨0, _, Nat.zero_le _, rfl, rfl, ⟨Cy.runs0, _, _, _, _, _, _, U0.out⟩⟩
  case round =>
    obtain ⟨i, v, hi2, rfl, rfl, hX⟩ := hrel
    clear U0
    obtain ⟨hR, a, k, b, l, aj, cj, hU⟩ := hX.out
    have HR := Lib.hid hR
    have U := Lib.hid hU
    clear hX hR hU
    by_cases hlt : i < n
    · have hltz : (i : Int) < (n : Int) := by omega
      have HLT := Lib.hid hlt
      obtain ⟨g, lb, ge, lc, hlb, hck⟩ := (H2.out.below U.out.old) i hlt
      subst ge
      have HCK := Lib.hid hck
      clear hck
      have LB := Lib.hid (And.intro lc hlb)
      clear hlb hlt lc
      obtain ⟨xx, hx⟩ : ∃ xx, xx = Cy.ans p (Cy.st p LN L i) (LN i) (L i) := ⟨_, rfl⟩
      have HX := Lib.hid hx
      clear hx
      go_wp2_with fail
      go_cut [8] (fun q Wq => ∃ xb aN kN bN lN cN qN, q = .pointer (some ⟨xb, 0, none⟩) ∧ Hid (Below wr.heap.size wr Wq ∧ Wq.rowIs xb 38 5 (rowN (coL xx aN kN bN lN cN qN)) ∧ (CoO 2 wr.heap.size xx.s.n kN xx.s.m lN xx.n qN aN bN cN xx.s.T xx.s.C xx.O Wq) ∧ wr.heap.size ≤ xb))
      case first =>
        refine wp_region_held_drew (S := fun V => Below wr.heap.size wr V) (by kernel_rfl) (Below.refl _ _).drew (fun hHeld => ?_)
        obtain ⟨Z, hZ⟩ : ∃ Z, Z = wr.drew := ⟨_, rfl⟩
        rw [← hZ] at hHeld ⊢
        clear hZ
        refine take_do (i := 0) (v := (pgV p la lk fa fk wa wk)) rfl (by kernel_rfl) (by kernel_rfl) (by kernel_rfl) (fun _ _ _ h => h) (by rfl) ?_ (by assumption) ?_
        · intro w hSw
          obtain ⟨⟨r0, r1, r2⟩, _⟩ := rowN3 (nrow_below U.out.bp hSw)
          go_simp
        simp only [Act.put, List.setIfInBounds_toArray, List.set_cons_zero, List.set_cons_succ]
        refine take_do (i := 1) (v := (lgV (Cy.st p LN L i) a k b l)) rfl (by kernel_rfl) (by kernel_rfl) (by kernel_rfl) (fun _ _ _ h => h) (by rfl) ?_ (by assumption) ?_
        · intro w hSw
          obtain ⟨⟨r0, r1, r2⟩, _⟩ := rowN3 (nrow_below U.out.bs hSw)
          go_simp
        simp only [Act.put, List.setIfInBounds_toArray, List.set_cons_zero, List.set_cons_succ]
        refine take_do (i := 2) (v := (.slice (some ⟨g, 0, none⟩) n ca)) rfl (by kernel_rfl) (by kernel_rfl) (by kernel_rfl) (fun _ _ _ h => h) (by rfl) ?_ (by assumption) ?_
        · intro w hSw
          go_simp
        simp only [Act.put, List.setIfInBounds_toArray, List.set_cons_zero, List.set_cons_succ]
        refine take_do (i := 3) (v := (.int .i64 i)) rfl (by kernel_rfl) (by kernel_rfl) (by kernel_rfl) (fun _ _ _ h => h) (by rfl) ?_ (by assumption) ?_
        · intro w hSw
          go_simp
        simp only [Act.put, List.setIfInBounds_toArray, List.set_cons_zero, List.set_cons_succ]
        refine take_do (i := 4) (v := (.pointer (some ⟨g, i, none⟩))) rfl (by kernel_rfl) (by kernel_rfl) (by kernel_rfl) (fun _ _ _ h => h) (by rfl) ?_ (by assumption) ?_
        · intro w hSw
          go_simp
        simp only [Act.put, List.setIfInBounds_toArray, List.set_cons_zero, List.set_cons_succ]
        refine take_do (i := 5) (v := (.slice lb (LN i) (CK i))) rfl (by kernel_rfl) (by kernel_rfl) (by kernel_rfl) (fun _ _ _ h => h) (by rfl) ?_ (by assumption) ?_
        · intro w hSw
          have r0 := (hSw.cell (World.block_lt_of_cell? _ _ LB.out.1)).trans LB.out.1
          go_simp
        simp only [Act.put, List.setIfInBounds_toArray, List.set_cons_zero, List.set_cons_succ]
        refine wpAnyH_ready (rs := [6, 7]) (by kernel_rfl) (by simp) (AllReadyH.cons (at_drop (i := 6) rfl) (fun K2 hK => ?_) (AllReadyH.cons (at_drop (i := 7) rfl) (fun K2 hK => ?_) (AllReadyH.nil)))
        · go_simp
          refine (specCycle_any p la lk fa fk wa wk (Cy.st p LN L i) a k b l lb (LN i) (CK i) (L i) _ (H.out.below (U.out.old.trans (hHeld.mono U.out.old.size))) HS.out (U.out.lg.ls.below hHeld) (run_small HS.out i) (LB.out.2.below hHeld) (HL.out i HLT.out)).mono ?_
          rintro e Z1 ⟨hE, hb⟩
          rw [← HX.out] at hE
          obtain ⟨aN, kN, bN, lN, cN, qN, rfl, hO⟩ := hE
          have HOW := Lib.hid (hO.low hHeld.size)
          clear hO
          go_wp2_with fail
          refine hK.out _ _ (hHeld.trans (hb.mono hHeld.size)) (fun hHeld2 => ?_)
          clear hK hHeld hb
          have hHeld := hHeld2
          clear hHeld2
          refine wpAnyH_ready (rs := [7]) (by kernel_rfl) (by simp) (AllReadyH.cons (at_drop (i := 7) rfl) (fun K2 hK => ?_) (AllReadyH.nil))
          obtain ⟨Z2, hZ2⟩ : ∃ Z2, Z2 = Z1.alloc (.cells #[.slice none 0 0, .slice none 0 0, .bool false, .slice none 0 0, .int .i64 0] 38) := ⟨_, rfl⟩
          have hb : Below Z1.heap.size Z1 Z2 := by rw [hZ2]; exact nbel_alloc _ _
          have HV : Hid (Z2.rowIs Z1.heap.size 38 5 (rowN [.slice none 0 0, .slice none 0 0, .bool false, .slice none 0 0, .int .i64 0])) := by show World.rowIs _ _ _ _ _; rw [hZ2]; exact rowN_alloc _ _ _
          obtain ⟨xb, hxb⟩ : ∃ xb, xb = Z1.heap.size := ⟨_, rfl⟩
          rw [← hxb] at HV
          have HXL : Hid (wr.heap.size ≤ xb) := by show _ ≤ _; rw [hxb]; exact hHeld.size
          have HOW2 := Lib.hid (HOW.out.below hb)
          clear HOW
          have HOW := HOW2
          clear HOW2
          go_simp
          rw [← hZ2, ← hxb]
          clear hZ2
          refine hK.out _ _ (hHeld.trans (hb.mono hHeld.size)) (fun hHeld2 => ?_)
          clear hK hHeld hxb hb
          have hHeld := hHeld2
          clear hHeld2
          have zr := cyput5 HV.out rfl (.slice aN xx.s.n kN) (.slice bN xx.s.m lN) (.bool xx.s.fl) (.slice cN xx.n qN) (.int .i64 xx.cd)
          have zk := fun (k : Nat) (hk : k ≠ xb) => cyblk5 (W := Z2) hk (.slice aN xx.s.n kN) (.slice bN xx.s.m lN) (.bool xx.s.fl) (.slice cN xx.n qN) (.int .i64 xx.cd)
          have zb := cybel5 (g := xb) hHeld HXL.out (.slice aN xx.s.n kN) (.slice bN xx.s.m lN) (.bool xx.s.fl) (.slice cN xx.n qN) (.int .i64 xx.cd)
          obtain ⟨⟨o0, o1, o2, o3, o4⟩, z0, z1, z2, z3, z4⟩ := rowN5 HV.out
          have hol := HV.out.lt
          refine take_call (i := 8) rfl (by kernel_rfl) (fun K2 hK => ?_)
          go_simp
          clear o0 o1 o2 o3 o4 z0 z1 z2 z3 z4
          have zo : CoO 2 wr.heap.size xx.s.n kN xx.s.m lN xx.n qN aN bN cN xx.s.T xx.s.C xx.O _ := HOW.out.keep (fun j e _ _ => zk j (fun e2 => by rw [e2] at e; exact HOW.out.neR HV.out (by decide) e))
          generalize (((((Z2).setCell ⟨xb, 0, none⟩ (.slice aN xx.s.n kN)).setCell ⟨xb, 1, none⟩ (.slice bN xx.s.m lN)).setCell ⟨xb, 2, none⟩ (.bool xx.s.fl)).setCell ⟨xb, 3, none⟩ (.slice cN xx.n qN)).setCell ⟨xb, 4, none⟩ (.int .i64 xx.cd) = Y at zr zk zb zo ⊢
          refine hK.out _ _ zb (fun hHeld2 => ?_)
          clear hK hHeld hHeld2
          refine wpAnyH_done (by kernel_rfl) ?_ _
          have HPR : Hid (Below wr.heap.size wr Y ∧ Y.rowIs xb 38 5 (rowN (coL xx aN kN bN lN cN qN)) ∧ (CoO 2 wr.heap.size xx.s.n kN xx.s.m lN xx.n qN aN bN cN xx.s.T xx.s.C xx.O Y) ∧ wr.heap.size ≤ xb) := ⟨zb, zr, zo, HXL.out⟩
          clear zo
          clear zr zk zb
          go_wp2_with fail
          go_meet
          case rel => exact ⟨xb, aN, kN, bN, lN, cN, qN, rfl, HPR⟩
        · obtain ⟨Z1, hZ1⟩ : ∃ Z1, Z1 = Z.alloc (.cells #[.slice none 0 0, .slice none 0 0, .bool false, .slice none 0 0, .int .i64 0] 38) := ⟨_, rfl⟩
          have hb : Below Z.heap.size Z Z1 := by rw [hZ1]; exact nbel_alloc _ _
          have HV : Hid (Z1.rowIs Z.heap.size 38 5 (rowN [.slice none 0 0, .slice none 0 0, .bool false, .slice none 0 0, .int .i64 0])) := by show World.rowIs _ _ _ _ _; rw [hZ1]; exact rowN_alloc _ _ _
          obtain ⟨xb, hxb⟩ : ∃ xb, xb = Z.heap.size := ⟨_, rfl⟩
          rw [← hxb] at HV
          have HXL : Hid (wr.heap.size ≤ xb) := by show _ ≤ _; rw [hxb]; exact hHeld.size
          go_simp
          rw [← hZ1, ← hxb]
          clear hZ1
          refine hK.out _ _ (hHeld.trans (hb.mono hHeld.size)) (fun hHeld2 => ?_)
          clear hK hHeld hxb hb
          have hHeld := hHeld2
          clear hHeld2
          refine wpAnyH_ready (rs := [6]) (by kernel_rfl) (by simp) (AllReadyH.cons (at_drop (i := 6) rfl) (fun K2 hK => ?_) (AllReadyH.nil))
          go_simp
          refine (specCycle_any p la lk fa fk wa wk (Cy.st p LN L i) a k b l lb (LN i) (CK i) (L i) _ (H.out.below (U.out.old.trans (hHeld.mono U.out.old.size))) HS.out (U.out.lg.ls.below hHeld) (run_small HS.out i) (LB.out.2.below hHeld) (HL.out i HLT.out)).mono ?_
          rintro e Z2 ⟨hE, hb⟩
          rw [← HX.out] at hE
          obtain ⟨aN, kN, bN, lN, cN, qN, rfl, hO⟩ := hE
          have HOW := Lib.hid (hO.low hHeld.size)
          clear hO
          have HV2 := Lib.hid (nrow_below HV.out hb)
          clear HV
          have HV := HV2
          clear HV2
          go_wp2_with fail
          refine hK.out _ _ (hHeld.trans (hb.mono hHeld.size)) (fun hHeld2 => ?_)
          clear hK hHeld hb
          have hHeld := hHeld2
          clear hHeld2
          have zr := cyput5 HV.out rfl (.slice aN xx.s.n kN) (.slice bN xx.s.m lN) (.bool xx.s.fl) (.slice cN xx.n qN) (.int .i64 xx.cd)
          have zk := fun (k : Nat) (hk : k ≠ xb) => cyblk5 (W := Z2) hk (.slice aN xx.s.n kN) (.slice bN xx.s.m lN) (.bool xx.s.fl) (.slice cN xx.n qN) (.int .i64 xx.cd)
          have zb := cybel5 (g := xb) hHeld HXL.out (.slice aN xx.s.n kN) (.slice bN xx.s.m lN) (.bool xx.s.fl) (.slice cN xx.n qN) (.int .i64 xx.cd)
          obtain ⟨⟨o0, o1, o2, o3, o4⟩, z0, z1, z2, z3, z4⟩ := rowN5 HV.out
          have hol := HV.out.lt
          refine take_call (i := 8) rfl (by kernel_rfl) (fun K2 hK => ?_)
          go_simp
          clear o0 o1 o2 o3 o4 z0 z1 z2 z3 z4
          have zo : CoO 2 wr.heap.size xx.s.n kN xx.s.m lN xx.n qN aN bN cN xx.s.T xx.s.C xx.O _ := HOW.out.keep (fun j e _ _ => zk j (fun e2 => by rw [e2] at e; exact HOW.out.neR HV.out (by decide) e))
          generalize (((((Z2).setCell ⟨xb, 0, none⟩ (.slice aN xx.s.n kN)).setCell ⟨xb, 1, none⟩ (.slice bN xx.s.m lN)).setCell ⟨xb, 2, none⟩ (.bool xx.s.fl)).setCell ⟨xb, 3, none⟩ (.slice cN xx.n qN)).setCell ⟨xb, 4, none⟩ (.int .i64 xx.cd) = Y at zr zk zb zo ⊢
          refine hK.out _ _ zb (fun hHeld2 => ?_)
          clear hK hHeld hHeld2
          refine wpAnyH_done (by kernel_rfl) ?_ _
          have HPR : Hid (Below wr.heap.size wr Y ∧ Y.rowIs xb 38 5 (rowN (coL xx aN kN bN lN cN qN)) ∧ (CoO 2 wr.heap.size xx.s.n kN xx.s.m lN xx.n qN aN bN cN xx.s.T xx.s.C xx.O Y) ∧ wr.heap.size ≤ xb) := ⟨zb, zr, zo, HXL.out⟩
          clear zo
          clear zr zk zb
          go_wp2_with fail
          go_meet
          case rel => exact ⟨xb, aN, kN, bN, lN, cN, qN, rfl, HPR⟩
      case rest =>
        obtain ⟨ob, a', k', b', l', c, q, rfl, hPR⟩ := hcut
        obtain ⟨Z, hZ⟩ : ∃ Z, Z = wc := ⟨_, rfl⟩
        rw [← hZ] at hPR ⊢
        clear hZ
        have RZ := Lib.hid hPR.out.2.1
        have OZ := Lib.hid hPR.out.2.2.1
        have BZ := Lib.hid hPR.out.1
        clear hPR
        obtain ⟨⟨o0, o1, o2, o3, o4⟩, _⟩ := rowN5 RZ.out
        by_cases hc : Cy.code p (Cy.st p LN L i) (LN i) (L i) = 0
        · have HC := Lib.hid hc
          have hcd : xx.cd = 0 := by rw [HX.out, Cy.ans_cd]; exact hc
          have HN : Hid (xx.n = p.on) := by show _ = _; rw [HX.out]; exact Cy.ans_n hc
          rw [hcd] at o4
          clear hc hcd
          have UZ := Lib.hid (U.out.below BZ.out)
          obtain ⟨⟨z0, z1, z2⟩, f0, f1, f2⟩ := rowN3 UZ.out.bs
          have hrl := UZ.out.bs.lt
          have hne := cyrow_ne RZ.out UZ.out.bs (by decide)
          go_upto_region 12 with fail
          have RW := Lib.hid (nrow_set (nrow_set (nrow_set RZ.out (p := ⟨gs, 0, none⟩) hne (.slice a' xx.s.n k')) (p := ⟨gs, 1, none⟩) hne (.slice b' xx.s.m l')) (p := ⟨gs, 2, none⟩) hne (.bool xx.s.fl))
          have hw7 : (((Z.setCell ⟨gs, 0, none⟩ (.slice a' xx.s.n k')).setCell ⟨gs, 1, none⟩ (.slice b' xx.s.m l')).setCell ⟨gs, 2, none⟩ (.bool xx.s.fl)).heap.size = Z.heap.size := by simp
          have hpd : Hid (∀ (q : Nat), q < Z.heap.size → q ≠ gs → (((Z.setCell ⟨gs, 0, none⟩ (.slice a' xx.s.n k')).setCell ⟨gs, 1, none⟩ (.slice b' xx.s.m l')).setCell ⟨gs, 2, none⟩ (.bool xx.s.fl)).heap[q]? = Z.heap[q]?) := fun q _ e => (Below.heap_setCell _ _ _ _ e).trans ((Below.heap_setCell _ _ _ _ e).trans (Below.heap_setCell _ _ _ _ e))
          have NXT := Lib.hid (fun (o : Obj) (v2 : Value) (Z2 : World) (hg : ((((Z.setCell ⟨gs, 0, none⟩ (.slice a' xx.s.n k')).setCell ⟨gs, 1, none⟩ (.slice b' xx.s.m l')).setCell ⟨gs, 2, none⟩ (.bool xx.s.fl)).alloc o).grownBy Z2 v.ownBlock) hown => U.out.next (v2 := v2) BZ.out HX.out HN.out (Nat.le_refl _) OZ.out hg hown)
          have OW7 : Hid ((((Z.setCell ⟨gs, 0, none⟩ (.slice a' xx.s.n k')).setCell ⟨gs, 1, none⟩ (.slice b' xx.s.m l')).setCell ⟨gs, 2, none⟩ (.bool xx.s.fl)).ownsRow w.heap.size 24 1 v i (rwV p.on aj cj i)) := UZ.out.ow.kept (row := some gs) ⟨rfl, rfl, rfl, by simp, fun k hk e => (Below.heap_setCell _ _ _ _ (fun h => e (by rw [h]))).trans ((Below.heap_setCell _ _ _ _ (fun h => e (by rw [h]))).trans (Below.heap_setCell _ _ _ _ (fun h => e (by rw [h]))))⟩ (Or.inr (rw_ne UZ.out.ow UZ.out.bs (by decide)))
          have HSZ : Hid (w.heap.size ≤ Z.heap.size) := UZ.out.old.size
          obtain ⟨W7, hW7⟩ : ∃ W7, W7 = ((Z.setCell ⟨gs, 0, none⟩ (.slice a' xx.s.n k')).setCell ⟨gs, 1, none⟩ (.slice b' xx.s.m l')).setCell ⟨gs, 2, none⟩ (.bool xx.s.fl) := ⟨_, rfl⟩
          rw [← hW7] at NXT OW7 RW hw7 ⊢
          have H7 := Lib.hid hw7
          clear hw7 hW7 z0 z1 z2 f0 f1 f2 hrl hne o0 o1 o2 o3 o4 hpd UZ RZ OZ
          obtain ⟨⟨o0, o1, o2, o3, o4⟩, _⟩ := rowN5 RW.out
          have hin : i ≤ 100 := by have := HLT.out; omega
          go_wp2_with (at_builtin; refine wpList_append_rw rfl _ _ rfl w.heap.size v p.on aj cj i c q rfl (OW7.out.alloc _) ⟨W7.heap.size, 0, none⟩ 1 rfl ?at1 ?at3 ?at5 ?_)
          case at1 => rw [← HN.out]; exact (rowN_alloc W7 [.slice c xx.n q] 24).cell (i := 0) (by simp)
          case at3 => omega
          case at5 => have := HSZ.out; have := H7.out; simp; omega
          intro v2 Z2 hown hgrow
          have NX := Lib.hid (NXT.out _ v2 Z2 hgrow hown)
          clear hown hgrow NXT OW7 RW o0 o1 o2 o3 o4 H7
          go_wp2_with fail
          go_roundw
          case rel => exact ⟨i + 1, _, by have := HLT.out; omega, rfl, by go_num, ⟨HR.out.more HC.out, _, _, _, _, _, _, NX.out⟩⟩
          case measure => have := HLT.out; simp [intOf]; omega
        · have hcd : xx.cd ≠ 0 := by rw [HX.out, Cy.ans_cd]; exact hc
          have HE := Lib.hid (Cy.runs_stop HLT.out hc)
          have hbn : (xx.cd != 0) = true := by simp; exact hcd
          have B2 : Hid (Below w.heap.size w Z) := U.out.old.trans (BZ.out.mono U.out.old.size)
          clear hc hcd o0 o1 o2 o3
          go_wp2_with fail
          go_ret
          rw [HE.out]
          exact ⟨RowsEnd.empty B2.out.size (rowN_alloc Z [] _), B2.out.alloc B2.out.size _⟩
    · obtain rfl : i = n := by omega
      clear hi2
      have HE := Lib.hid (Cy.rn_ok HBG.out HR.out)
      obtain ⟨a9, c9, rfl, hh⟩ := own_rows U.out.ow
      have HH := Lib.hid hh
      clear hh
      go_wp2_with fail
      go_ret
      rw [HE.out]
      refine ⟨?_, U.out.old⟩
      rcases HH.out with ⟨rfl, rfl, rfl⟩ | ⟨g9, M, F, rfl, h1, h2, h3, h4⟩
      · exact RowsEnd.nil
      · exact U.out.rs.ss h1 h3 h2 h4
end Go.Proofs.YtogfjomfhenhfaaGreatDoor
