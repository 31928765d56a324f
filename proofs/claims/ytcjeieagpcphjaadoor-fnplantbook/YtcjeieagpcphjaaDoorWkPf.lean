/-
  The plant's straining.
-/
import Derived.Test.YtcjeieagpcphjaaDoorWkPs
import Derived.Test.YtcjeieagpcphjaaDoorWkPt
import Derived.Test.YtcjeieagpcphjaaDoorWkFl2
import Derived.Deep.DeepCutAuto
namespace Go.Proofs.YtcjeieagpcphjaaDoor
open Go.RowKit Go.Deep

/-- How a filter's step ends, in one form. -/
def SfG (fl : Wk.Fl) (b : Wk.Bt) (fl' : Wk.Fl) (x y : Be) (er : Value) (W : World) : Prop :=
  ((Wk.step fl b).c = 0 ∧ er = .nilIface ∧ fl' = (Wk.step fl b).f ∧ x.b = (Wk.step fl b).clean ∧ y.b = (Wk.step fl b).waste ∧ (∃ g, x.pa = some ⟨g, 0, none⟩ ∧ InBlk g x.n x.f W) ∧ (∃ g, y.pa = some ⟨g, 0, none⟩ ∧ InBlk g y.n y.f W)) ∨
  (∃ c, ErrIs er c ∧ Wk.step fl b = Wk.badF c)
theorem pl_filter {W : World} {pb : Nat} {mv : Value} {fl : Wk.Fl} {cv wv : Value} {k : Int} (h : W.rowIs pb 66 8 (rowL (plL mv fl cv wv k))) : W.cell? ⟨pb, 1, none⟩ = some (.int .i64 fl.held) ∧ W.cell? ⟨pb, 2, none⟩ = some (.int .i64 fl.most) ∧ W.cell? ⟨pb, 3, none⟩ = some (.int .i64 fl.catch_) ∧ W.cell? ⟨pb, 4, none⟩ = some (.int .i64 fl.wash) := ⟨h.cell (i := 1) (by omega), h.cell (i := 2) (by omega), h.cell (i := 3) (by omega), h.cell (i := 4) (by omega)⟩
theorem step_pos {fl : Wk.Fl} {b : Wk.Bt} (h : (Wk.step fl b).c = 0) : 0 < (Wk.step fl b).clean.n ∧ 0 < (Wk.step fl b).waste.n := by
  obtain ⟨h1, _, h3⟩ := Wk.step_good h
  rw [h3, (Wk.filt_n fl b).1, (Wk.filt_n fl b).2]
  exact ⟨h1.2.2, h1.2.2⟩
theorem step_bad_ne {fl : Wk.Fl} {b : Wk.Bt} {c : Int} (h : Wk.step fl b = Wk.badF c) : c ≠ 0 := by
  rintro rfl
  have := (step_pos (fl := fl) (b := b) (by rw [h]; rfl)).1
  rw [h] at this
  simp [Wk.badF, Wk.nil] at this
theorem sfEnd_form {lo : Nat} {fl : Wk.Fl} {b : Wk.Bt} {e : Ending} {W : World} (h : SfEnd lo (Wk.step fl b) e W) : ∃ (fl' : Wk.Fl) (x y : Be) (hd cc : Int) (er : Value), e = .returned (.tuple #[.agg #[.int .i64 fl'.held, .int .i64 fl'.most, .int .i64 fl'.catch_, .int .i64 fl'.wash, .int .i64 x.wt, .slice x.pa x.n x.k, .int .i64 y.wt, .slice y.pa y.n y.k, .int .i64 hd, .int .i64 cc], er]) ∧ SfG fl b fl' x y er W := by
  rcases h with ⟨h1, ax, kx, ay, ky, e1, h2⟩ | ⟨er, c, e1, h2, h3⟩
  · obtain ⟨p1, p2⟩ := step_pos h1
    have q1 : ∃ g, ax = some ⟨g, 0, none⟩ ∧ InBlk g (Wk.step fl b).clean.n (Wk.step fl b).clean.f W := by
      rcases h2.px with ⟨_, e, _⟩ | ⟨g, e, _, h⟩
      · omega
      · exact ⟨g, e, h⟩
    have q2 : ∃ g, ay = some ⟨g, 0, none⟩ ∧ InBlk g (Wk.step fl b).waste.n (Wk.step fl b).waste.f W := by
      rcases h2.py with ⟨_, e, _⟩ | ⟨g, e, _, h⟩
      · omega
      · exact ⟨g, e, h⟩
    exact ⟨(Wk.step fl b).f, ⟨_, ax, _, kx, _⟩, ⟨_, ay, _, ky, _⟩, _, _, _, e1, Or.inl ⟨h1, rfl, rfl, rfl, rfl, q1, q2⟩⟩
  · exact ⟨Wk.flNil, ⟨0, none, 0, 0, fun _ => 0⟩, ⟨0, none, 0, 0, fun _ => 0⟩, 0, 0, er, e1, Or.inr ⟨c, h2, h3⟩⟩
theorem SfG.keep {fl : Wk.Fl} {b : Wk.Bt} {fl' : Wk.Fl} {x y : Be} {er : Value} {W W' : World} (h : SfG fl b fl' x y er W) (hi : ∀ (g : Nat) (cur : Array Value), W.heap[g]? = some (Obj.cells cur 2 (0, 0)) → W'.heap[g]? = W.heap[g]?) : SfG fl b fl' x y er W' := by
  rcases h with ⟨h1, h2, h3, h4, h5, ⟨g1, e1, i1⟩, ⟨g2, e2, i2⟩⟩ | h
  · obtain ⟨c1, k1⟩ := inBlk_type i1
    obtain ⟨c2, k2⟩ := inBlk_type i2
    exact Or.inl ⟨h1, h2, h3, h4, h5, ⟨g1, e1, i1.block (hi _ _ k1)⟩, ⟨g2, e2, i2.block (hi _ _ k2)⟩⟩
  · exact Or.inr h
theorem SfG.below {fl : Wk.Fl} {b : Wk.Bt} {fl' : Wk.Fl} {x y : Be} {er : Value} {W W' : World} (h : SfG fl b fl' x y er W) (hb : Below W.heap.size W W') : SfG fl b fl' x y er W' := h.keep (fun g _ e => hb.block g (lt_of_some e))
/-- What stands behind the filter's step. -/
def SfC (W1 : World) (fl : Wk.Fl) (b : Wk.Bt) (p6 er : Value) (V : World) : Prop :=
  ∃ (g6 : Nat) (fl' : Wk.Fl) (x y : Be) (hd cc : Int), p6 = .pointer (some ⟨g6, 0, none⟩) ∧ Below W1.heap.size W1 V ∧ W1.heap.size ≤ g6 ∧ V.rowIs g6 54 10 (rowL [.int .i64 fl'.held, .int .i64 fl'.most, .int .i64 fl'.catch_, .int .i64 fl'.wash, .int .i64 x.wt, .slice x.pa x.n x.k, .int .i64 y.wt, .slice y.pa y.n y.k, .int .i64 hd, .int .i64 cc]) ∧ SfG fl b fl' x y er V
theorem sfC_below {W1 : World} {fl : Wk.Fl} {b : Wk.Bt} {p6 er : Value} {V : World} (h : SfC W1 fl b p6 er V) : Below W1.heap.size W1 V := by obtain ⟨_, _, _, _, _, _, _, h, _⟩ := h; exact h
/-- How the plant's straining ends. -/
def SnOut (B pb : Nat) (mv : Value) (fl : Wk.Fl) (cv : Value) (cn : Nat) (C : Nat → Wk.Bt) (wv : Value) (wn : Nat) (D : Nat → Wk.Bt) (k : Int) (b : Wk.Bt) (w : World) (e : Ending) (W : World) : Prop :=
  ((Wk.step fl b).c = 0 ∧ ∃ (x : Be) (v' : Value) (k' : Int), e = .returned (.tuple #[btV x.wt x.pa x.n x.k, .nilIface]) ∧ x.b = (Wk.step fl b).clean ∧ (∃ g, x.pa = some ⟨g, 0, none⟩ ∧ InBlk g x.n x.f W) ∧ ((0 < (Wk.step fl b).waste.f 0 → k' = k + 1) ∧ (¬ 0 < (Wk.step fl b).waste.f 0 → k' = k)) ∧ PlS B pb mv (Wk.step fl b).f cv cn C v' (wn + 1) D k' W ∧ Fr pb cv wv w W ∧ Gw wv v' w.heap.size) ∨
  (∃ c er, Wk.step fl b = Wk.badF c ∧ e = .returned (.tuple #[nilB, er]) ∧ ErrIs er c ∧ Fr pb cv wv w W)
/-- Another filter. -/
theorem PlS.filter {B pb : Nat} {mv : Value} {fl : Wk.Fl} {cv : Value} {cn : Nat} {C : Nat → Wk.Bt} {wv : Value} {wn : Nat} {D : Nat → Wk.Bt} {k : Int} {W : World} (h : PlS B pb mv fl cv cn C wv wn D k W) (fl' : Wk.Fl) : PlS B pb mv fl' cv cn C wv wn D k ((((W.setCell ⟨pb, 1, none⟩ (.int .i64 fl'.held)).setCell ⟨pb, 2, none⟩ (.int .i64 fl'.most)).setCell ⟨pb, 3, none⟩ (.int .i64 fl'.catch_)).setCell ⟨pb, 4, none⟩ (.int .i64 fl'.wash)) := by
  have hp := rowIs_type h.row
  have e : ∀ g, g ≠ pb → ((((W.setCell ⟨pb, 1, none⟩ (.int .i64 fl'.held)).setCell ⟨pb, 2, none⟩ (.int .i64 fl'.most)).setCell ⟨pb, 3, none⟩ (.int .i64 fl'.catch_)).setCell ⟨pb, 4, none⟩ (.int .i64 fl'.wash)).heap[g]? = W.heap[g]? := fun g hg => by
    rw [Below.heap_setCell _ ⟨pb, 4, none⟩ _ _ hg, Below.heap_setCell _ ⟨pb, 3, none⟩ _ _ hg, Below.heap_setCell _ ⟨pb, 2, none⟩ _ _ hg, Below.heap_setCell _ ⟨pb, 1, none⟩ _ _ hg]
  have kp : ∀ {v n F}, PlL B v n F W → PlL B v n F _ := fun {v n F} hl => hl.kept (fun g hg e1 => e g (blk_ne (hl.type e1) hp (by decide))) (fun g cur e1 => e g (blk_ne ⟨cur, e1⟩ hp (by decide)))
  exact ⟨pl_row_set (pl_row_set (pl_row_set (pl_row_set h.row 1 _ (by simp)) 2 _ (by simp)) 3 _ (by simp)) 4 _ (by simp), kp h.cl, kp h.wl, h.ne, h.low, by simpa using h.sz⟩
set_option maxRecDepth 100000 in
set_option maxHeartbeats 16000000 in
theorem strainP_any (B pb : Nat) (mv : Value) (fl : Wk.Fl) (cv : Value) (cn : Nat) (C : Nat → Wk.Bt) (wv : Value) (wn : Nat) (D : Nat → Wk.Bt) (k : Int) (b : Wk.Bt) (a : Option Addr) (kk : Nat) (w : World) (h : PlS B pb mv fl cv cn C wv wn D k w)
    (h1 : IntsAt a b.n b.f w) (hn : b.n ≤ 4194304) (hwn : wn ≤ 1000) (hk : 0 ≤ k ∧ k ≤ 1000) (hD : (Wk.step fl b).c = 0 → D wn = (Wk.step fl b).waste) :
    Calls Tryd.prog 50 #[.pointer (some ⟨pb, 0, none⟩), btV b.wt a b.n kk] w fun e W => SnOut B pb mv fl cv cn C wv wn D k b w e W := by
  obtain ⟨i0, hi0, hz0, hz1, hz2⟩ := info_parts info_bt
  obtain ⟨W1, hW1⟩ : ∃ W1, W1 = (w.alloc (.cells #[.int .i64 b.wt, .slice a b.n kk] 28)).alloc (.cells #[.int .i64 0, .slice none 0 0] 28) := ⟨_, rfl⟩
  have hb : Below w.heap.size w W1 := by rw [hW1]; exact (bel_alloc _ _).alloc (by simp) _
  have HRB : Hid (W1.rowIs w.heap.size 28 2 (r2 (.int .i64 b.wt) (.slice a b.n kk))) := by show World.rowIs _ _ _ _ _; rw [hW1]; exact wrow_below (row2 _ _ _ _) (bel_alloc _ _)
  have HRO : Hid (W1.rowIs (w.heap.size + 1) 28 2 (r2 (.int .i64 0) (.slice none 0 0))) := by show World.rowIs _ _ _ _ _; rw [hW1]; exact row2' (by simp) _ _ _
  have HW1 := Lib.hid hW1
  have HB1 := Lib.hid hb
  have HP := Lib.hid (h.below hb)
  have HI := Lib.hid (h1.below hb)
  have HN := Lib.hid hn
  have HD := Lib.hid hD
  have HK := Lib.hid hk
  have HSZ := Lib.hid h.sz
  have HCB : Hid (∀ g, w.heap.size ≤ g → cv.ownBlock ≠ some g ∧ wv.ownBlock ≠ some g) := fun g hg => ⟨fun e => by have := (h.cl.lt e).2; omega, fun e => by have := (h.wl.lt e).2; omega⟩
  clear hW1 hb h h1 hn hD hk
  go_enter Tryd.func50, Tryd.ntmps50
  go_wp2_with fail
  rw [← HW1.out]
  go_cut [6, 7] (fun p6 er V => Hid (SfC W1 fl b p6 er V))
  case first =>
    refine wp_region_held_drew (S := fun V => Below W1.heap.size W1 V) (by kernel_rfl) (Below.refl _ _).drew (fun hHeld => ?_)
    obtain ⟨Z, hZ⟩ : ∃ Z, Z = W1.drew := ⟨_, rfl⟩
    rw [← hZ] at hHeld ⊢
    clear hZ
    refine take_do (i := 0) (v := (.pointer (some ⟨pb, 0, none⟩))) rfl (by kernel_rfl) (by kernel_rfl) (by kernel_rfl) (fun _ _ _ h => h) (by rfl) ?_ (by assumption) ?_
    · intro w hSw
      skip
      go_simp
    simp only [Act.put, List.setIfInBounds_toArray, List.set_cons_zero, List.set_cons_succ]
    refine take_do (i := 1) (v := (.pointer (some ⟨pb, 0, none⟩))) rfl (by kernel_rfl) (by kernel_rfl) (by kernel_rfl) (fun _ _ _ h => h) (by rfl) ?_ (by assumption) ?_
    · intro w hSw
      skip
      go_simp
    simp only [Act.put, List.setIfInBounds_toArray, List.set_cons_zero, List.set_cons_succ]
    refine take_do (i := 2) (v := (.pointer (some ⟨pb, 1, none⟩))) rfl (by kernel_rfl) (by kernel_rfl) (by kernel_rfl) (fun _ _ _ h => h) (by rfl) ?_ (by assumption) ?_
    · intro w hSw
      skip
      go_simp
    simp only [Act.put, List.setIfInBounds_toArray, List.set_cons_zero, List.set_cons_succ]
    refine take_do (i := 3) (v := (flV fl)) rfl (by kernel_rfl) (by kernel_rfl) (by kernel_rfl) (fun _ _ _ h => h) (by rfl) ?_ (by assumption) ?_
    · intro w hSw
      obtain ⟨x0, x1, x2, x3⟩ := pl_filter (wrow_below HP.out.row hSw)
      go_simp
    simp only [Act.put, List.setIfInBounds_toArray, List.set_cons_zero, List.set_cons_succ]
    refine take_do (i := 4) (v := (btV b.wt a b.n kk)) rfl (by kernel_rfl) (by kernel_rfl) (by kernel_rfl) (fun _ _ _ h => h) (by rfl) ?_ (by assumption) ?_
    · intro w hSw
      obtain ⟨⟨x0, x1⟩, _⟩ := row2_cells (wrow_below HRB.out hSw)
      go_simp
    simp only [Act.put, List.setIfInBounds_toArray, List.set_cons_zero, List.set_cons_succ]
    refine wpAnyH_ready (rs := [5, 9]) (by kernel_rfl) (by simp) (AllReadyH.cons (at_drop (i := 5) rfl) (fun K2 hK => ?_) (AllReadyH.cons (at_drop (i := 9) rfl) (fun K2 hK => ?_) (AllReadyH.nil)))
    · go_simp
      refine (stepF_any fl b a kk _ (HI.out.below hHeld) HN.out).mono ?_
      rintro e Z16 ⟨hst, hb⟩
      obtain ⟨fl', x, y, hd, cc, er, rfl, hg⟩ := sfEnd_form hst
      have HG := Lib.hid hg
      clear hst hg
      go_wp2_with fail
      refine hK.out _ _ (hHeld.trans (hb.mono hHeld.size)) (fun hHeld2 => ?_)
      clear hK hHeld
      have hHeld := hHeld2
      clear hHeld2
      clear hb
      refine take_do (i := 6) (v := (.tuple #[(.agg #[.int .i64 fl'.held, .int .i64 fl'.most, .int .i64 fl'.catch_, .int .i64 fl'.wash, .int .i64 x.wt, .slice x.pa x.n x.k, .int .i64 y.wt, .slice y.pa y.n y.k, .int .i64 hd, .int .i64 cc]), er])) rfl (by kernel_rfl) (by kernel_rfl) (by kernel_rfl) (fun _ _ _ h => h) (by rfl) ?_ (by assumption) ?_
      · intro w hSw
        skip
        go_simp
      simp only [Act.put, List.setIfInBounds_toArray, List.set_cons_zero, List.set_cons_succ]
      refine take_do (i := 7) (v := (.agg #[.int .i64 fl'.held, .int .i64 fl'.most, .int .i64 fl'.catch_, .int .i64 fl'.wash, .int .i64 x.wt, .slice x.pa x.n x.k, .int .i64 y.wt, .slice y.pa y.n y.k, .int .i64 hd, .int .i64 cc])) rfl (by kernel_rfl) (by kernel_rfl) (by kernel_rfl) (fun _ _ _ h => h) (by rfl) ?_ (by assumption) ?_
      · intro w hSw
        skip
        go_simp
      simp only [Act.put, List.setIfInBounds_toArray, List.set_cons_zero, List.set_cons_succ]
      refine take_do (i := 8) (v := er) rfl (by kernel_rfl) (by kernel_rfl) (by kernel_rfl) (fun _ _ _ h => h) (by rfl) ?_ (by assumption) ?_
      · intro w hSw
        skip
        go_simp
      simp only [Act.put, List.setIfInBounds_toArray, List.set_cons_zero, List.set_cons_succ]
      refine take_call (i := 9) rfl (by kernel_rfl) (fun K2 hK => ?_)
      obtain ⟨Z17, hZ17⟩ : ∃ Z17, Z17 = Z16.alloc (.cells ⟨foZ⟩ 54) := ⟨_, rfl⟩
      have hb : Below Z16.heap.size Z16 Z17 := by rw [hZ17]; exact bel_alloc _ _
      obtain ⟨g6, hg6⟩ : ∃ g6, g6 = Z16.heap.size := ⟨_, rfl⟩
      have H6 : Hid (Z17.rowIs g6 54 10 (rowL foZ)) := by show World.rowIs _ _ _ _ _; rw [hZ17, hg6]; exact rowL_alloc _ foZ _
      have Gg6 : Hid (W1.heap.size ≤ g6) := by show _ ≤ _; rw [hg6]; exact hHeld.size
      replace HG := Lib.hid (HG.out.below hb)
      go_simp
      rw [← hZ17, ← hg6]
      refine hK.out _ _ (hHeld.trans (hb.mono hHeld.size)) (fun hHeld2 => ?_)
      clear hK hHeld
      have hHeld := hHeld2
      clear hHeld2
      clear hb hZ17 hg6
      have e6 := Gg6.out
      have o0 := H6.out.cell (i := 0) (by omega)
      have z0 := H6.out.frozen 0
      have o1 := H6.out.cell (i := 1) (by omega)
      have z1 := H6.out.frozen 1
      have o2 := H6.out.cell (i := 2) (by omega)
      have z2 := H6.out.frozen 2
      have o3 := H6.out.cell (i := 3) (by omega)
      have z3 := H6.out.frozen 3
      have o4 := H6.out.cell (i := 4) (by omega)
      have z4 := H6.out.frozen 4
      have o5 := H6.out.cell (i := 5) (by omega)
      have z5 := H6.out.frozen 5
      have o6 := H6.out.cell (i := 6) (by omega)
      have z6 := H6.out.frozen 6
      have o7 := H6.out.cell (i := 7) (by omega)
      have z7 := H6.out.frozen 7
      have o8 := H6.out.cell (i := 8) (by omega)
      have z8 := H6.out.frozen 8
      have o9 := H6.out.cell (i := 9) (by omega)
      have z9 := H6.out.frozen 9
      have l6 := H6.out.lt
      obtain ⟨Y1, hY1⟩ : ∃ Y1, Y1 = ((((((((((Z17).setCell ⟨g6, 0, none⟩ (.int .i64 fl'.held)).setCell ⟨g6, 1, none⟩ (.int .i64 fl'.most)).setCell ⟨g6, 2, none⟩ (.int .i64 fl'.catch_)).setCell ⟨g6, 3, none⟩ (.int .i64 fl'.wash)).setCell ⟨g6, 4, none⟩ (.int .i64 x.wt)).setCell ⟨g6, 5, none⟩ (.slice x.pa x.n x.k)).setCell ⟨g6, 6, none⟩ (.int .i64 y.wt)).setCell ⟨g6, 7, none⟩ (.slice y.pa y.n y.k)).setCell ⟨g6, 8, none⟩ (.int .i64 hd)).setCell ⟨g6, 9, none⟩ (.int .i64 cc) := ⟨_, rfl⟩
      have JC : Hid (SfC W1 fl b (.pointer (some ⟨g6, 0, none⟩)) er Y1) := by
        refine ⟨g6, fl', x, y, hd, cc, rfl, ?_, e6, ?_, ?_⟩
        · rw [hY1]; exact ((((((((((hHeld.setCell (p := ⟨g6, 0, none⟩) e6 _).setCell (p := ⟨g6, 1, none⟩) e6 _).setCell (p := ⟨g6, 2, none⟩) e6 _).setCell (p := ⟨g6, 3, none⟩) e6 _).setCell (p := ⟨g6, 4, none⟩) e6 _).setCell (p := ⟨g6, 5, none⟩) e6 _).setCell (p := ⟨g6, 6, none⟩) e6 _).setCell (p := ⟨g6, 7, none⟩) e6 _).setCell (p := ⟨g6, 8, none⟩) e6 _).setCell (p := ⟨g6, 9, none⟩) e6 _)
        · rw [hY1]; exact (pl_row_set (pl_row_set (pl_row_set (pl_row_set (pl_row_set (pl_row_set (pl_row_set (pl_row_set (pl_row_set (pl_row_set H6.out 0 (.int .i64 fl'.held) (by simp)) 1 (.int .i64 fl'.most) (by simp)) 2 (.int .i64 fl'.catch_) (by simp)) 3 (.int .i64 fl'.wash) (by simp)) 4 (.int .i64 x.wt) (by simp)) 5 (.slice x.pa x.n x.k) (by simp)) 6 (.int .i64 y.wt) (by simp)) 7 (.slice y.pa y.n y.k) (by simp)) 8 (.int .i64 hd) (by simp)) 9 (.int .i64 cc) (by simp))
        · rw [hY1]
          refine HG.out.keep (fun g c e => ?_)
          have ne := blk_ne ⟨c, e⟩ (rowIs_type H6.out) (by decide)
          repeat rw [Below.heap_setCell _ ⟨g6, _, none⟩ _ _ ne]
      have JB := Lib.hid (sfC_below JC.out)
      refine take_call (i := 10) rfl (by kernel_rfl) (fun K2 hK => ?_)
      go_simp
      rw [← hY1]
      refine hK.out _ _ JB.out (fun hHeld2 => ?_)
      clear hK hHeld hY1 H6 HG l6 JB o0 z0 o1 z1 o2 z2 o3 z3 o4 z4 o5 z5 o6 z6 o7 z7 o8 z8 o9 z9
      have hHeld := hHeld2
      clear hHeld2
      refine take_call (i := 11) rfl (by kernel_rfl) (fun K2 hK => ?_)
      go_simp
      refine hK.out _ _ hHeld (fun _ => ?_)
      refine wpAnyH_done (by kernel_rfl) ?_ _
      clear hHeld
      go_wp2_with fail
      go_meet
      case rel => exact JC
    · obtain ⟨Z18, hZ18⟩ : ∃ Z18, Z18 = Z.alloc (.cells ⟨foZ⟩ 54) := ⟨_, rfl⟩
      have hb : Below Z.heap.size Z Z18 := by rw [hZ18]; exact bel_alloc _ _
      obtain ⟨g6, hg6⟩ : ∃ g6, g6 = Z.heap.size := ⟨_, rfl⟩
      have H6 : Hid (Z18.rowIs g6 54 10 (rowL foZ)) := by show World.rowIs _ _ _ _ _; rw [hZ18, hg6]; exact rowL_alloc _ foZ _
      have Gg6 : Hid (W1.heap.size ≤ g6) := by show _ ≤ _; rw [hg6]; exact hHeld.size
      go_simp
      rw [← hZ18, ← hg6]
      refine hK.out _ _ (hHeld.trans (hb.mono hHeld.size)) (fun hHeld2 => ?_)
      clear hK hHeld
      have hHeld := hHeld2
      clear hHeld2
      clear hb hZ18 hg6
      refine take_call (i := 5) rfl (by kernel_rfl) (fun K2 hK => ?_)
      go_simp
      refine (stepF_any fl b a kk _ (HI.out.below hHeld) HN.out).mono ?_
      rintro e Z19 ⟨hst, hb⟩
      obtain ⟨fl', x, y, hd, cc, er, rfl, hg⟩ := sfEnd_form hst
      have HG := Lib.hid hg
      clear hst hg
      replace H6 := Lib.hid (wrow_below H6.out hb)
      go_wp2_with fail
      refine hK.out _ _ (hHeld.trans (hb.mono hHeld.size)) (fun hHeld2 => ?_)
      clear hK hHeld
      have hHeld := hHeld2
      clear hHeld2
      clear hb
      refine take_do (i := 6) (v := (.tuple #[(.agg #[.int .i64 fl'.held, .int .i64 fl'.most, .int .i64 fl'.catch_, .int .i64 fl'.wash, .int .i64 x.wt, .slice x.pa x.n x.k, .int .i64 y.wt, .slice y.pa y.n y.k, .int .i64 hd, .int .i64 cc]), er])) rfl (by kernel_rfl) (by kernel_rfl) (by kernel_rfl) (fun _ _ _ h => h) (by rfl) ?_ (by assumption) ?_
      · intro w hSw
        skip
        go_simp
      simp only [Act.put, List.setIfInBounds_toArray, List.set_cons_zero, List.set_cons_succ]
      refine take_do (i := 7) (v := (.agg #[.int .i64 fl'.held, .int .i64 fl'.most, .int .i64 fl'.catch_, .int .i64 fl'.wash, .int .i64 x.wt, .slice x.pa x.n x.k, .int .i64 y.wt, .slice y.pa y.n y.k, .int .i64 hd, .int .i64 cc])) rfl (by kernel_rfl) (by kernel_rfl) (by kernel_rfl) (fun _ _ _ h => h) (by rfl) ?_ (by assumption) ?_
      · intro w hSw
        skip
        go_simp
      simp only [Act.put, List.setIfInBounds_toArray, List.set_cons_zero, List.set_cons_succ]
      refine take_do (i := 8) (v := er) rfl (by kernel_rfl) (by kernel_rfl) (by kernel_rfl) (fun _ _ _ h => h) (by rfl) ?_ (by assumption) ?_
      · intro w hSw
        skip
        go_simp
      simp only [Act.put, List.setIfInBounds_toArray, List.set_cons_zero, List.set_cons_succ]
      have e6 := Gg6.out
      have o0 := H6.out.cell (i := 0) (by omega)
      have z0 := H6.out.frozen 0
      have o1 := H6.out.cell (i := 1) (by omega)
      have z1 := H6.out.frozen 1
      have o2 := H6.out.cell (i := 2) (by omega)
      have z2 := H6.out.frozen 2
      have o3 := H6.out.cell (i := 3) (by omega)
      have z3 := H6.out.frozen 3
      have o4 := H6.out.cell (i := 4) (by omega)
      have z4 := H6.out.frozen 4
      have o5 := H6.out.cell (i := 5) (by omega)
      have z5 := H6.out.frozen 5
      have o6 := H6.out.cell (i := 6) (by omega)
      have z6 := H6.out.frozen 6
      have o7 := H6.out.cell (i := 7) (by omega)
      have z7 := H6.out.frozen 7
      have o8 := H6.out.cell (i := 8) (by omega)
      have z8 := H6.out.frozen 8
      have o9 := H6.out.cell (i := 9) (by omega)
      have z9 := H6.out.frozen 9
      have l6 := H6.out.lt
      obtain ⟨Y1, hY1⟩ : ∃ Y1, Y1 = ((((((((((Z19).setCell ⟨g6, 0, none⟩ (.int .i64 fl'.held)).setCell ⟨g6, 1, none⟩ (.int .i64 fl'.most)).setCell ⟨g6, 2, none⟩ (.int .i64 fl'.catch_)).setCell ⟨g6, 3, none⟩ (.int .i64 fl'.wash)).setCell ⟨g6, 4, none⟩ (.int .i64 x.wt)).setCell ⟨g6, 5, none⟩ (.slice x.pa x.n x.k)).setCell ⟨g6, 6, none⟩ (.int .i64 y.wt)).setCell ⟨g6, 7, none⟩ (.slice y.pa y.n y.k)).setCell ⟨g6, 8, none⟩ (.int .i64 hd)).setCell ⟨g6, 9, none⟩ (.int .i64 cc) := ⟨_, rfl⟩
      have JC : Hid (SfC W1 fl b (.pointer (some ⟨g6, 0, none⟩)) er Y1) := by
        refine ⟨g6, fl', x, y, hd, cc, rfl, ?_, e6, ?_, ?_⟩
        · rw [hY1]; exact ((((((((((hHeld.setCell (p := ⟨g6, 0, none⟩) e6 _).setCell (p := ⟨g6, 1, none⟩) e6 _).setCell (p := ⟨g6, 2, none⟩) e6 _).setCell (p := ⟨g6, 3, none⟩) e6 _).setCell (p := ⟨g6, 4, none⟩) e6 _).setCell (p := ⟨g6, 5, none⟩) e6 _).setCell (p := ⟨g6, 6, none⟩) e6 _).setCell (p := ⟨g6, 7, none⟩) e6 _).setCell (p := ⟨g6, 8, none⟩) e6 _).setCell (p := ⟨g6, 9, none⟩) e6 _)
        · rw [hY1]; exact (pl_row_set (pl_row_set (pl_row_set (pl_row_set (pl_row_set (pl_row_set (pl_row_set (pl_row_set (pl_row_set (pl_row_set H6.out 0 (.int .i64 fl'.held) (by simp)) 1 (.int .i64 fl'.most) (by simp)) 2 (.int .i64 fl'.catch_) (by simp)) 3 (.int .i64 fl'.wash) (by simp)) 4 (.int .i64 x.wt) (by simp)) 5 (.slice x.pa x.n x.k) (by simp)) 6 (.int .i64 y.wt) (by simp)) 7 (.slice y.pa y.n y.k) (by simp)) 8 (.int .i64 hd) (by simp)) 9 (.int .i64 cc) (by simp))
        · rw [hY1]
          refine HG.out.keep (fun g c e => ?_)
          have ne := blk_ne ⟨c, e⟩ (rowIs_type H6.out) (by decide)
          repeat rw [Below.heap_setCell _ ⟨g6, _, none⟩ _ _ ne]
      have JB := Lib.hid (sfC_below JC.out)
      refine take_call (i := 10) rfl (by kernel_rfl) (fun K2 hK => ?_)
      go_simp
      rw [← hY1]
      refine hK.out _ _ JB.out (fun hHeld2 => ?_)
      clear hK hHeld hY1 H6 HG l6 JB o0 z0 o1 z1 o2 z2 o3 z3 o4 z4 o5 z5 o6 z6 o7 z7 o8 z8 o9 z9
      have hHeld := hHeld2
      clear hHeld2
      refine take_call (i := 11) rfl (by kernel_rfl) (fun K2 hK => ?_)
      go_simp
      refine hK.out _ _ hHeld (fun _ => ?_)
      refine wpAnyH_done (by kernel_rfl) ?_ _
      clear hHeld
      go_wp2_with fail
      go_meet
      case rel => exact JC
  case rest =>
    obtain ⟨g6, fl', x, y, hd, cc, rfl, hV, hgg, r6, hG⟩ := hcut.out
    clear hcut
    replace HP := Lib.hid (HP.out.below hV)
    have HRO2 := Lib.hid (wrow_below HRO.out hV)
    have HBV : Hid (Below w.heap.size w wc) := HB1.out.trans (hV.mono HB1.out.size)
    have hw1 : w.heap.size + 1 < W1.heap.size := HRO.out.lt
    have hpl : pb < w.heap.size := by have := HP.out.low; have := HSZ.out; omega
    have n1 := HCB.out _ (Nat.le_succ w.heap.size)
    have n6 := HCB.out g6 (by omega)
    rcases hG with ⟨hok, rfl, hfl, hx, hy, hpx, hpy⟩ | ⟨c, her, hst⟩
    · have HOK := Lib.hid hok
      have HFL := Lib.hid hfl
      have HXX := Lib.hid hx
      have HYF : Hid (y.f 0 = (Wk.step fl b).waste.f 0) := congrFun (congrArg Wk.Bt.f hy) 0
      have HYN : Hid (0 < y.n) := by show 0 < y.n; have e : y.n = (Wk.step fl b).waste.n := congrArg Wk.Bt.n hy; rw [e]; exact (step_pos hok).2
      have HXB : Hid (y.b = D wn) := hy.trans (HD.out hok).symm
      have HR6 := Lib.hid r6
      have HN1 := Lib.hid n1
      have HN6 := Lib.hid n6
      have HGG := Lib.hid hgg
      have HPL := Lib.hid hpl
      have HRL := Lib.hid hw1
      have hne6 : g6 ≠ pb := by omega
      obtain ⟨W2, hW2⟩ : ∃ W2, W2 = (((wc.setCell ⟨pb, 1, none⟩ (.int .i64 fl'.held)).setCell ⟨pb, 2, none⟩ (.int .i64 fl'.most)).setCell ⟨pb, 3, none⟩ (.int .i64 fl'.catch_)).setCell ⟨pb, 4, none⟩ (.int .i64 fl'.wash) := ⟨_, rfl⟩
      have k2 : ∀ g, g ≠ pb → W2.heap[g]? = wc.heap[g]? := fun g hg => by
        rw [hW2, Below.heap_setCell _ ⟨pb, 4, none⟩ _ _ hg, Below.heap_setCell _ ⟨pb, 3, none⟩ _ _ hg, Below.heap_setCell _ ⟨pb, 2, none⟩ _ _ hg, Below.heap_setCell _ ⟨pb, 1, none⟩ _ _ hg]
      have HPN : Hid (PlS B pb mv fl' cv cn C wv wn D k W2) := by show PlS _ _ _ _ _ _ _ _ _ _ _ _; rw [hW2]; exact HP.out.filter fl'
      have HFB : Hid (Fr pb cv wv w W2) := by show Fr _ _ _ _ _; rw [hW2]; exact ((((Fr.of_below HBV.out).set 1 _).set 2 _).set 3 _).set 4 _
      have HR62 := Lib.hid (r6.of_block (k2 _ hne6))
      have HRO4 := Lib.hid (HRO2.out.of_block (k2 _ (by omega)))
      have HIP : Hid (∃ g, y.pa = some ⟨g, 0, none⟩ ∧ InBlk g y.n y.f W2) := by
        obtain ⟨g, e, h2⟩ := hpy
        exact ⟨g, e, h2.block (k2 _ (blk_ne (inBlk_type h2) (rowIs_type HP.out.row) (by decide)))⟩
      have HPX0 : Hid (∃ g, x.pa = some ⟨g, 0, none⟩ ∧ InBlk g x.n x.f W2) := by
        obtain ⟨g, e, h2⟩ := hpx
        exact ⟨g, e, h2.block (k2 _ (blk_ne (inBlk_type h2) (rowIs_type HP.out.row) (by decide)))⟩
      have HX : Hid (W2.cell? ⟨g6, 6, none⟩ = some (.int .i64 y.wt) ∧ W2.cell? ⟨g6, 7, none⟩ = some (.slice y.pa y.n y.k)) := ⟨HR62.out.cell (i := 6) (by omega), HR62.out.cell (i := 7) (by omega)⟩
      have HBO : Hid (wv.ownBlock ≠ some g6) := n6.2
      have c0 : wc.cell? ⟨g6, 0, none⟩ = some (.int .i64 fl'.held) := r6.cell (i := 0) (by omega)
      have c1 : wc.cell? ⟨g6, 1, none⟩ = some (.int .i64 fl'.most) := r6.cell (i := 1) (by omega)
      have c2 : wc.cell? ⟨g6, 2, none⟩ = some (.int .i64 fl'.catch_) := r6.cell (i := 2) (by omega)
      have c3 : wc.cell? ⟨g6, 3, none⟩ = some (.int .i64 fl'.wash) := r6.cell (i := 3) (by omega)
      obtain ⟨p1, p2, p3, p4⟩ := pl_filter HP.out.row
      have f1 := HP.out.row.frozen 1
      have f2 := HP.out.row.frozen 2
      have f3 := HP.out.row.frozen 3
      have f4 := HP.out.row.frozen 4
      have lp := HP.out.row.lt
      have HW2 := Lib.hid hW2
      clear hok hfl hx hy hpx hpy r6 n1 n6 hgg hpl hw1 hV hW2 k2
      go_wp2_with fail
      rw [← HW2.out]
      clear c0 c1 c2 c3 p1 p2 p3 p4 f1 f2 f3 f4 lp HP HW2
      have HP := HPN
      have HPW := HPN
      clear HPN
      have hxc := HX.out
      refine region_L (fun V => V.rowIs pb 66 8 (rowL (plL mv fl' cv wv k)) ∧ V.cell? ⟨g6, 6, none⟩ = some (.int .i64 y.wt) ∧ V.cell? ⟨g6, 7, none⟩ = some (.slice y.pa y.n y.k)) 11 (by kernel_rfl) ⟨HP.out.row.of_block rfl, hxc.1, hxc.2⟩ (fun hHeld => ?_)
      obtain ⟨Z, hZ⟩ : ∃ Z, Z = W2.drew := ⟨_, rfl⟩
      replace HP : Hid (PlS B pb mv fl' cv cn C wv wn D k Z) := by show PlS _ _ _ _ _ _ _ _ _ _ _ _; rw [hZ]; exact HP.out.below (Below.refl _ _).drew
      have HZB : Hid (Below W2.heap.size W2 Z) := by show Below _ _ _; rw [hZ]; exact (Below.refl _ _).drew
      rw [← hZ] at hHeld ⊢
      clear hZ hxc HX
      refine takeL_do (i := 0) (v := (.pointer (some ⟨pb, 0, none⟩))) rfl (by kernel_rfl) (by kernel_rfl) (by kernel_rfl) (by kernel_rfl) (fun _ _ _ h => h) (by rfl) ?_ (by assumption) ?_
      · intro w hSw
        skip
        go_simp
      simp only [Act.put, List.setIfInBounds_toArray, List.set_cons_zero, List.set_cons_succ]
      refine takeL_do (i := 1) (v := (.pointer (some ⟨pb, 0, none⟩))) rfl (by kernel_rfl) (by kernel_rfl) (by kernel_rfl) (by kernel_rfl) (fun _ _ _ h => h) (by rfl) ?_ (by assumption) ?_
      · intro w hSw
        skip
        go_simp
      simp only [Act.put, List.setIfInBounds_toArray, List.set_cons_zero, List.set_cons_succ]
      refine takeL_do (i := 2) (v := (.pointer (some ⟨pb, 0, none⟩))) rfl (by kernel_rfl) (by kernel_rfl) (by kernel_rfl) (by kernel_rfl) (fun _ _ _ h => h) (by rfl) ?_ (by assumption) ?_
      · intro w hSw
        skip
        go_simp
      simp only [Act.put, List.setIfInBounds_toArray, List.set_cons_zero, List.set_cons_succ]
      refine takeL_do (i := 3) (v := (.pointer (some ⟨pb, 6, none⟩))) rfl (by kernel_rfl) (by kernel_rfl) (by kernel_rfl) (by kernel_rfl) (fun _ _ _ h => h) (by rfl) ?_ (by assumption) ?_
      · intro w hSw
        skip
        go_simp
      simp only [Act.put, List.setIfInBounds_toArray, List.set_cons_zero, List.set_cons_succ]
      refine takeL_do (i := 4) (v := wv) rfl (by kernel_rfl) (by kernel_rfl) (by kernel_rfl) (by kernel_rfl) (fun _ _ _ h => h) (by rfl) ?_ (by assumption) ?_
      · intro w hSw
        have x0 : w.cell? ⟨pb, 6, none⟩ = some wv := hSw.1.cell (i := 6) (by omega)
        go_simp
      simp only [Act.put, List.setIfInBounds_toArray, List.set_cons_zero, List.set_cons_succ]
      refine takeL_do (i := 5) (v := (.pointer (some ⟨g6, 6, none⟩))) rfl (by kernel_rfl) (by kernel_rfl) (by kernel_rfl) (by kernel_rfl) (fun _ _ _ h => h) (by rfl) ?_ (by assumption) ?_
      · intro w hSw
        skip
        go_simp
      simp only [Act.put, List.setIfInBounds_toArray, List.set_cons_zero, List.set_cons_succ]
      refine takeL_do (i := 6) (v := (btV y.wt y.pa y.n y.k)) rfl (by kernel_rfl) (by kernel_rfl) (by kernel_rfl) (by kernel_rfl) (fun _ _ _ h => h) (by rfl) ?_ (by assumption) ?_
      · intro w hSw
        obtain ⟨_, x0, x1⟩ := hSw
        go_simp
      simp only [Act.put, List.setIfInBounds_toArray, List.set_cons_zero, List.set_cons_succ]
      refine takeL_call (i := 7) rfl (by kernel_rfl) (fun K2 hK => ?_)
      obtain ⟨Z1, hZ1⟩ : ∃ Z1, Z1 = Z.alloc (.cells #[.int .i64 y.wt, .slice y.pa y.n y.k] 28) := ⟨_, rfl⟩
      have hb1 : Below Z.heap.size Z Z1 := by rw [hZ1]; exact bel_alloc _ _
      obtain ⟨gs, hgs⟩ : ∃ gs, gs = Z.heap.size := ⟨_, rfl⟩
      have HL : Hid (Z1.rowIs gs 28 2 (r2 (.int .i64 y.wt) (.slice y.pa y.n y.k))) := by show World.rowIs _ _ _ _ _; rw [hZ1, hgs]; exact row2 _ _ _ _
      replace HP := Lib.hid (HP.out.below hb1)
      replace HZB : Hid (Below W2.heap.size W2 Z1) := HZB.out.trans (hb1.mono HZB.out.size)
      go_simp
      rw [← hZ1, ← hgs]
      have hH1 := hHeld.2.1
      have hH2 := hHeld.2.2
      refine hK.out _ _ ⟨HP.out.row, (hb1.cell (World.block_lt_of_cell? _ _ hH1)).trans hH1, (hb1.cell (World.block_lt_of_cell? _ _ hH2)).trans hH2⟩ (fun hHeld2 => ?_)
      clear hK hHeld hb1 hZ1 hgs hH1 hH2
      have hHeld := hHeld2
      clear hHeld2
      refine takeL_call (i := 8) rfl (by kernel_rfl) (fun K2 hK => ?_)
      obtain ⟨cs, hown, hcs⟩ := HP.out.wl
      refine ap_at rfl (.tmp 32) (.tmp 35) 35 rfl B 28 i0 (.agg #[.int .i64 0, .slice none 0 0]) 2 32 Tryd.underlying35 hi0 hz0 hz1 hz2 rfl (by decide) wv wn _ rfl hown ⟨gs, 0, none⟩ 1 1 [.int .i64 y.wt, .slice y.pa y.n y.k] rfl rfl ?_ ?_ (by unfold maxLen; omega) (by omega) HP.out.sz ?_
      · obtain ⟨⟨c0, c1⟩, _⟩ := row2_cells HL.out
        intro j u hj
        match j, hj with
        | 0, hj => simp at hj; subst hj; simpa [Addr.add] using c0
        | 1, hj => simp at hj; subst hj; simpa [Addr.add] using c1
      · intro u hu
        simp at hu
        rcases hu with rfl | rfl <;> rfl
      intro v' Z2 hown2 hgrow hwhere
      obtain ⟨hrow2, hps, hfr, hgw⟩ := HP.out.appW hgrow hwhere (PlL.push hcs HXB.out (by obtain ⟨g, e, h2⟩ := HIP.out; exact ⟨g, e, h2.block (HZB.out.block _ h2.lt)⟩) hown hgrow hown2)
      obtain ⟨WZ, hWZ⟩ : ∃ WZ, WZ = Z2.setCell ⟨pb, 6, none⟩ v' := ⟨_, rfl⟩
      have HPX : Hid (PlS B pb mv fl' cv cn C v' (wn + 1) D k WZ) := by show PlS _ _ _ _ _ _ _ _ _ _ _ _; rw [hWZ]; exact hps
      have HFX : Hid (Fr pb cv wv W2 WZ) := by show Fr _ _ _ _ _; rw [hWZ]; exact (Fr.of_below HZB.out).trans hfr (Gw.refl _ _) (Gw.refl _ _)
      have HGX : Hid (Gw wv v' W2.heap.size) := (Gw.refl _ _).trans hgw HZB.out.size
      have hK1 : Z2.cell? ⟨pb, 6, none⟩ = some wv := hrow2.cell (i := 6) (by omega)
      have hK2 := hrow2.frozen 6
      have hK3 := hrow2.lt
      have HH1 := Lib.hid hrow2
      have HWZ := Lib.hid hWZ
      obtain ⟨a9, k9, rfl⟩ := PlL.shape (PlL.push hcs HXB.out (by obtain ⟨g, e, h2⟩ := HIP.out; exact ⟨g, e, h2.block (HZB.out.block _ h2.lt)⟩) hown hgrow hown2)
      refine hK.out _ _ ⟨HH1.out, ?_, ?_⟩ (fun hHeld2 => ?_)
      · exact (World.cell?_of_block (a := ⟨g6, 6, none⟩) (hgrow.block _ (World.block_lt_of_cell? _ _ hHeld.2.1) (fun e => HBO.out e.symm))).trans hHeld.2.1
      · exact (World.cell?_of_block (a := ⟨g6, 6 + 1, none⟩) (hgrow.block _ (World.block_lt_of_cell? _ _ hHeld.2.2) (fun e => HBO.out e.symm))).trans hHeld.2.2
      clear hK hHeld hown hown2 hcs hgrow hwhere hrow2 hps hfr hgw HL HZB HP HH1 hWZ
      have hHeld := hHeld2
      clear hHeld2
      simp only [Act.put, List.setIfInBounds_toArray, List.set_cons_zero, List.set_cons_succ]
      refine takeL_call (i := 9) rfl (by kernel_rfl) (fun K2 hK => ?_)
      go_simp
      refine hK.out _ _ hHeld (fun hHeld2 => ?_)
      clear hK hHeld
      have hHeld := hHeld2
      clear hHeld2
      refine takeL_do (i := 10) (v := (.pointer (some ⟨pb, 6, none⟩))) rfl (by kernel_rfl) (by kernel_rfl) (by kernel_rfl) (by kernel_rfl) (fun _ _ _ h => h) (by rfl) ?_ (by assumption) ?_
      · intro w hSw
        skip
        go_simp
      simp only [Act.put, List.setIfInBounds_toArray, List.set_cons_zero, List.set_cons_succ]
      refine takeL_last rfl (by kernel_rfl) (by kernel_rfl) (fun K2 hK => ?_)
      go_simp
      rw [← HWZ.out]
      refine hK.out _ _ ?_
      clear hK hHeld HWZ hK1 hK2 hK3
      have hgg := HGG.out
      have hpl := HPL.out
      have hrl := HRL.out
      have hml : w.heap.size ≤ W2.heap.size := HFB.out.size
      have HRZ := Lib.hid (HR62.out.of_block (HFX.out.block _ HR62.out.lt (by omega) HN6.out.1 HN6.out.2))
      have HOZ := Lib.hid (HRO4.out.of_block (HFX.out.block _ HRO4.out.lt (by omega) HN1.out.1 HN1.out.2))
      have kpi : ∀ g n (f : Nat → Int), InBlk g n f W2 → InBlk g n f WZ := fun g n f h2 => h2.block (HFX.out.block _ h2.lt (blk_ne (inBlk_type h2) (rowIs_type HPW.out.row) (by decide)) (fun e2 => blk_ne (inBlk_type h2) (HPW.out.cl.type e2) (by decide) rfl) (fun e2 => blk_ne (inBlk_type h2) (HPW.out.wl.type e2) (by decide) rfl))
      have HIZ : Hid (∃ g, x.pa = some ⟨g, 0, none⟩ ∧ InBlk g x.n x.f WZ) := by obtain ⟨g, e, h2⟩ := HPX0.out; exact ⟨g, e, kpi _ _ _ h2⟩
      have HFW : Hid (Fr pb cv wv w WZ) := HFB.out.trans HFX.out (Gw.refl _ _) (Gw.refl _ _)
      have HM1 : Hid (Value.ownBlock (.slice a9 (wn + 1) k9) ≠ some (w.heap.size + 1)) := HGX.out.ne HRO4.out.lt HN1.out.2
      obtain ⟨gy, hya, hyi⟩ := HIP.out
      have qy := (kpi _ _ _ hyi).cell (i := 0) HYN.out
      have q7 : WZ.cell? ⟨g6, 7, none⟩ = some (.slice (some ⟨gy, 0, none⟩) y.n y.k) := by rw [← hya]; exact HRZ.out.cell (i := 7) (by omega)
      have hyn : (0 : Int) < (y.n : Int) := by have := HYN.out; omega
      have hnn : g6 ≠ w.heap.size + 1 := by omega
      clear hya hyi kpi
      by_cases hpos : 0 < y.f 0
      · obtain ⟨V1, hV1⟩ : ∃ V1, V1 = (WZ.setCell ⟨pb, 7, none⟩ (.int .i64 (k + 1))) := ⟨_, rfl⟩
        have HPV : Hid (PlS B pb mv fl' cv cn C (.slice a9 (wn + 1) k9) (wn + 1) D (k + 1) V1) := by show PlS _ _ _ _ _ _ _ _ _ _ _ _; rw [hV1]; exact PlS.put HPX.out.row (pl_row_set HPX.out.row 7 _ (by simp)) HPX.out.cl HPX.out.wl HPX.out.ne HPX.out.low HPX.out.sz
        have HFV : Hid (Fr pb cv wv w V1) := by show Fr _ _ _ _ _; rw [hV1]; exact HFW.out.set 7 _
        have hkp : ∀ g, g ≠ pb → V1.heap[g]? = WZ.heap[g]? := fun g hg => by rw [hV1]; exact Below.heap_setCell _ ⟨pb, 7, none⟩ _ _ hg
        have R6 := HRZ.out.of_block (hkp _ (by omega))
        have RO := HOZ.out.of_block (hkp _ (by omega))
        have HIX : Hid (∃ g, x.pa = some ⟨g, 0, none⟩ ∧ InBlk g x.n x.f V1) := by
          obtain ⟨g, e, h2⟩ := HIZ.out
          exact ⟨g, e, h2.block (hkp _ (blk_ne (inBlk_type h2) (rowIs_type HPX.out.row) (by decide)))⟩
        have x4 : V1.cell? ⟨g6, 4, none⟩ = some (.int .i64 x.wt) := R6.cell (i := 4) (by omega)
        have x5 : V1.cell? ⟨g6, 5, none⟩ = some (.slice x.pa x.n x.k) := R6.cell (i := 5) (by omega)
        obtain ⟨⟨o0, o1⟩, z0, z1⟩ := row2_cells RO
        have HRO3 := Lib.hid RO
        have hol : w.heap.size + 1 < V1.heap.size := RO.lt
        have HV1 := Lib.hid hV1
        clear hV1 hkp R6 RO
        have k7 : WZ.cell? ⟨pb, 7, none⟩ = some (.int .i64 k) := HPX.out.row.cell (i := 7) (by omega)
        have f7 := HPX.out.row.frozen 7
        have l7 := HPX.out.row.lt
        obtain ⟨hk0, hk1⟩ := HK.out
        clear x4 x5 o0 o1 z0 z1
        have x4 : WZ.cell? ⟨g6, 4, none⟩ = some (.int .i64 x.wt) := HRZ.out.cell (i := 4) (by omega)
        have x5 : WZ.cell? ⟨g6, 5, none⟩ = some (.slice x.pa x.n x.k) := HRZ.out.cell (i := 5) (by omega)
        obtain ⟨⟨o0, o1⟩, z0, z1⟩ := row2_cells HOZ.out
        have hoz : w.heap.size + 1 < WZ.heap.size := HOZ.out.lt
        have hnp : w.heap.size + 1 ≠ pb := by omega
        go_wp2_with fail
        rw [← HV1.out]
        refine bodyPost_ret (v := .tuple #[btV x.wt x.pa x.n x.k, .nilIface]) ?_ rfl (Or.inl ⟨HOK.out, x, _, (k + 1), rfl, HXX.out, ?_, ?_, ?_, ?_, (Gw.refl _ _).trans HGX.out HFB.out.size⟩)
        · obtain ⟨⟨a0, a1⟩, _⟩ := row2_cells (row2_put HRO3.out (.int .i64 x.wt) (.slice x.pa x.n x.k))
          simp only [results, Tryd.results50]
          simp [go_sem, a0, a1]
        · obtain ⟨g, e, h2⟩ := HIX.out
          have e9 := blk_ne (inBlk_type h2) (rowIs_type HRO3.out) (by decide)
          exact ⟨g, e, h2.block ((Below.heap_setCell _ ⟨w.heap.size + 1, 1, none⟩ _ _ e9).trans (Below.heap_setCell _ ⟨w.heap.size + 1, 0, none⟩ _ _ e9))⟩
        · rw [← HYF.out]; exact ⟨fun _ => rfl, fun h => absurd hpos h⟩
        · rw [← HFL.out]; exact HPV.out.put2 HRO3.out HN1.out.1 HM1.out _ _
        · exact (HFV.out.above (Nat.le_succ _) 0 _).above (Nat.le_succ _) 1 _
      · obtain ⟨V1, hV1⟩ : ∃ V1, V1 = WZ := ⟨_, rfl⟩
        have HPV : Hid (PlS B pb mv fl' cv cn C (.slice a9 (wn + 1) k9) (wn + 1) D k V1) := by show PlS _ _ _ _ _ _ _ _ _ _ _ _; rw [hV1]; exact HPX.out
        have HFV : Hid (Fr pb cv wv w V1) := by show Fr _ _ _ _ _; rw [hV1]; exact HFW.out
        have hkp : ∀ g, g ≠ pb → V1.heap[g]? = WZ.heap[g]? := fun g hg => by rw [hV1]
        have R6 := HRZ.out.of_block (hkp _ (by omega))
        have RO := HOZ.out.of_block (hkp _ (by omega))
        have HIX : Hid (∃ g, x.pa = some ⟨g, 0, none⟩ ∧ InBlk g x.n x.f V1) := by
          obtain ⟨g, e, h2⟩ := HIZ.out
          exact ⟨g, e, h2.block (hkp _ (blk_ne (inBlk_type h2) (rowIs_type HPX.out.row) (by decide)))⟩
        have x4 : V1.cell? ⟨g6, 4, none⟩ = some (.int .i64 x.wt) := R6.cell (i := 4) (by omega)
        have x5 : V1.cell? ⟨g6, 5, none⟩ = some (.slice x.pa x.n x.k) := R6.cell (i := 5) (by omega)
        obtain ⟨⟨o0, o1⟩, z0, z1⟩ := row2_cells RO
        have HRO3 := Lib.hid RO
        have hol : w.heap.size + 1 < V1.heap.size := RO.lt
        have HV1 := Lib.hid hV1
        clear hV1 hkp R6 RO
        have hVe := HV1.out
        subst hVe
        go_wp2_with fail
        refine bodyPost_ret (v := .tuple #[btV x.wt x.pa x.n x.k, .nilIface]) ?_ rfl (Or.inl ⟨HOK.out, x, _, k, rfl, HXX.out, ?_, ?_, ?_, ?_, (Gw.refl _ _).trans HGX.out HFB.out.size⟩)
        · obtain ⟨⟨a0, a1⟩, _⟩ := row2_cells (row2_put HRO3.out (.int .i64 x.wt) (.slice x.pa x.n x.k))
          simp only [results, Tryd.results50]
          simp [go_sem, a0, a1]
        · obtain ⟨g, e, h2⟩ := HIX.out
          have e9 := blk_ne (inBlk_type h2) (rowIs_type HRO3.out) (by decide)
          exact ⟨g, e, h2.block ((Below.heap_setCell _ ⟨w.heap.size + 1, 1, none⟩ _ _ e9).trans (Below.heap_setCell _ ⟨w.heap.size + 1, 0, none⟩ _ _ e9))⟩
        · rw [← HYF.out]; exact ⟨fun h => by omega, fun _ => rfl⟩
        · rw [← HFL.out]; exact HPV.out.put2 HRO3.out HN1.out.1 HM1.out _ _
        · exact (HFV.out.above (Nat.le_succ _) 0 _).above (Nat.le_succ _) 1 _
    · obtain ⟨ey, rfl, hey⟩ := her
      have HEY := Lib.hid hey
      have HST := Lib.hid hst
      obtain ⟨⟨o0, o1⟩, z0, z1⟩ := row2_cells HRO2.out
      have hol : w.heap.size + 1 < wc.heap.size := HRO2.out.lt
      clear hey hst r6 n1 n6 hgg hpl hw1 hV
      go_wp2_with fail
      refine bodyPost_ret (v := .tuple #[nilB, .iface 64 (.agg #[.string ⟨#[102, 105, 108, 116, 101, 114, 105, 110, 103]⟩, .iface 64 ey])]) ?_ rfl (Or.inr ⟨c, _, HST.out, rfl, ErrIs.wrap ⟨ey, rfl, HEY.out⟩ _, ?_⟩)
      · obtain ⟨⟨a0, a1⟩, _⟩ := row2_cells (row2_put HRO2.out (.int .i64 0) (.slice none 0 0))
        simp only [results, Tryd.results50]
        simp [go_sem, a0, a1]
      · exact ((Fr.of_below HBV.out).above (Nat.le_succ _) 0 _).above (Nat.le_succ _) 1 _
end Go.Proofs.YtcjeieagpcphjaaDoor
