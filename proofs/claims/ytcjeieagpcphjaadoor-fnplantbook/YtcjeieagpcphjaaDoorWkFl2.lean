/-
  Filters: the program's step.
-/
import Derived.Test.YtcjeieagpcphjaaDoorWkFl1
import Derived.Deep.DeepCutAuto
namespace Go.Proofs.YtcjeieagpcphjaaDoor
open Go.RowKit Go.Deep

def flVs (f : Nat → Int) (n : Nat) : List Value := (listOf f n).map (Value.int .i64)
set_option maxRecDepth 100000 in
set_option maxHeartbeats 2000000 in
theorem cloneI_any (b n cap : Nat) (f : Nat → Int) (w : World) (h : ∀ i, i < n → w.cell? ⟨b, i, none⟩ = some (.int .i64 (f i))) (hn : 1 ≤ n) (hn2 : n ≤ 6) :
    Calls Tryd.prog 71 #[.slice (some ⟨b, 0, none⟩) n cap] w fun e w' => (∃ g c, e = .returned (.slice (some ⟨g, 0, none⟩) n c) ∧ w.heap.size ≤ g ∧ InBlk g n f w') ∧ Below w.heap.size w w' := by
  obtain ⟨i0, hi, hz0, hz1, hz2⟩ := info_parts info_i64
  have q22 : ∀ (w : World) (a : Option Addr) (n c n' c' : Nat), (binOp .eql 24 (.slice a n c) (.slice none n' c')).run Tryd.prog w = .ok (.bool a.isNone) w := fun w a n c n' c' => Lib.run_eql_slice_nil w _ _ a n c n' c' Tryd.underlying24
  have H := Lib.hid h
  clear h
  go_enter Tryd.func71, Tryd.ntmps71
  go_wp2_with (at_builtin; refine wpList_append_own _ rfl _ _ 24 rfl w.heap.size 2 i0 (.int .i64 0) 1 8 Tryd.underlying24 hi hz0 hz1 hz2 rfl (by decide) _ _ _ rfl (World.ownsRow_made w #[] 0 (Nat.le_refl _) (Nat.zero_le _) rfl) ⟨b, 0, none⟩ n cap (flVs f n) rfl ?qc1 ?qc2 ?qc3 ?qc4 ?qc5 ?qc6 ?_)
  case qc1 => simp [flVs, listOf_len]
  case qc2 =>
    intro j u hj
    have hjn : j < n := by
      have := (List.getElem?_eq_some_iff.1 hj).1
      simpa [flVs, listOf_len] using this
    rw [Addr.add_lit]
    refine Lib.cell?_alloc_some _ ?_
    rw [Nat.zero_add, H.out j hjn, ← hj]
    simp [flVs, listOf, hjn]
  case qc3 =>
    intro u hu
    unfold flVs at hu
    obtain ⟨x, _, rfl⟩ := List.mem_map.1 hu
    rfl
  case qc4 => unfold maxLen; omega
  case qc5 => omega
  case qc6 => simp
  intro v' w1 hown hgrow hnil
  have HB : Hid (Below w.heap.size w w1) := ((Below.refl _ w).alloc (Nat.le_refl _) _).grown hgrow (by simp) (by intro k hk; simp [Value.ownBlock] at hk; omega)
  have hown' : w1.ownsRow w.heap.size 2 1 v' n (flVs f n) := by simpa using hown
  have h' : w1.ownsRow w.heap.size 2 1 v' (listOf f n).length ((listOf f n).map (Value.int .i64)) := by rw [listOf_len]; exact hown'
  rcases own_ints h' with ⟨e1, e2⟩ | ⟨g, c, e1, hg, hblk⟩
  · have hn : n = 0 := by have := congrArg List.length e2; simpa [listOf_len] using this
    omega
  · rw [listOf_len] at e1 hblk
    subst e1
    have HBK : Hid (InBlk g n f w1) := hblk.congr (fun j hj => inList_of f hj)
    clear hown hown' h' hgrow hnil hblk
    go_wp2
    go_ret
    exact ⟨⟨g, c, rfl, hg, HBK.out⟩, HB.out⟩
theorem inBlk_set0 {g n : Nat} {f : Nat → Int} {w : World} (h : InBlk g n f w) (x : Int) : InBlk g n (Wk.upd0 f x) (w.setCell ⟨g, 0, none⟩ (.int .i64 x)) := by
  obtain ⟨m, F, h1, h2, h3⟩ := h
  refine ⟨m, _, h1, h2.set 0 (.int .i64 x), fun j hj => ?_⟩
  unfold inRow Wk.upd0
  by_cases e : j = 0
  · subst e; simp
  · rw [if_neg e, if_neg e]; exact h3 j hj
theorem row4_set0 {w : World} {g : Nat} {t : TypeId} {a b c d : Value} (h : w.rowIs g t 4 (rowL [a, b, c, d])) (u : Value) : (w.setCell ⟨g, 0, none⟩ u).rowIs g t 4 (rowL [u, b, c, d]) :=
  (h.set 0 u).congr (fun j _ => by
    by_cases e : j = 0
    · subst e; rfl
    · rw [if_neg e]
      obtain ⟨j', rfl⟩ : ∃ j', j = j' + 1 := ⟨j - 1, by omega⟩
      rfl)
theorem TwM.two {lo : Nat} {n : Nat} {f1 f2 : Nat → Int} {W : World} {g1 g2 : Nat} (h1 : InBlk g1 n f1 W) (h2 : InBlk g2 n f2 W) (hl : lo ≤ g1 ∧ lo ≤ g2 ∧ g1 ≠ g2) (kx ky : Nat) : TwM lo W.heap.size (some ⟨g1, 0, none⟩) n kx f1 (some ⟨g2, 0, none⟩) n ky f2 W :=
  ⟨Or.inr ⟨g1, rfl, ⟨hl.1, h1.lt⟩, h1⟩, Or.inr ⟨g2, rfl, ⟨hl.2.1, h2.lt⟩, h2⟩, fun g e1 e2 => hl.2.2 (by
    have a1 := congrArg (fun x : Option Addr => x.map Addr.block) e1
    have a2 := congrArg (fun x : Option Addr => x.map Addr.block) e2
    simp at a1 a2
    omega)⟩
/-- What stands in a filter's step: its arguments in their boxes. -/
structure FlB (w : World) (fl : Wk.Fl) (held wt : Int) (a : Option Addr) (n k : Nat) (W : World) : Prop where
  bf : W.rowIs w.heap.size 29 4 (rowL [.int .i64 held, .int .i64 fl.most, .int .i64 fl.catch_, .int .i64 fl.wash])
  bb : W.rowIs (w.heap.size + 1) 28 2 (r2 (.int .i64 wt) (.slice a n k))
  bel : Below w.heap.size w W
theorem FlB.below {w : World} {fl : Wk.Fl} {held wt : Int} {a : Option Addr} {n k : Nat} {W W' : World} (h : FlB w fl held wt a n k W) (hb : Below W.heap.size W W') : FlB w fl held wt a n k W' := ⟨wrow_below h.bf hb, wrow_below h.bb hb, h.bel.trans (hb.mono h.bel.size)⟩
theorem FlB.set {w : World} {fl : Wk.Fl} {held wt : Int} {a : Option Addr} {n k : Nat} {W : World} (h : FlB w fl held wt a n k W) {p : Addr} (hp : w.heap.size + 1 < p.block) (u : Value) : FlB w fl held wt a n k (W.setCell p u) := ⟨wrow_set h.bf (by omega) u, wrow_set h.bb (by omega) u, h.bel.setCell (by omega) u⟩
theorem FlB.held {w : World} {fl : Wk.Fl} {held wt : Int} {a : Option Addr} {n k : Nat} {W : World} (h : FlB w fl held wt a n k W) (x : Int) : FlB w fl x wt a n k (W.setCell ⟨w.heap.size, 0, none⟩ (.int .i64 x)) := ⟨row4_set0 h.bf _, wrow_set h.bb (p := ⟨w.heap.size, 0, none⟩) (by show w.heap.size + 1 ≠ w.heap.size; omega) _, h.bel.setCell (p := ⟨w.heap.size, 0, none⟩) (Nat.le_refl _) _⟩
/-- And the clean water's box. -/
structure FcI (w : World) (fl : Wk.Fl) (held wt : Int) (a : Option Addr) (n k : Nat) (cw : Int) (b7 g1 c : Nat) (f1 : Nat → Int) (W : World) : Prop where
  fb : FlB w fl held wt a n k W
  o : W.rowIs (w.heap.size + 1 + 1) 54 10 (rowL foZ)
  r7 : W.rowIs b7 28 2 (r2 (.int .i64 cw) (.slice (some ⟨g1, 0, none⟩) n c))
  i1 : InBlk g1 n f1 W
  num : w.heap.size + 1 + 1 < b7 ∧ w.heap.size + 1 + 1 < g1 ∧ b7 ≠ g1
/-- And the waste's box. -/
structure FdI (w : World) (fl : Wk.Fl) (held wt : Int) (a : Option Addr) (n k : Nat) (cw : Int) (b7 g1 c : Nat) (f1 : Nat → Int) (ww : Int) (b8 g2 : Nat) (f2 : Nat → Int) (W : World) : Prop where
  fb : FlB w fl held wt a n k W
  r7 : W.rowIs b7 28 2 (r2 (.int .i64 cw) (.slice (some ⟨g1, 0, none⟩) n c))
  i1 : InBlk g1 n f1 W
  r8 : W.rowIs b8 28 2 (r2 (.int .i64 ww) (.slice (some ⟨g2, 0, none⟩) n n))
  i2 : InBlk g2 n f2 W
  num : (w.heap.size + 1 + 1 < b7 ∧ w.heap.size + 1 + 1 < g1 ∧ w.heap.size + 1 + 1 < b8 ∧ w.heap.size + 1 + 1 < g2) ∧ (b7 ≠ g1 ∧ b7 ≠ b8 ∧ b7 ≠ g2 ∧ g1 ≠ b8 ∧ g1 ≠ g2 ∧ b8 ≠ g2)
section
variable {w : World} {fl : Wk.Fl} {held wt : Int} {a : Option Addr} {n k : Nat} {cw : Int} {b7 g1 c : Nat} {f1 : Nat → Int} {ww : Int} {b8 g2 : Nat} {f2 : Nat → Int} {W : World}
theorem FdI.below {W' : World} (h : FdI w fl held wt a n k cw b7 g1 c f1 ww b8 g2 f2 W) (hb : Below W.heap.size W W') : FdI w fl held wt a n k cw b7 g1 c f1 ww b8 g2 f2 W' := ⟨h.fb.below hb, wrow_below h.r7 hb, h.i1.below hb, wrow_below h.r8 hb, h.i2.below hb, h.num⟩
theorem FcI.put (h : FcI w fl held wt a n k cw b7 g1 c f1 W) (x : Int) : FcI w fl held wt a n k cw b7 g1 c (Wk.upd0 f1 x) (W.setCell ⟨g1, 0, none⟩ (.int .i64 x)) := by
  have hn := h.num
  exact ⟨h.fb.set (p := ⟨g1, 0, none⟩) (by show w.heap.size + 1 < g1; omega) _, wrow_set h.o (p := ⟨g1, 0, none⟩) (by show w.heap.size + 1 + 1 ≠ g1; omega) _, wrow_set h.r7 (p := ⟨g1, 0, none⟩) hn.2.2 _, inBlk_set0 h.i1 x, h.num⟩
theorem FcI.waste (h : FcI w fl held wt a n k cw b7 g1 c f1 W) : FdI w fl held wt a n k cw b7 g1 c f1 0 (W.heap.size + 1) W.heap.size (fun _ => 0) ((W.alloc (mkO n)).alloc (.cells #[.int .i64 0, .slice (some ⟨W.heap.size, 0, none⟩) n n] 28)) := by
  have hb : Below W.heap.size W ((W.alloc (mkO n)).alloc (.cells #[.int .i64 0, .slice (some ⟨W.heap.size, 0, none⟩) n n] 28)) := ((Below.refl _ _).alloc (Nat.le_refl _) _).alloc (by simp) _
  have h7 := h.r7.lt
  have hi := h.i1.lt
  have hn := h.num
  exact ⟨h.fb.below hb, wrow_below h.r7 hb, h.i1.below hb, row2' (by simp) _ _ _, (show InBlk W.heap.size n (fun _ => 0) (W.alloc (mkO n)) from ⟨n, _, Nat.le_refl _, World.rowIs_made W (.int .i64 0) n 2, fun _ _ => rfl⟩).below (bel_alloc _ _), by omega⟩
theorem FdI.wash (h : FdI w fl held wt a n k cw b7 g1 c f1 ww b8 g2 f2 W) (x y z u : Int) : FdI w fl u wt a n k z b7 g1 c f1 x b8 g2 (Wk.upd0 f2 y) ((((W.setCell ⟨b8, 0, none⟩ (.int .i64 x)).setCell ⟨g2, 0, none⟩ (.int .i64 y)).setCell ⟨b7, 0, none⟩ (.int .i64 z)).setCell ⟨w.heap.size, 0, none⟩ (.int .i64 u)) := by
  have hn := h.num
  refine ⟨((((h.fb.set (p := ⟨b8, 0, none⟩) (by show w.heap.size + 1 < b8; omega) _).set (p := ⟨g2, 0, none⟩) (by show w.heap.size + 1 < g2; omega) _).set (p := ⟨b7, 0, none⟩) (by show w.heap.size + 1 < b7; omega) _).held u), ?_, ?_, ?_, ?_, h.num⟩
  · exact wrow_set (row2_set0 (wrow_set (wrow_set h.r7 (p := ⟨b8, 0, none⟩) (by show b7 ≠ b8; omega) _) (p := ⟨g2, 0, none⟩) (by show b7 ≠ g2; omega) _) _) (p := ⟨w.heap.size, 0, none⟩) (by show b7 ≠ w.heap.size; omega) _
  · refine h.i1.block ?_
    rw [Below.heap_setCell _ ⟨w.heap.size, 0, none⟩ _ _ (by show g1 ≠ w.heap.size; omega), Below.heap_setCell _ ⟨b7, 0, none⟩ _ _ (by show g1 ≠ b7; omega), Below.heap_setCell _ ⟨g2, 0, none⟩ _ _ (by show g1 ≠ g2; omega), Below.heap_setCell _ ⟨b8, 0, none⟩ _ _ (by show g1 ≠ b8; omega)]
  · exact wrow_set (wrow_set (wrow_set (row2_set0 h.r8 _) (p := ⟨g2, 0, none⟩) (by show b8 ≠ g2; omega) _) (p := ⟨b7, 0, none⟩) (by show b8 ≠ b7; omega) _) (p := ⟨w.heap.size, 0, none⟩) (by show b8 ≠ w.heap.size; omega) _
  · refine (inBlk_set0 (h.i2.block (Below.heap_setCell W ⟨b8, 0, none⟩ (.int .i64 x) _ (by show g2 ≠ b8; omega))) y).block ?_
    rw [Below.heap_setCell _ ⟨w.heap.size, 0, none⟩ _ _ (by show g2 ≠ w.heap.size; omega), Below.heap_setCell _ ⟨b7, 0, none⟩ _ _ (by show g2 ≠ b7; omega)]
theorem fcI_of {W1 : World} (h : FlB w fl held wt a n k W1) (ho : W1.rowIs (w.heap.size + 1 + 1) 54 10 (rowL foZ)) (hb : Below W1.heap.size W1 W) (h7 : W.rowIs b7 28 2 (r2 (.int .i64 cw) (.slice (some ⟨g1, 0, none⟩) n c))) (hi : InBlk g1 n f1 W) (hg : W1.heap.size ≤ b7 ∧ W1.heap.size ≤ g1 ∧ b7 ≠ g1) : FcI w fl held wt a n k cw b7 g1 c f1 W := by
  have := ho.lt
  exact ⟨h.below hb, wrow_below ho hb, h7, hi, by omega⟩
end
/-- How a filter's step ends. -/
def SfEnd (lo : Nat) (A : Wk.FO) (e : Ending) (W : World) : Prop :=
  (A.c = 0 ∧ ∃ ax kx ay ky, e = .returned (.tuple #[foV A ax kx ay ky, .nilIface]) ∧ TwM lo W.heap.size ax A.clean.n kx A.clean.f ay A.waste.n ky A.waste.f W) ∨
  (∃ er c, e = .returned (.tuple #[foV (Wk.badF 0) none 0 none 0, er]) ∧ ErrIs er c ∧ A = Wk.badF c)
set_option maxRecDepth 100000 in
set_option maxHeartbeats 8000000 in
theorem stepF_any (fl : Wk.Fl) (b : Wk.Bt) (a : Option Addr) (k : Nat) (w : World) (h : IntsAt a b.n b.f w) (hn : b.n ≤ 4194304) :
    Calls Tryd.prog 59 #[flV fl, btV b.wt a b.n k] w fun e w' => SfEnd w.heap.size (Wk.step fl b) e w' ∧ Below w.heap.size w w' := by
  obtain ⟨wt, n, f⟩ := b
  obtain ⟨b1, hb1⟩ := bool_of (Wk.FlOk fl)
  obtain ⟨b2, hb2⟩ := bool_of (Wk.OkB wt n f)
  have K1 := Lib.hid hb1
  have K2 := Lib.hid hb2
  obtain ⟨W, hW⟩ : ∃ W, W = ((w.alloc (.cells #[.int .i64 fl.held, .int .i64 fl.most, .int .i64 fl.catch_, .int .i64 fl.wash] 29)).alloc (.cells #[.int .i64 wt, .slice a n k] 28)).alloc (.cells ⟨foZ⟩ 54) := ⟨_, rfl⟩
  have hF : FlB w fl fl.held wt a n k W := by
    rw [hW]
    exact ⟨wrow_below (wrow_below (rowL_alloc w (flL fl) _) (bel_alloc _ _)) (bel_alloc _ _), wrow_below (row2' (by simp) _ _ _) (bel_alloc _ _), ((bel_alloc _ _).alloc (by simp) _).alloc (by simp; omega) _⟩
  have hO : W.rowIs (w.heap.size + 1 + 1) 54 10 (rowL foZ) := by
    rw [hW]
    have := rowL_alloc ((w.alloc (.cells #[.int .i64 fl.held, .int .i64 fl.most, .int .i64 fl.catch_, .int .i64 fl.wash] 29)).alloc (.cells #[.int .i64 wt, .slice a n k] 28)) foZ 54
    rwa [World.size_alloc, World.size_alloc] at this
  have HF := Lib.hid hF
  have HO := Lib.hid hO
  have HW := Lib.hid hW
  have H := Lib.hid h
  have HN := Lib.hid hn
  have bad : ¬ Wk.StepOk fl ⟨wt, n, f⟩ → Hid (Wk.step fl ⟨wt, n, f⟩ = Wk.badF 1) := fun h => by show _ = _; unfold Wk.step; rw [if_neg h]
  have HBAD := Lib.hid bad
  clear hb1 hb2 hW hF hO h hn bad
  go_enter Tryd.func59, Tryd.ntmps59
  go_wp2_with fail
  rw [← HW.out]
  refine ((filterR_any fl W).mono fun e w' ⟨g1, g2⟩ => ⟨g1.eq K1.out, g2⟩ : Calls Tryd.prog 70 #[flV fl] W fun e w' => e = .returned (.bool b1) ∧ Gr W w').mono ?_
  rintro e W1 ⟨rfl, hG⟩
  have HF1 := Lib.hid (HF.out.below hG.bel)
  have HO1 := Lib.hid (wrow_below HO.out hG.bel)
  clear hG HF HO HW
  have o0 := HO1.out.cell (i := 0) (by omega)
  have z0 := HO1.out.frozen 0
  have o1 := HO1.out.cell (i := 1) (by omega)
  have z1 := HO1.out.frozen 1
  have o2 := HO1.out.cell (i := 2) (by omega)
  have z2 := HO1.out.frozen 2
  have o3 := HO1.out.cell (i := 3) (by omega)
  have z3 := HO1.out.frozen 3
  have o4 := HO1.out.cell (i := 4) (by omega)
  have z4 := HO1.out.frozen 4
  have o5 := HO1.out.cell (i := 5) (by omega)
  have z5 := HO1.out.frozen 5
  have o6 := HO1.out.cell (i := 6) (by omega)
  have z6 := HO1.out.frozen 6
  have o7 := HO1.out.cell (i := 7) (by omega)
  have z7 := HO1.out.frozen 7
  have o8 := HO1.out.cell (i := 8) (by omega)
  have z8 := HO1.out.frozen 8
  have o9 := HO1.out.cell (i := 9) (by omega)
  have z9 := HO1.out.frozen 9
  obtain ⟨⟨y0, y1⟩, _⟩ := row2_cells HF1.out.bb
  cases b1 with
  | false =>
    have hP := HBAD.out (fun h => by have := K1.out.2 h.1; cases this)
    go_wp2_with fail
    obtain ⟨WZ, hWZ⟩ : ∃ WZ, WZ = setAll (w.heap.size + 1 + 1) 0 foZ W1 := ⟨_, rfl⟩
    have hS : WZ.rowIs (w.heap.size + 1 + 1) 54 10 (rowL foZ) := by rw [hWZ]; exact setAll_row _ HO1.out rfl
    have hBZ : Below w.heap.size w WZ := by rw [hWZ]; exact setAll_below (by omega) _ _ _ HF1.out.bel
    have hW2 : WZ = ((((((((((W1.setCell ⟨w.heap.size + 1 + 1, 0, none⟩ (.int .i64 0)).setCell ⟨w.heap.size + 1 + 1, 1, none⟩ (.int .i64 0)).setCell ⟨w.heap.size + 1 + 1, 2, none⟩ (.int .i64 0)).setCell ⟨w.heap.size + 1 + 1, 3, none⟩ (.int .i64 0)).setCell ⟨w.heap.size + 1 + 1, 4, none⟩ (.int .i64 0)).setCell ⟨w.heap.size + 1 + 1, 5, none⟩ (.slice none 0 0)).setCell ⟨w.heap.size + 1 + 1, 6, none⟩ (.int .i64 0)).setCell ⟨w.heap.size + 1 + 1, 7, none⟩ (.slice none 0 0)).setCell ⟨w.heap.size + 1 + 1, 8, none⟩ (.int .i64 0)).setCell ⟨w.heap.size + 1 + 1, 9, none⟩ (.int .i64 0)) := hWZ
    rw [← hW2]
    clear hW2 hWZ
    refine bodyPost_ret (v := .tuple #[foV (Wk.badF 0) none 0 none 0, errV ⟨#[97, 32, 102, 105, 108, 116, 101, 114]⟩ 1]) ?_ rfl ⟨Or.inr ⟨_, 1, rfl, errIs_one _ _, hP.out⟩, hBZ⟩
    obtain ⟨⟨x0, x1, x2, x3, x4⟩, x5, x6, x7, x8, x9⟩ := row10_cells hS
    simp only [results, Tryd.results59]
    simp [go_sem, x0, x1, x2, x3, x4, x5, x6, x7, x8, x9, Wk.badF, Wk.flNil, Wk.nil]
  | true =>
  have hokF : Hid (Wk.FlOk fl) := by show Wk.FlOk fl; have := K1.out; simpa using this
  go_wp2_with fail
  refine ((implBRight_any wt a n k f _ (H.out.below HF1.out.bel) HN.out).mono fun e w' ⟨g1, g2⟩ => ⟨g1.eq K2.out, g2⟩ : Calls Tryd.prog 61 #[btV wt a n k] W1 fun e w' => e = .returned (.bool b2) ∧ Gr W1 w').mono ?_
  rintro e W2 ⟨rfl, hG⟩
  have HF2 := Lib.hid (HF1.out.below hG.bel)
  have HO2 := Lib.hid (wrow_below HO1.out hG.bel)
  clear hG HF1 HO1 y0 y1
  clear o0 z0 o1 z1 o2 z2 o3 z3 o4 z4 o5 z5 o6 z6 o7 z7 o8 z8 o9 z9
  have o0 := HO2.out.cell (i := 0) (by omega)
  have z0 := HO2.out.frozen 0
  have o1 := HO2.out.cell (i := 1) (by omega)
  have z1 := HO2.out.frozen 1
  have o2 := HO2.out.cell (i := 2) (by omega)
  have z2 := HO2.out.frozen 2
  have o3 := HO2.out.cell (i := 3) (by omega)
  have z3 := HO2.out.frozen 3
  have o4 := HO2.out.cell (i := 4) (by omega)
  have z4 := HO2.out.frozen 4
  have o5 := HO2.out.cell (i := 5) (by omega)
  have z5 := HO2.out.frozen 5
  have o6 := HO2.out.cell (i := 6) (by omega)
  have z6 := HO2.out.frozen 6
  have o7 := HO2.out.cell (i := 7) (by omega)
  have z7 := HO2.out.frozen 7
  have o8 := HO2.out.cell (i := 8) (by omega)
  have z8 := HO2.out.frozen 8
  have o9 := HO2.out.cell (i := 9) (by omega)
  have z9 := HO2.out.frozen 9
  obtain ⟨⟨y0, y1⟩, _⟩ := row2_cells HF2.out.bb
  obtain ⟨f0, f1, f2, f3⟩ := row4_cells HF2.out.bf
  have fz := HF2.out.bf.frozen 0
  cases b2 with
  | false =>
    have hP := HBAD.out (fun h => by have := K2.out.2 h.2.1; cases this)
    go_wp2_with fail
    obtain ⟨WZ, hWZ⟩ : ∃ WZ, WZ = setAll (w.heap.size + 1 + 1) 0 foZ W2 := ⟨_, rfl⟩
    have hS : WZ.rowIs (w.heap.size + 1 + 1) 54 10 (rowL foZ) := by rw [hWZ]; exact setAll_row _ HO2.out rfl
    have hBZ : Below w.heap.size w WZ := by rw [hWZ]; exact setAll_below (by omega) _ _ _ HF2.out.bel
    have hW2 : WZ = ((((((((((W2.setCell ⟨w.heap.size + 1 + 1, 0, none⟩ (.int .i64 0)).setCell ⟨w.heap.size + 1 + 1, 1, none⟩ (.int .i64 0)).setCell ⟨w.heap.size + 1 + 1, 2, none⟩ (.int .i64 0)).setCell ⟨w.heap.size + 1 + 1, 3, none⟩ (.int .i64 0)).setCell ⟨w.heap.size + 1 + 1, 4, none⟩ (.int .i64 0)).setCell ⟨w.heap.size + 1 + 1, 5, none⟩ (.slice none 0 0)).setCell ⟨w.heap.size + 1 + 1, 6, none⟩ (.int .i64 0)).setCell ⟨w.heap.size + 1 + 1, 7, none⟩ (.slice none 0 0)).setCell ⟨w.heap.size + 1 + 1, 8, none⟩ (.int .i64 0)).setCell ⟨w.heap.size + 1 + 1, 9, none⟩ (.int .i64 0)) := hWZ
    rw [← hW2]
    clear hW2 hWZ
    refine bodyPost_ret (v := .tuple #[foV (Wk.badF 0) none 0 none 0, errV ⟨#[97, 32, 98, 97, 116, 99, 104, 32, 116, 111, 32, 102, 105, 108, 116, 101, 114]⟩ 1]) ?_ rfl ⟨Or.inr ⟨_, 1, rfl, errIs_one _ _, hP.out⟩, hBZ⟩
    obtain ⟨⟨x0, x1, x2, x3, x4⟩, x5, x6, x7, x8, x9⟩ := row10_cells hS
    simp only [results, Tryd.results59]
    simp [go_sem, x0, x1, x2, x3, x4, x5, x6, x7, x8, x9, Wk.badF, Wk.flNil, Wk.nil]
  | true =>
  have hokB : Hid (Wk.OkB wt n f) := by show Wk.OkB wt n f; have := K2.out; simpa using this
  by_cases hn0 : n = 0
  · have hz0 : ((n : Int) == 0) = true := by simp [hn0]
    have hP := HBAD.out (fun h => by have : 0 < n := h.2.2; omega)
    go_wp2_with fail
    obtain ⟨WZ, hWZ⟩ : ∃ WZ, WZ = setAll (w.heap.size + 1 + 1) 0 foZ W2 := ⟨_, rfl⟩
    have hS : WZ.rowIs (w.heap.size + 1 + 1) 54 10 (rowL foZ) := by rw [hWZ]; exact setAll_row _ HO2.out rfl
    have hBZ : Below w.heap.size w WZ := by rw [hWZ]; exact setAll_below (by omega) _ _ _ HF2.out.bel
    have hW2 : WZ = ((((((((((W2.setCell ⟨w.heap.size + 1 + 1, 0, none⟩ (.int .i64 0)).setCell ⟨w.heap.size + 1 + 1, 1, none⟩ (.int .i64 0)).setCell ⟨w.heap.size + 1 + 1, 2, none⟩ (.int .i64 0)).setCell ⟨w.heap.size + 1 + 1, 3, none⟩ (.int .i64 0)).setCell ⟨w.heap.size + 1 + 1, 4, none⟩ (.int .i64 0)).setCell ⟨w.heap.size + 1 + 1, 5, none⟩ (.slice none 0 0)).setCell ⟨w.heap.size + 1 + 1, 6, none⟩ (.int .i64 0)).setCell ⟨w.heap.size + 1 + 1, 7, none⟩ (.slice none 0 0)).setCell ⟨w.heap.size + 1 + 1, 8, none⟩ (.int .i64 0)).setCell ⟨w.heap.size + 1 + 1, 9, none⟩ (.int .i64 0)) := hWZ
    rw [← hW2]
    clear hW2 hWZ
    refine bodyPost_ret (v := .tuple #[foV (Wk.badF 0) none 0 none 0, errV ⟨#[97, 32, 98, 97, 116, 99, 104, 32, 116, 111, 32, 102, 105, 108, 116, 101, 114]⟩ 1]) ?_ rfl ⟨Or.inr ⟨_, 1, rfl, errIs_one _ _, hP.out⟩, hBZ⟩
    obtain ⟨⟨x0, x1, x2, x3, x4⟩, x5, x6, x7, x8, x9⟩ := row10_cells hS
    simp only [results, Tryd.results59]
    simp [go_sem, x0, x1, x2, x3, x4, x5, x6, x7, x8, x9, Wk.badF, Wk.flNil, Wk.nil]
  have hz0 : ((n : Int) == 0) = false := by simp; omega
  have HN1 : Hid (1 ≤ n) := by show 1 ≤ n; omega
  have HN6 : Hid (n ≤ 6) := hokB.out.2.1
  have HOK : Hid (Wk.StepOk fl ⟨wt, n, f⟩) := ⟨hokF.out, hokB.out, by show 0 < n; omega⟩
  obtain ⟨bb, ea, hcb⟩ : ∃ bb, a = some ⟨bb, 0, none⟩ ∧ ∀ i, i < n → w.cell? ⟨bb, i, none⟩ = some (.int .i64 (f i)) := by
    rcases H.out with h0 | h0
    · exact absurd h0 hn0
    · exact h0
  subst ea
  have HCB : Hid (∀ W', Below w.heap.size w W' → ∀ i, i < n → W'.cell? ⟨bb, i, none⟩ = some (.int .i64 (f i))) := fun W' hb i hi => (hb.cell (World.block_lt_of_cell? _ _ (hcb i hi))).trans (hcb i hi)
  have c0 := HCB.out W2 HF2.out.bel 0 (by omega)
  have hnz : (0 : Int) < (n : Int) := by omega
  obtain ⟨cc, hcc⟩ : ∃ cc, f 0 * fl.catch_ / 1000 = cc := ⟨_, rfl⟩
  have hcb2 : 0 ≤ cc ∧ cc ≤ f 0 := by have := Wk.caught_bounds HOK.out; unfold Wk.caught at this; rw [← hcc]; exact this
  have hf0 := hokB.out.2.2 0 (by omega)
  have hcat := hokF.out.2.2.1
  have hhe := hokF.out.1
  obtain ⟨hm0, hm1⟩ := Wk.mul_le hf0.1 hcat.1 hf0.2 hcat.2
  have hm2 : f 0 * fl.catch_ ≤ 1000000000000 := by omega
  have HCC : Hid (Wk.caught fl ⟨wt, n, f⟩ = cc) := hcc
  have HMO : Hid (0 ≤ fl.most ∧ fl.most ≤ 1000000000) := hokF.out.2.1
  have HWT : Hid (0 ≤ wt ∧ wt ≤ 1000000000) := hokB.out.1
  have HWA : Hid (0 ≤ fl.wash ∧ fl.wash ≤ 1000000) := hokF.out.2.2.2
  clear hcb hm1 hcat
  go_wp2_with fail
  go_region
  obtain ⟨W3, hW3⟩ : ∃ W3, W3 = W2.setCell ⟨w.heap.size, 0, none⟩ (.int .i64 (fl.held + cc)) := ⟨_, rfl⟩
  have HF3 : Hid (FlB w fl (fl.held + cc) wt (some ⟨bb, 0, none⟩) n k W3) := by show FlB _ _ _ _ _ _ _ _; rw [hW3]; exact HF2.out.held _
  have HO3 : Hid (W3.rowIs (w.heap.size + 1 + 1) 54 10 (rowL foZ)) := by show World.rowIs _ _ _ _ _; rw [hW3]; exact wrow_set HO2.out (p := ⟨w.heap.size, 0, none⟩) (by show w.heap.size + 1 + 1 ≠ w.heap.size; omega) _
  have HW3 := Lib.hid hW3
  by_cases hov : 1000000000 < fl.held + cc
  · have hP : Hid (Wk.step fl ⟨wt, n, f⟩ = Wk.badF 5) := by show _ = _; unfold Wk.step; rw [if_pos HOK.out, HCC.out, if_pos hov]
    clear hW3
    go_wp2_with fail
    rw [← HW3.out]
    clear HW3
    obtain ⟨WZ, hWZ⟩ : ∃ WZ, WZ = setAll (w.heap.size + 1 + 1) 0 foZ W3 := ⟨_, rfl⟩
    have hS : WZ.rowIs (w.heap.size + 1 + 1) 54 10 (rowL foZ) := by rw [hWZ]; exact setAll_row _ HO3.out rfl
    have hBZ : Below w.heap.size w WZ := by rw [hWZ]; exact setAll_below (by omega) _ _ _ HF3.out.bel
    have hW2 : WZ = ((((((((((W3.setCell ⟨w.heap.size + 1 + 1, 0, none⟩ (.int .i64 0)).setCell ⟨w.heap.size + 1 + 1, 1, none⟩ (.int .i64 0)).setCell ⟨w.heap.size + 1 + 1, 2, none⟩ (.int .i64 0)).setCell ⟨w.heap.size + 1 + 1, 3, none⟩ (.int .i64 0)).setCell ⟨w.heap.size + 1 + 1, 4, none⟩ (.int .i64 0)).setCell ⟨w.heap.size + 1 + 1, 5, none⟩ (.slice none 0 0)).setCell ⟨w.heap.size + 1 + 1, 6, none⟩ (.int .i64 0)).setCell ⟨w.heap.size + 1 + 1, 7, none⟩ (.slice none 0 0)).setCell ⟨w.heap.size + 1 + 1, 8, none⟩ (.int .i64 0)).setCell ⟨w.heap.size + 1 + 1, 9, none⟩ (.int .i64 0)) := hWZ
    rw [← hW2]
    clear hW2 hWZ
    refine bodyPost_ret (v := .tuple #[foV (Wk.badF 0) none 0 none 0, errV ⟨#[119, 104, 97, 116, 32, 97, 32, 102, 105, 108, 116, 101, 114, 32, 104, 111, 108, 100, 115]⟩ 5]) ?_ rfl ⟨Or.inr ⟨_, 5, rfl, errIs_one _ _, hP.out⟩, hBZ.drew⟩
    obtain ⟨⟨x0, x1, x2, x3, x4⟩, x5, x6, x7, x8, x9⟩ := row10_cells hS
    simp only [results, Tryd.results59]
    simp [go_sem, x0, x1, x2, x3, x4, x5, x6, x7, x8, x9, Wk.badF, Wk.flNil, Wk.nil]
  clear hW3
  go_wp2_with fail
  rw [← HW3.out]
  obtain ⟨V3, hV3⟩ : ∃ V3, V3 = W3.drew := ⟨_, rfl⟩
  rw [← hV3]
  replace HF3 : Hid (FlB w fl (fl.held + cc) wt (some ⟨bb, 0, none⟩) n k V3) := by show FlB _ _ _ _ _ _ _ _; rw [hV3]; exact HF3.out.below (Below.refl _ _).drew
  replace HO3 : Hid (V3.rowIs (w.heap.size + 1 + 1) 54 10 (rowL foZ)) := by show World.rowIs _ _ _ _ _; rw [hV3]; exact HO3.out.of_block rfl
  clear hV3
  clear HW3 HF2 HO2 y0 y1 f0 f1 f2 f3 fz c0
  clear o0 z0 o1 z1 o2 z2 o3 z3 o4 z4 o5 z5 o6 z6 o7 z7 o8 z8 o9 z9
  go_cut [7] (fun p W => ∃ b7 g1 c, p = .pointer (some ⟨b7, 0, none⟩) ∧ Hid (FcI w fl (fl.held + cc) wt (some ⟨bb, 0, none⟩) n k wt b7 g1 c f W))
  case first =>
    refine wp_region_held_drew (S := fun W => FlB w fl (fl.held + cc) wt (some ⟨bb, 0, none⟩) n k W ∧ W.rowIs (w.heap.size + 1 + 1) 54 10 (rowL foZ)) (by kernel_rfl) ⟨HF3.out.below (Below.refl _ _).drew, HO3.out.of_block rfl⟩ (fun hHeld => ?_)
    obtain ⟨Z, hZ⟩ : ∃ Z, Z = V3.drew := ⟨_, rfl⟩
    rw [← hZ] at hHeld ⊢
    have HZ0 : Hid (FlB w fl (fl.held + cc) wt (some ⟨bb, 0, none⟩) n k Z ∧ Z.rowIs (w.heap.size + 1 + 1) 54 10 (rowL foZ)) := hHeld
    clear hZ
    refine take_do (i := 0) (v := (.pointer (some ⟨w.heap.size + 1, 0, none⟩))) rfl (by kernel_rfl) (by kernel_rfl) (by kernel_rfl) (fun _ _ _ h => h) (by rfl) ?_ (by assumption) ?_
    · intro w hSw
      clear hSw
      go_simp
    simp only [Act.put, List.setIfInBounds_toArray, List.set_cons_zero, List.set_cons_succ]
    refine take_do (i := 1) (v := (.int .i64 wt)) rfl (by kernel_rfl) (by kernel_rfl) (by kernel_rfl) (fun _ _ _ h => h) (by rfl) ?_ (by assumption) ?_
    · intro w hSw
      obtain ⟨⟨q0, q1⟩, _⟩ := row2_cells hSw.1.bb
      go_simp
    simp only [Act.put, List.setIfInBounds_toArray, List.set_cons_zero, List.set_cons_succ]
    refine take_do (i := 2) (v := (.pointer (some ⟨w.heap.size + 1, 1, none⟩))) rfl (by kernel_rfl) (by kernel_rfl) (by kernel_rfl) (fun _ _ _ h => h) (by rfl) ?_ (by assumption) ?_
    · intro w hSw
      clear hSw
      go_simp
    simp only [Act.put, List.setIfInBounds_toArray, List.set_cons_zero, List.set_cons_succ]
    refine take_do (i := 3) (v := (.slice (some ⟨bb, 0, none⟩) n k)) rfl (by kernel_rfl) (by kernel_rfl) (by kernel_rfl) (fun _ _ _ h => h) (by rfl) ?_ (by assumption) ?_
    · intro w hSw
      obtain ⟨⟨q0, q1⟩, _⟩ := row2_cells hSw.1.bb
      go_simp
    simp only [Act.put, List.setIfInBounds_toArray, List.set_cons_zero, List.set_cons_succ]
    refine wpAnyH_ready (rs := [4, 6]) (by kernel_rfl) (by simp) (AllReadyH.cons (at_drop (i := 4) rfl) (fun K2 hK => ?_) (AllReadyH.cons (at_drop (i := 6) rfl) (fun K2 hK => ?_) (AllReadyH.nil)))
    · go_simp
      refine (cloneI_any bb n k f _ (fun i hi => HCB.out Z (HZ0.out.1.bel) i hi) HN1.out HN6.out).mono ?_
      rintro e Za ⟨⟨g1, c, rfl, hg1, hi1⟩, hb⟩
      have HI1 := Lib.hid hi1
      go_wp2_with fail
      refine hK.out _ _ ⟨hHeld.1.below hb, wrow_below hHeld.2 hb⟩ (fun hHeld2 => ?_)
      clear hK hHeld
      have hHeld := hHeld2
      clear hHeld2
      have HBA := Lib.hid hb
      have HG1 := Lib.hid hg1
      clear hb hi1 hg1
      refine take_do (i := 5) (v := (.agg #[.int .i64 wt, .slice (some ⟨g1, 0, none⟩) n c])) rfl (by kernel_rfl) (by kernel_rfl) (by kernel_rfl) (fun _ _ _ h => h) (by rfl) ?_ (by assumption) ?_
      · intro w hSw
        clear hSw
        go_simp
      simp only [Act.put, List.setIfInBounds_toArray, List.set_cons_zero, List.set_cons_succ]
      refine take_call (i := 6) rfl (by kernel_rfl) (fun K2 hK => ?_)
      obtain ⟨Zc, hZc⟩ : ∃ Zc, Zc = Za.alloc (.cells #[.int .i64 0, .slice none 0 0] 28) := ⟨_, rfl⟩
      have hbz : Below Za.heap.size Za Zc := by rw [hZc]; exact bel_alloc _ _
      have R7c : Hid (Zc.rowIs Za.heap.size 28 2 (r2 (.int .i64 0) (.slice none 0 0))) := by show World.rowIs _ _ _ _ _; rw [hZc]; exact row2 _ _ _ _
      obtain ⟨b7, hb7⟩ : ∃ b7, b7 = Za.heap.size := ⟨_, rfl⟩
      rw [← hb7] at R7c
      have HBZ : Hid (Below Z.heap.size Z Zc) := HBA.out.trans (hbz.mono HBA.out.size)
      have HI1c := Lib.hid (HI1.out.below hbz)
      have HNUM : Hid (Z.heap.size ≤ b7 ∧ Z.heap.size ≤ g1 ∧ b7 ≠ g1) := by
        have h1 := HI1.out.lt
        have h2 := HG1.out
        have h3 := HBA.out.size
        show _ ∧ _ ∧ _
        omega
      go_simp
      rw [← hZc, ← hb7]
      refine hK.out _ _ ⟨hHeld.1.below hbz, wrow_below hHeld.2 hbz⟩ (fun hHeld2 => ?_)
      clear hK hHeld
      have hHeld := hHeld2
      clear hHeld2
      clear hbz hZc hb7
      obtain ⟨⟨o0, o1⟩, z0, z1⟩ := row2_cells R7c.out
      have hlt7 : b7 < Zc.heap.size := R7c.out.lt
      have hnum := HNUM.out
      have hso : w.heap.size + 1 + 1 < Z.heap.size := HZ0.out.2.lt
      have hbZ : Below Z.heap.size Z ((Zc.setCell ⟨b7, 0, none⟩ (.int .i64 wt)).setCell ⟨b7, 1, none⟩ (.slice (some ⟨g1, 0, none⟩) n c)) := (HBZ.out.setCell (p := ⟨b7, 0, none⟩) (by show Z.heap.size ≤ b7; omega) _).setCell (p := ⟨b7, 1, none⟩) (by show Z.heap.size ≤ b7; omega) _
      have HFC : Hid (FcI w fl (fl.held + cc) wt (some ⟨bb, 0, none⟩) n k wt b7 g1 c f ((Zc.setCell ⟨b7, 0, none⟩ (.int .i64 wt)).setCell ⟨b7, 1, none⟩ (.slice (some ⟨g1, 0, none⟩) n c))) :=
        fcI_of HZ0.out.1 HZ0.out.2 hbZ (row2_put R7c.out _ _) (HI1c.out.block ((Below.heap_setCell _ ⟨b7, 1, none⟩ _ _ (by show g1 ≠ b7; omega)).trans (Below.heap_setCell _ ⟨b7, 0, none⟩ _ _ (by show g1 ≠ b7; omega)))) (by omega)
      clear hbZ hnum hso
      refine take_call (i := 7) rfl (by kernel_rfl) (fun K2 hK => ?_)
      go_simp
      refine hK.out _ _ ⟨HFC.out.fb, HFC.out.o⟩ (fun hHeld2 => ?_)
      clear hK hHeld hHeld2 o0 o1 z0 z1
      refine wpAnyH_done (by kernel_rfl) ?_ _
      go_wp2_with fail
      go_meet
      case rel => exact ⟨b7, g1, c, rfl, HFC⟩
    · obtain ⟨Zc, hZc⟩ : ∃ Zc, Zc = Z.alloc (.cells #[.int .i64 0, .slice none 0 0] 28) := ⟨_, rfl⟩
      have hbz : Below Z.heap.size Z Zc := by rw [hZc]; exact bel_alloc _ _
      have R7c : Hid (Zc.rowIs Z.heap.size 28 2 (r2 (.int .i64 0) (.slice none 0 0))) := by show World.rowIs _ _ _ _ _; rw [hZc]; exact row2 _ _ _ _
      obtain ⟨b7, hb7⟩ : ∃ b7, b7 = Z.heap.size := ⟨_, rfl⟩
      rw [← hb7] at R7c
      have HBZc := Lib.hid hbz
      have HZS : Hid (Zc.heap.size = Z.heap.size + 1) := by show _ = _; rw [hZc]; simp
      go_simp
      rw [← hZc, ← hb7]
      have HB7 := Lib.hid hb7
      refine hK.out _ _ ⟨hHeld.1.below hbz, wrow_below hHeld.2 hbz⟩ (fun hHeld2 => ?_)
      clear hK hHeld
      have hHeld := hHeld2
      clear hHeld2
      clear hbz hZc hb7
      refine take_call (i := 4) rfl (by kernel_rfl) (fun K2 hK => ?_)
      go_simp
      refine (cloneI_any bb n k f _ (fun i hi => HCB.out Zc (HZ0.out.1.bel.trans (HBZc.out.mono HZ0.out.1.bel.size)) i hi) HN1.out HN6.out).mono ?_
      rintro e Za ⟨⟨g1, c, rfl, hg1, hi1⟩, hb⟩
      have HI1 := Lib.hid hi1
      have R7a := Lib.hid (wrow_below R7c.out hb)
      have HBZ : Hid (Below Z.heap.size Z Za) := HBZc.out.trans (hb.mono HBZc.out.size)
      have HNUM : Hid (Z.heap.size ≤ b7 ∧ Z.heap.size ≤ g1 ∧ b7 ≠ g1) := by
        have h1 := HZS.out
        have h2 := HB7.out
        show _ ∧ _ ∧ _
        omega
      go_wp2_with fail
      refine hK.out _ _ ⟨hHeld.1.below hb, wrow_below hHeld.2 hb⟩ (fun hHeld2 => ?_)
      clear hK hHeld
      have hHeld := hHeld2
      clear hHeld2
      clear hb hi1 hg1
      refine take_do (i := 5) (v := (.agg #[.int .i64 wt, .slice (some ⟨g1, 0, none⟩) n c])) rfl (by kernel_rfl) (by kernel_rfl) (by kernel_rfl) (fun _ _ _ h => h) (by rfl) ?_ (by assumption) ?_
      · intro w hSw
        clear hSw
        go_simp
      simp only [Act.put, List.setIfInBounds_toArray, List.set_cons_zero, List.set_cons_succ]
      obtain ⟨⟨o0, o1⟩, z0, z1⟩ := row2_cells R7a.out
      have hlt7 : b7 < Za.heap.size := R7a.out.lt
      have hnum := HNUM.out
      have hso : w.heap.size + 1 + 1 < Z.heap.size := HZ0.out.2.lt
      have hbZ : Below Z.heap.size Z ((Za.setCell ⟨b7, 0, none⟩ (.int .i64 wt)).setCell ⟨b7, 1, none⟩ (.slice (some ⟨g1, 0, none⟩) n c)) := (HBZ.out.setCell (p := ⟨b7, 0, none⟩) (by show Z.heap.size ≤ b7; omega) _).setCell (p := ⟨b7, 1, none⟩) (by show Z.heap.size ≤ b7; omega) _
      have HFC : Hid (FcI w fl (fl.held + cc) wt (some ⟨bb, 0, none⟩) n k wt b7 g1 c f ((Za.setCell ⟨b7, 0, none⟩ (.int .i64 wt)).setCell ⟨b7, 1, none⟩ (.slice (some ⟨g1, 0, none⟩) n c))) :=
        fcI_of HZ0.out.1 HZ0.out.2 hbZ (row2_put R7a.out _ _) (HI1.out.block ((Below.heap_setCell _ ⟨b7, 1, none⟩ _ _ (by show g1 ≠ b7; omega)).trans (Below.heap_setCell _ ⟨b7, 0, none⟩ _ _ (by show g1 ≠ b7; omega)))) (by omega)
      clear hbZ hnum hso
      refine take_call (i := 7) rfl (by kernel_rfl) (fun K2 hK => ?_)
      go_simp
      refine hK.out _ _ ⟨HFC.out.fb, HFC.out.o⟩ (fun hHeld2 => ?_)
      clear hK hHeld hHeld2 o0 o1 z0 z1
      refine wpAnyH_done (by kernel_rfl) ?_ _
      go_wp2_with fail
      go_meet
      case rel => exact ⟨b7, g1, c, rfl, HFC⟩
  case rest =>
    obtain ⟨b7, g1, c, rfl, hC⟩ := hcut
    obtain ⟨⟨y0, y1⟩, _⟩ := row2_cells hC.out.fb.bb
    obtain ⟨⟨v0, v1⟩, vz, _⟩ := row2_cells hC.out.r7
    have hc1 := hC.out.i1.cell (i := 0) (by omega)
    have hcz := hC.out.i1.frozen 0
    have hmk := run_make_row' (P := Tryd.prog) 24 2 (.int .i64 0) 8 Tryd.underlying24 info_i64 rfl .i64 .i64 n (by have := HN6.out; omega) (by have := HN6.out; omega)
    obtain ⟨W5, hW5⟩ : ∃ W5, W5 = ((wc.setCell ⟨g1, 0, none⟩ (.int .i64 (f 0 - cc))).alloc (mkO n)).alloc (.cells #[.int .i64 0, .slice (some ⟨wc.heap.size, 0, none⟩) n n] 28) := ⟨_, rfl⟩
    have hD5 : FdI w fl (fl.held + cc) wt (some ⟨bb, 0, none⟩) n k wt b7 g1 c (Wk.upd0 f (f 0 - cc)) 0 (wc.heap.size + 1) wc.heap.size (fun _ => 0) W5 := by
      have h0 := (hC.out.put (f 0 - cc)).waste
      have h1 : (wc.setCell ⟨g1, 0, none⟩ (.int .i64 (f 0 - cc))).heap.size = wc.heap.size := by simp
      rw [h1] at h0
      rw [hW5]
      exact h0
    have hO5 : W5.rowIs (w.heap.size + 1 + 1) 54 10 (rowL foZ) := by rw [hW5]; exact wrow_below (wrow_below (hC.out.put (f 0 - cc)).o (bel_alloc _ _)) (bel_alloc _ _)
    have hne : g1 ≠ b7 := fun e => hC.out.num.2.2 e.symm
    have hne2 : g1 ≠ w.heap.size + 1 := by have := hC.out.num; omega
    have hne3 : g1 ≠ w.heap.size := by have := hC.out.num; omega
    have l1 : w.heap.size + 1 < wc.heap.size := hC.out.fb.bb.lt
    have l0 : w.heap.size < wc.heap.size := hC.out.fb.bf.lt
    have l7 : b7 < wc.heap.size := hC.out.r7.lt
    obtain ⟨q0, q1, q2, q3⟩ := row4_cells hC.out.fb.bf
    obtain ⟨g2, hg2⟩ : ∃ g2, g2 = wc.heap.size := ⟨_, rfl⟩
    obtain ⟨b8, hb8⟩ : ∃ b8, b8 = wc.heap.size + 1 := ⟨_, rfl⟩
    rw [← hb8, ← hg2] at hD5
    have HW5 := Lib.hid hW5
    have HB8 := Lib.hid hb8
    have HD := Lib.hid hD5
    have HO := Lib.hid hO5
    have HOV : Hid (¬ 1000000000 < fl.held + cc) := by show ¬ _; omega
    have HC0 : Hid (0 ≤ cc) := hcb2.1
    clear hW5 hD5 hO5 hg2 hb8 hC
    by_cases hA : fl.most < fl.held + cc
    · by_cases hB : fl.wash ≤ wt
      · have HAA : Hid (Wk.step fl ⟨wt, n, f⟩ = ⟨⟨0, fl.most, fl.catch_, fl.wash⟩, ⟨wt - fl.wash, n, Wk.upd0 f (f 0 - cc)⟩, ⟨fl.wash, n, Wk.upd0 (fun _ => 0) (fl.held + cc)⟩, 10, 0⟩) := by
          show _ = _
          unfold Wk.step
          rw [if_pos HOK.out, HCC.out, if_neg HOV.out]
          unfold Wk.filt
          rw [if_pos ⟨by rw [HCC.out]; exact hA, hB⟩, HCC.out]
        have HHD : Hid ((0 : Int) ≤ 0 ∧ (0 : Int) ≤ 1000000000) := by show _ ∧ _; omega
        have HHE : Hid (Wk.headOf ⟨0, fl.most, fl.catch_, fl.wash⟩ = 10) := by show _ = _; simp [Wk.headOf]
        go_wp2_with fail
        rw [← HW5.out, ← HB8.out]
        clear HW5 HB8 hmk v0 v1 vz y0 y1 q0 q1 q2 q3 l1 l0 l7 hc1 hcz
        obtain ⟨⟨y0, y1⟩, _⟩ := row2_cells HD.out.fb.bb
        obtain ⟨⟨v0, v1⟩, vz, _⟩ := row2_cells HD.out.r7
        obtain ⟨⟨u0, u1⟩, uz, _⟩ := row2_cells HD.out.r8
        obtain ⟨q0, q1, q2, q3⟩ := row4_cells HD.out.fb.bf
        have qz := HD.out.fb.bf.frozen 0
        have hc2 := HD.out.i2.cell (i := 0) (by omega)
        have hcz := HD.out.i2.frozen 0
        have hnum := HD.out.num
        have d1 : b8 ≠ g2 := by omega
        have d2 : b8 ≠ b7 := by omega
        have d3 : b8 ≠ w.heap.size := by omega
        have d4 : g2 ≠ b7 := by omega
        have d5 : g2 ≠ w.heap.size := by omega
        have d6 : b7 ≠ w.heap.size := by omega
        have hwt := HWT.out
        have hwa := HWA.out
        clear hnum hne hne2 hne3
        go_region
        go_wp2_with fail
        obtain ⟨V, hV⟩ : ∃ V, V = ((((W5.setCell ⟨b8, 0, none⟩ (.int .i64 fl.wash)).setCell ⟨g2, 0, none⟩ (.int .i64 (fl.held + cc))).setCell ⟨b7, 0, none⟩ (.int .i64 (wt - fl.wash))).setCell ⟨w.heap.size, 0, none⟩ (.int .i64 0)).drew := ⟨_, rfl⟩
        have hnum := HD.out.num
        replace HO : Hid (V.rowIs (w.heap.size + 1 + 1) 54 10 (rowL foZ)) := by
          show World.rowIs _ _ _ _ _
          rw [hV]
          exact World.rowIs.of_block (wrow_set (wrow_set (wrow_set (wrow_set HO.out (p := ⟨b8, 0, none⟩) (by show w.heap.size + 1 + 1 ≠ b8; omega) _) (p := ⟨g2, 0, none⟩) (by show w.heap.size + 1 + 1 ≠ g2; omega) _) (p := ⟨b7, 0, none⟩) (by show w.heap.size + 1 + 1 ≠ b7; omega) _) (p := ⟨w.heap.size, 0, none⟩) (by show w.heap.size + 1 + 1 ≠ w.heap.size; omega) _) rfl
        replace HD : Hid (FdI w fl 0 wt (some ⟨bb, 0, none⟩) n k (wt - fl.wash) b7 g1 c (Wk.upd0 f (f 0 - cc)) fl.wash b8 g2 (Wk.upd0 (fun _ => 0) (fl.held + cc)) V) := by
          show FdI _ _ _ _ _ _ _ _ _ _ _ _ _ _ _ _ _
          rw [hV]
          exact (HD.out.wash fl.wash (fl.held + cc) (wt - fl.wash) 0).below (Below.refl _ _).drew
        rw [← hV]
        clear hV hnum y0 y1 v0 v1 vz u0 u1 uz q0 q1 q2 q3 qz hc2 hcz d1 d2 d3 d4 d5 d6
        refine wp_region_held_drew (S := FdI w fl (0) wt (some ⟨bb, 0, none⟩) n k (wt - fl.wash) b7 g1 c (Wk.upd0 f (f 0 - cc)) (fl.wash) b8 g2 (Wk.upd0 (fun _ => 0) (fl.held + cc))) (by kernel_rfl) (HD.out.below (Below.refl _ _).drew) (fun hHeld => ?_)
        have HOz : Hid (V.drew.rowIs (w.heap.size + 1 + 1) 54 10 (rowL foZ)) := HO.out.of_block rfl
        obtain ⟨Z, hZ⟩ : ∃ Z, Z = V.drew := ⟨_, rfl⟩
        rw [← hZ] at hHeld HOz ⊢
        clear hZ HD HO
        refine take_do (i := 0) (v := (flV ⟨0, fl.most, fl.catch_, fl.wash⟩)) rfl (by kernel_rfl) (by kernel_rfl) (by kernel_rfl) (fun _ _ _ h => h) (by rfl) ?_ (by assumption) ?_
        · intro w hSw
          obtain ⟨q0, q1, q2, q3⟩ := row4_cells hSw.fb.bf
          go_simp
        simp only [Act.put, List.setIfInBounds_toArray, List.set_cons_zero, List.set_cons_succ]
        refine take_do (i := 1) (v := (btV (wt - fl.wash) (some ⟨g1, 0, none⟩) n c)) rfl (by kernel_rfl) (by kernel_rfl) (by kernel_rfl) (fun _ _ _ h => h) (by rfl) ?_ (by assumption) ?_
        · intro w hSw
          obtain ⟨⟨q0, q1⟩, _⟩ := row2_cells hSw.r7
          go_simp
        simp only [Act.put, List.setIfInBounds_toArray, List.set_cons_zero, List.set_cons_succ]
        refine take_do (i := 2) (v := (btV (fl.wash) (some ⟨g2, 0, none⟩) n n)) rfl (by kernel_rfl) (by kernel_rfl) (by kernel_rfl) (fun _ _ _ h => h) (by rfl) ?_ (by assumption) ?_
        · intro w hSw
          obtain ⟨⟨q0, q1⟩, _⟩ := row2_cells hSw.r8
          go_simp
        simp only [Act.put, List.setIfInBounds_toArray, List.set_cons_zero, List.set_cons_succ]
        refine take_do (i := 3) (v := (flV ⟨0, fl.most, fl.catch_, fl.wash⟩)) rfl (by kernel_rfl) (by kernel_rfl) (by kernel_rfl) (fun _ _ _ h => h) (by rfl) ?_ (by assumption) ?_
        · intro w hSw
          obtain ⟨q0, q1, q2, q3⟩ := row4_cells hSw.fb.bf
          go_simp
        simp only [Act.put, List.setIfInBounds_toArray, List.set_cons_zero, List.set_cons_succ]
        refine take_call (i := 4) rfl (by kernel_rfl) (fun K2 hK => ?_)
        go_simp
        refine (headOf_any ⟨0, fl.most, fl.catch_, fl.wash⟩ _ HHD.out HMO.out).mono ?_
        rintro e Zb ⟨rfl, hb⟩
        rw [HHE.out]
        have HOb := Lib.hid (wrow_below HOz.out hb)
        go_wp2_with fail
        refine hK.out _ _ (hHeld.below hb) (fun hHeld2 => ?_)
        clear hK hHeld HOz
        have hHeld := hHeld2
        clear hHeld2 hb
        refine take_do (i := 5) (v := (.agg #[.int .i64 (0), .int .i64 (fl.most), .int .i64 (fl.catch_), .int .i64 (fl.wash), .int .i64 (wt - fl.wash), .slice (some ⟨g1, 0, none⟩) n c, .int .i64 (fl.wash), .slice (some ⟨g2, 0, none⟩) n n, .int .i64 (10), .int .i64 (0)])) rfl (by kernel_rfl) (by kernel_rfl) (by kernel_rfl) (fun _ _ _ h => h) (by rfl) ?_ (by assumption) ?_
        · intro w hSw
          clear hSw
          go_simp
        simp only [Act.put, List.setIfInBounds_toArray, List.set_cons_zero, List.set_cons_succ]
        have o0 := HOb.out.cell (i := 0) (by omega)
        have z0 := HOb.out.frozen 0
        have o1 := HOb.out.cell (i := 1) (by omega)
        have z1 := HOb.out.frozen 1
        have o2 := HOb.out.cell (i := 2) (by omega)
        have z2 := HOb.out.frozen 2
        have o3 := HOb.out.cell (i := 3) (by omega)
        have z3 := HOb.out.frozen 3
        have o4 := HOb.out.cell (i := 4) (by omega)
        have z4 := HOb.out.frozen 4
        have o5 := HOb.out.cell (i := 5) (by omega)
        have z5 := HOb.out.frozen 5
        have o6 := HOb.out.cell (i := 6) (by omega)
        have z6 := HOb.out.frozen 6
        have o7 := HOb.out.cell (i := 7) (by omega)
        have z7 := HOb.out.frozen 7
        have o8 := HOb.out.cell (i := 8) (by omega)
        have z8 := HOb.out.frozen 8
        have o9 := HOb.out.cell (i := 9) (by omega)
        have z9 := HOb.out.frozen 9
        obtain ⟨WZ, hWZ⟩ : ∃ WZ, WZ = setAll (w.heap.size + 1 + 1) 0 [.int .i64 (0), .int .i64 (fl.most), .int .i64 (fl.catch_), .int .i64 (fl.wash), .int .i64 (wt - fl.wash), .slice (some ⟨g1, 0, none⟩) n c, .int .i64 (fl.wash), .slice (some ⟨g2, 0, none⟩) n n, .int .i64 (10), .int .i64 (0)] Zb := ⟨_, rfl⟩
        have hS : WZ.rowIs (w.heap.size + 1 + 1) 54 10 (rowL [.int .i64 (0), .int .i64 (fl.most), .int .i64 (fl.catch_), .int .i64 (fl.wash), .int .i64 (wt - fl.wash), .slice (some ⟨g1, 0, none⟩) n c, .int .i64 (fl.wash), .slice (some ⟨g2, 0, none⟩) n n, .int .i64 (10), .int .i64 (0)]) := by rw [hWZ]; exact setAll_row _ HOb.out rfl
        have hnum := hHeld.num
        have hfar : ∀ q, q ≠ w.heap.size + 1 + 1 → WZ.heap[q]? = Zb.heap[q]? := fun q hq => by rw [hWZ]; exact setAll_far hq _ _ _
        have HDZ : Hid (FdI w fl (0) wt (some ⟨bb, 0, none⟩) n k (wt - fl.wash) b7 g1 c (Wk.upd0 f (f 0 - cc)) (fl.wash) b8 g2 (Wk.upd0 (fun _ => 0) (fl.held + cc)) WZ) := ⟨⟨hHeld.fb.bf.of_block (hfar _ (by omega)), hHeld.fb.bb.of_block (hfar _ (by omega)), by rw [hWZ]; exact setAll_below (by omega) _ _ _ hHeld.fb.bel⟩, hHeld.r7.of_block (hfar _ (by omega)), hHeld.i1.block (hfar _ (by omega)), hHeld.r8.of_block (hfar _ (by omega)), hHeld.i2.block (hfar _ (by omega)), hHeld.num⟩
        have hW2 : WZ = ((((((((((Zb.setCell ⟨w.heap.size + 1 + 1, 0, none⟩ (.int .i64 (0))).setCell ⟨w.heap.size + 1 + 1, 1, none⟩ (.int .i64 (fl.most))).setCell ⟨w.heap.size + 1 + 1, 2, none⟩ (.int .i64 (fl.catch_))).setCell ⟨w.heap.size + 1 + 1, 3, none⟩ (.int .i64 (fl.wash))).setCell ⟨w.heap.size + 1 + 1, 4, none⟩ (.int .i64 (wt - fl.wash))).setCell ⟨w.heap.size + 1 + 1, 5, none⟩ (.slice (some ⟨g1, 0, none⟩) n c)).setCell ⟨w.heap.size + 1 + 1, 6, none⟩ (.int .i64 (fl.wash))).setCell ⟨w.heap.size + 1 + 1, 7, none⟩ (.slice (some ⟨g2, 0, none⟩) n n)).setCell ⟨w.heap.size + 1 + 1, 8, none⟩ (.int .i64 (10))).setCell ⟨w.heap.size + 1 + 1, 9, none⟩ (.int .i64 (0))) := hWZ
        have HW2 := Lib.hid hW2
        have HSS := Lib.hid hS
        clear hW2 hWZ hfar hnum hS
        refine take_call (i := 6) rfl (by kernel_rfl) (fun K2 hK => ?_)
        go_simp
        rw [← HW2.out]
        refine hK.out _ _ HDZ.out (fun hHeld2 => ?_)
        clear hK hHeld hHeld2 HOb HW2 o0 z0 o1 z1 o2 z2 o3 z3 o4 z4 o5 z5 o6 z6 o7 z7 o8 z8 o9 z9
        refine take_call (i := 7) rfl (by kernel_rfl) (fun K2 hK => ?_)
        go_simp
        refine hK.out _ _ HDZ.out (fun hHeld2 => ?_)
        clear hK hHeld2
        refine wpAnyH_done (by kernel_rfl) ?_ _
        go_wp2_with fail
        have hnum := HDZ.out.num
        refine bodyPost_ret (v := .tuple #[.agg #[.int .i64 (0), .int .i64 (fl.most), .int .i64 (fl.catch_), .int .i64 (fl.wash), .int .i64 (wt - fl.wash), .slice (some ⟨g1, 0, none⟩) n c, .int .i64 (fl.wash), .slice (some ⟨g2, 0, none⟩) n n, .int .i64 (10), .int .i64 (0)], .nilIface]) ?_ rfl ⟨Or.inl ⟨by rw [HAA.out], some ⟨g1, 0, none⟩, c, some ⟨g2, 0, none⟩, n, by rw [HAA.out], ?_⟩, HDZ.out.fb.bel⟩
        · obtain ⟨⟨x0, x1, x2, x3, x4⟩, x5, x6, x7, x8, x9⟩ := row10_cells HSS.out
          simp only [results, Tryd.results59]
          simp [go_sem, x0, x1, x2, x3, x4, x5, x6, x7, x8, x9]
        · rw [HAA.out]
          exact TwM.two HDZ.out.i1 HDZ.out.i2 ⟨by omega, by omega, by omega⟩ _ _
      · have HAA : Hid (Wk.step fl ⟨wt, n, f⟩ = ⟨⟨fl.held + cc, fl.most, fl.catch_, fl.wash⟩, ⟨wt, n, Wk.upd0 f (f 0 - cc)⟩, ⟨0, n, fun _ => 0⟩, Wk.headOf ⟨fl.held + cc, fl.most, fl.catch_, fl.wash⟩, 0⟩) := by
          show _ = _
          unfold Wk.step
          rw [if_pos HOK.out, HCC.out, if_neg HOV.out]
          unfold Wk.filt
          rw [if_neg (fun h => hB h.2), HCC.out]
        go_wp2_with fail
        rw [← HW5.out, ← HB8.out]
        obtain ⟨HH, hHH⟩ : ∃ HH, HH = Wk.headOf ⟨fl.held + cc, fl.most, fl.catch_, fl.wash⟩ := ⟨_, rfl⟩
        rw [← hHH] at HAA
        have HHE : Hid (Wk.headOf ⟨fl.held + cc, fl.most, fl.catch_, fl.wash⟩ = HH) := hHH.symm
        have HHD : Hid (0 ≤ fl.held + cc ∧ fl.held + cc ≤ 1000000000) := by
          have h1 := HOV.out
          have h2 := HC0.out
          have h3 := hokF.out.1
          show _ ∧ _
          omega
        clear HW5 HB8 hmk v0 v1 vz y0 y1 q0 q1 q2 q3 l1 l0 l7 hc1 hcz hHH
        obtain ⟨V, hV⟩ : ∃ V, V = W5 := ⟨_, rfl⟩
        rw [← hV] at HD HO ⊢
        clear hV
        refine wp_region_held_drew (S := FdI w fl (fl.held + cc) wt (some ⟨bb, 0, none⟩) n k (wt) b7 g1 c (Wk.upd0 f (f 0 - cc)) (0) b8 g2 (fun _ => 0)) (by kernel_rfl) (HD.out.below (Below.refl _ _).drew) (fun hHeld => ?_)
        have HOz : Hid (V.drew.rowIs (w.heap.size + 1 + 1) 54 10 (rowL foZ)) := HO.out.of_block rfl
        obtain ⟨Z, hZ⟩ : ∃ Z, Z = V.drew := ⟨_, rfl⟩
        rw [← hZ] at hHeld HOz ⊢
        clear hZ HD HO
        refine take_do (i := 0) (v := (flV ⟨fl.held + cc, fl.most, fl.catch_, fl.wash⟩)) rfl (by kernel_rfl) (by kernel_rfl) (by kernel_rfl) (fun _ _ _ h => h) (by rfl) ?_ (by assumption) ?_
        · intro w hSw
          obtain ⟨q0, q1, q2, q3⟩ := row4_cells hSw.fb.bf
          go_simp
        simp only [Act.put, List.setIfInBounds_toArray, List.set_cons_zero, List.set_cons_succ]
        refine take_do (i := 1) (v := (btV (wt) (some ⟨g1, 0, none⟩) n c)) rfl (by kernel_rfl) (by kernel_rfl) (by kernel_rfl) (fun _ _ _ h => h) (by rfl) ?_ (by assumption) ?_
        · intro w hSw
          obtain ⟨⟨q0, q1⟩, _⟩ := row2_cells hSw.r7
          go_simp
        simp only [Act.put, List.setIfInBounds_toArray, List.set_cons_zero, List.set_cons_succ]
        refine take_do (i := 2) (v := (btV (0) (some ⟨g2, 0, none⟩) n n)) rfl (by kernel_rfl) (by kernel_rfl) (by kernel_rfl) (fun _ _ _ h => h) (by rfl) ?_ (by assumption) ?_
        · intro w hSw
          obtain ⟨⟨q0, q1⟩, _⟩ := row2_cells hSw.r8
          go_simp
        simp only [Act.put, List.setIfInBounds_toArray, List.set_cons_zero, List.set_cons_succ]
        refine take_do (i := 3) (v := (flV ⟨fl.held + cc, fl.most, fl.catch_, fl.wash⟩)) rfl (by kernel_rfl) (by kernel_rfl) (by kernel_rfl) (fun _ _ _ h => h) (by rfl) ?_ (by assumption) ?_
        · intro w hSw
          obtain ⟨q0, q1, q2, q3⟩ := row4_cells hSw.fb.bf
          go_simp
        simp only [Act.put, List.setIfInBounds_toArray, List.set_cons_zero, List.set_cons_succ]
        refine take_call (i := 4) rfl (by kernel_rfl) (fun K2 hK => ?_)
        go_simp
        refine (headOf_any ⟨fl.held + cc, fl.most, fl.catch_, fl.wash⟩ _ HHD.out HMO.out).mono ?_
        rintro e Zb ⟨rfl, hb⟩
        rw [HHE.out]
        have HOb := Lib.hid (wrow_below HOz.out hb)
        go_wp2_with fail
        refine hK.out _ _ (hHeld.below hb) (fun hHeld2 => ?_)
        clear hK hHeld HOz
        have hHeld := hHeld2
        clear hHeld2 hb
        refine take_do (i := 5) (v := (.agg #[.int .i64 (fl.held + cc), .int .i64 (fl.most), .int .i64 (fl.catch_), .int .i64 (fl.wash), .int .i64 (wt), .slice (some ⟨g1, 0, none⟩) n c, .int .i64 (0), .slice (some ⟨g2, 0, none⟩) n n, .int .i64 (HH), .int .i64 (0)])) rfl (by kernel_rfl) (by kernel_rfl) (by kernel_rfl) (fun _ _ _ h => h) (by rfl) ?_ (by assumption) ?_
        · intro w hSw
          clear hSw
          go_simp
        simp only [Act.put, List.setIfInBounds_toArray, List.set_cons_zero, List.set_cons_succ]
        have o0 := HOb.out.cell (i := 0) (by omega)
        have z0 := HOb.out.frozen 0
        have o1 := HOb.out.cell (i := 1) (by omega)
        have z1 := HOb.out.frozen 1
        have o2 := HOb.out.cell (i := 2) (by omega)
        have z2 := HOb.out.frozen 2
        have o3 := HOb.out.cell (i := 3) (by omega)
        have z3 := HOb.out.frozen 3
        have o4 := HOb.out.cell (i := 4) (by omega)
        have z4 := HOb.out.frozen 4
        have o5 := HOb.out.cell (i := 5) (by omega)
        have z5 := HOb.out.frozen 5
        have o6 := HOb.out.cell (i := 6) (by omega)
        have z6 := HOb.out.frozen 6
        have o7 := HOb.out.cell (i := 7) (by omega)
        have z7 := HOb.out.frozen 7
        have o8 := HOb.out.cell (i := 8) (by omega)
        have z8 := HOb.out.frozen 8
        have o9 := HOb.out.cell (i := 9) (by omega)
        have z9 := HOb.out.frozen 9
        obtain ⟨WZ, hWZ⟩ : ∃ WZ, WZ = setAll (w.heap.size + 1 + 1) 0 [.int .i64 (fl.held + cc), .int .i64 (fl.most), .int .i64 (fl.catch_), .int .i64 (fl.wash), .int .i64 (wt), .slice (some ⟨g1, 0, none⟩) n c, .int .i64 (0), .slice (some ⟨g2, 0, none⟩) n n, .int .i64 (HH), .int .i64 (0)] Zb := ⟨_, rfl⟩
        have hS : WZ.rowIs (w.heap.size + 1 + 1) 54 10 (rowL [.int .i64 (fl.held + cc), .int .i64 (fl.most), .int .i64 (fl.catch_), .int .i64 (fl.wash), .int .i64 (wt), .slice (some ⟨g1, 0, none⟩) n c, .int .i64 (0), .slice (some ⟨g2, 0, none⟩) n n, .int .i64 (HH), .int .i64 (0)]) := by rw [hWZ]; exact setAll_row _ HOb.out rfl
        have hnum := hHeld.num
        have hfar : ∀ q, q ≠ w.heap.size + 1 + 1 → WZ.heap[q]? = Zb.heap[q]? := fun q hq => by rw [hWZ]; exact setAll_far hq _ _ _
        have HDZ : Hid (FdI w fl (fl.held + cc) wt (some ⟨bb, 0, none⟩) n k (wt) b7 g1 c (Wk.upd0 f (f 0 - cc)) (0) b8 g2 (fun _ => 0) WZ) := ⟨⟨hHeld.fb.bf.of_block (hfar _ (by omega)), hHeld.fb.bb.of_block (hfar _ (by omega)), by rw [hWZ]; exact setAll_below (by omega) _ _ _ hHeld.fb.bel⟩, hHeld.r7.of_block (hfar _ (by omega)), hHeld.i1.block (hfar _ (by omega)), hHeld.r8.of_block (hfar _ (by omega)), hHeld.i2.block (hfar _ (by omega)), hHeld.num⟩
        have hW2 : WZ = ((((((((((Zb.setCell ⟨w.heap.size + 1 + 1, 0, none⟩ (.int .i64 (fl.held + cc))).setCell ⟨w.heap.size + 1 + 1, 1, none⟩ (.int .i64 (fl.most))).setCell ⟨w.heap.size + 1 + 1, 2, none⟩ (.int .i64 (fl.catch_))).setCell ⟨w.heap.size + 1 + 1, 3, none⟩ (.int .i64 (fl.wash))).setCell ⟨w.heap.size + 1 + 1, 4, none⟩ (.int .i64 (wt))).setCell ⟨w.heap.size + 1 + 1, 5, none⟩ (.slice (some ⟨g1, 0, none⟩) n c)).setCell ⟨w.heap.size + 1 + 1, 6, none⟩ (.int .i64 (0))).setCell ⟨w.heap.size + 1 + 1, 7, none⟩ (.slice (some ⟨g2, 0, none⟩) n n)).setCell ⟨w.heap.size + 1 + 1, 8, none⟩ (.int .i64 (HH))).setCell ⟨w.heap.size + 1 + 1, 9, none⟩ (.int .i64 (0))) := hWZ
        have HW2 := Lib.hid hW2
        have HSS := Lib.hid hS
        clear hW2 hWZ hfar hnum hS
        refine take_call (i := 6) rfl (by kernel_rfl) (fun K2 hK => ?_)
        go_simp
        rw [← HW2.out]
        refine hK.out _ _ HDZ.out (fun hHeld2 => ?_)
        clear hK hHeld hHeld2 HOb HW2 o0 z0 o1 z1 o2 z2 o3 z3 o4 z4 o5 z5 o6 z6 o7 z7 o8 z8 o9 z9
        refine take_call (i := 7) rfl (by kernel_rfl) (fun K2 hK => ?_)
        go_simp
        refine hK.out _ _ HDZ.out (fun hHeld2 => ?_)
        clear hK hHeld2
        refine wpAnyH_done (by kernel_rfl) ?_ _
        go_wp2_with fail
        have hnum := HDZ.out.num
        refine bodyPost_ret (v := .tuple #[.agg #[.int .i64 (fl.held + cc), .int .i64 (fl.most), .int .i64 (fl.catch_), .int .i64 (fl.wash), .int .i64 (wt), .slice (some ⟨g1, 0, none⟩) n c, .int .i64 (0), .slice (some ⟨g2, 0, none⟩) n n, .int .i64 (HH), .int .i64 (0)], .nilIface]) ?_ rfl ⟨Or.inl ⟨by rw [HAA.out], some ⟨g1, 0, none⟩, c, some ⟨g2, 0, none⟩, n, by rw [HAA.out], ?_⟩, HDZ.out.fb.bel⟩
        · obtain ⟨⟨x0, x1, x2, x3, x4⟩, x5, x6, x7, x8, x9⟩ := row10_cells HSS.out
          simp only [results, Tryd.results59]
          simp [go_sem, x0, x1, x2, x3, x4, x5, x6, x7, x8, x9]
        · rw [HAA.out]
          exact TwM.two HDZ.out.i1 HDZ.out.i2 ⟨by omega, by omega, by omega⟩ _ _
    · have HAA : Hid (Wk.step fl ⟨wt, n, f⟩ = ⟨⟨fl.held + cc, fl.most, fl.catch_, fl.wash⟩, ⟨wt, n, Wk.upd0 f (f 0 - cc)⟩, ⟨0, n, fun _ => 0⟩, Wk.headOf ⟨fl.held + cc, fl.most, fl.catch_, fl.wash⟩, 0⟩) := by
        show _ = _
        unfold Wk.step
        rw [if_pos HOK.out, HCC.out, if_neg HOV.out]
        unfold Wk.filt
        rw [if_neg (fun h => hA (by have := h.1; rwa [HCC.out] at this)), HCC.out]
      go_wp2_with fail
      rw [← HW5.out, ← HB8.out]
      obtain ⟨HH, hHH⟩ : ∃ HH, HH = Wk.headOf ⟨fl.held + cc, fl.most, fl.catch_, fl.wash⟩ := ⟨_, rfl⟩
      rw [← hHH] at HAA
      have HHE : Hid (Wk.headOf ⟨fl.held + cc, fl.most, fl.catch_, fl.wash⟩ = HH) := hHH.symm
      have HHD : Hid (0 ≤ fl.held + cc ∧ fl.held + cc ≤ 1000000000) := by
        have h1 := HOV.out
        have h2 := HC0.out
        have h3 := hokF.out.1
        show _ ∧ _
        omega
      clear HW5 HB8 hmk v0 v1 vz y0 y1 q0 q1 q2 q3 l1 l0 l7 hc1 hcz hHH
      obtain ⟨V, hV⟩ : ∃ V, V = W5 := ⟨_, rfl⟩
      rw [← hV] at HD HO ⊢
      clear hV
      refine wp_region_held_drew (S := FdI w fl (fl.held + cc) wt (some ⟨bb, 0, none⟩) n k (wt) b7 g1 c (Wk.upd0 f (f 0 - cc)) (0) b8 g2 (fun _ => 0)) (by kernel_rfl) (HD.out.below (Below.refl _ _).drew) (fun hHeld => ?_)
      have HOz : Hid (V.drew.rowIs (w.heap.size + 1 + 1) 54 10 (rowL foZ)) := HO.out.of_block rfl
      obtain ⟨Z, hZ⟩ : ∃ Z, Z = V.drew := ⟨_, rfl⟩
      rw [← hZ] at hHeld HOz ⊢
      clear hZ HD HO
      refine take_do (i := 0) (v := (flV ⟨fl.held + cc, fl.most, fl.catch_, fl.wash⟩)) rfl (by kernel_rfl) (by kernel_rfl) (by kernel_rfl) (fun _ _ _ h => h) (by rfl) ?_ (by assumption) ?_
      · intro w hSw
        obtain ⟨q0, q1, q2, q3⟩ := row4_cells hSw.fb.bf
        go_simp
      simp only [Act.put, List.setIfInBounds_toArray, List.set_cons_zero, List.set_cons_succ]
      refine take_do (i := 1) (v := (btV (wt) (some ⟨g1, 0, none⟩) n c)) rfl (by kernel_rfl) (by kernel_rfl) (by kernel_rfl) (fun _ _ _ h => h) (by rfl) ?_ (by assumption) ?_
      · intro w hSw
        obtain ⟨⟨q0, q1⟩, _⟩ := row2_cells hSw.r7
        go_simp
      simp only [Act.put, List.setIfInBounds_toArray, List.set_cons_zero, List.set_cons_succ]
      refine take_do (i := 2) (v := (btV (0) (some ⟨g2, 0, none⟩) n n)) rfl (by kernel_rfl) (by kernel_rfl) (by kernel_rfl) (fun _ _ _ h => h) (by rfl) ?_ (by assumption) ?_
      · intro w hSw
        obtain ⟨⟨q0, q1⟩, _⟩ := row2_cells hSw.r8
        go_simp
      simp only [Act.put, List.setIfInBounds_toArray, List.set_cons_zero, List.set_cons_succ]
      refine take_do (i := 3) (v := (flV ⟨fl.held + cc, fl.most, fl.catch_, fl.wash⟩)) rfl (by kernel_rfl) (by kernel_rfl) (by kernel_rfl) (fun _ _ _ h => h) (by rfl) ?_ (by assumption) ?_
      · intro w hSw
        obtain ⟨q0, q1, q2, q3⟩ := row4_cells hSw.fb.bf
        go_simp
      simp only [Act.put, List.setIfInBounds_toArray, List.set_cons_zero, List.set_cons_succ]
      refine take_call (i := 4) rfl (by kernel_rfl) (fun K2 hK => ?_)
      go_simp
      refine (headOf_any ⟨fl.held + cc, fl.most, fl.catch_, fl.wash⟩ _ HHD.out HMO.out).mono ?_
      rintro e Zb ⟨rfl, hb⟩
      rw [HHE.out]
      have HOb := Lib.hid (wrow_below HOz.out hb)
      go_wp2_with fail
      refine hK.out _ _ (hHeld.below hb) (fun hHeld2 => ?_)
      clear hK hHeld HOz
      have hHeld := hHeld2
      clear hHeld2 hb
      refine take_do (i := 5) (v := (.agg #[.int .i64 (fl.held + cc), .int .i64 (fl.most), .int .i64 (fl.catch_), .int .i64 (fl.wash), .int .i64 (wt), .slice (some ⟨g1, 0, none⟩) n c, .int .i64 (0), .slice (some ⟨g2, 0, none⟩) n n, .int .i64 (HH), .int .i64 (0)])) rfl (by kernel_rfl) (by kernel_rfl) (by kernel_rfl) (fun _ _ _ h => h) (by rfl) ?_ (by assumption) ?_
      · intro w hSw
        clear hSw
        go_simp
      simp only [Act.put, List.setIfInBounds_toArray, List.set_cons_zero, List.set_cons_succ]
      have o0 := HOb.out.cell (i := 0) (by omega)
      have z0 := HOb.out.frozen 0
      have o1 := HOb.out.cell (i := 1) (by omega)
      have z1 := HOb.out.frozen 1
      have o2 := HOb.out.cell (i := 2) (by omega)
      have z2 := HOb.out.frozen 2
      have o3 := HOb.out.cell (i := 3) (by omega)
      have z3 := HOb.out.frozen 3
      have o4 := HOb.out.cell (i := 4) (by omega)
      have z4 := HOb.out.frozen 4
      have o5 := HOb.out.cell (i := 5) (by omega)
      have z5 := HOb.out.frozen 5
      have o6 := HOb.out.cell (i := 6) (by omega)
      have z6 := HOb.out.frozen 6
      have o7 := HOb.out.cell (i := 7) (by omega)
      have z7 := HOb.out.frozen 7
      have o8 := HOb.out.cell (i := 8) (by omega)
      have z8 := HOb.out.frozen 8
      have o9 := HOb.out.cell (i := 9) (by omega)
      have z9 := HOb.out.frozen 9
      obtain ⟨WZ, hWZ⟩ : ∃ WZ, WZ = setAll (w.heap.size + 1 + 1) 0 [.int .i64 (fl.held + cc), .int .i64 (fl.most), .int .i64 (fl.catch_), .int .i64 (fl.wash), .int .i64 (wt), .slice (some ⟨g1, 0, none⟩) n c, .int .i64 (0), .slice (some ⟨g2, 0, none⟩) n n, .int .i64 (HH), .int .i64 (0)] Zb := ⟨_, rfl⟩
      have hS : WZ.rowIs (w.heap.size + 1 + 1) 54 10 (rowL [.int .i64 (fl.held + cc), .int .i64 (fl.most), .int .i64 (fl.catch_), .int .i64 (fl.wash), .int .i64 (wt), .slice (some ⟨g1, 0, none⟩) n c, .int .i64 (0), .slice (some ⟨g2, 0, none⟩) n n, .int .i64 (HH), .int .i64 (0)]) := by rw [hWZ]; exact setAll_row _ HOb.out rfl
      have hnum := hHeld.num
      have hfar : ∀ q, q ≠ w.heap.size + 1 + 1 → WZ.heap[q]? = Zb.heap[q]? := fun q hq => by rw [hWZ]; exact setAll_far hq _ _ _
      have HDZ : Hid (FdI w fl (fl.held + cc) wt (some ⟨bb, 0, none⟩) n k (wt) b7 g1 c (Wk.upd0 f (f 0 - cc)) (0) b8 g2 (fun _ => 0) WZ) := ⟨⟨hHeld.fb.bf.of_block (hfar _ (by omega)), hHeld.fb.bb.of_block (hfar _ (by omega)), by rw [hWZ]; exact setAll_below (by omega) _ _ _ hHeld.fb.bel⟩, hHeld.r7.of_block (hfar _ (by omega)), hHeld.i1.block (hfar _ (by omega)), hHeld.r8.of_block (hfar _ (by omega)), hHeld.i2.block (hfar _ (by omega)), hHeld.num⟩
      have hW2 : WZ = ((((((((((Zb.setCell ⟨w.heap.size + 1 + 1, 0, none⟩ (.int .i64 (fl.held + cc))).setCell ⟨w.heap.size + 1 + 1, 1, none⟩ (.int .i64 (fl.most))).setCell ⟨w.heap.size + 1 + 1, 2, none⟩ (.int .i64 (fl.catch_))).setCell ⟨w.heap.size + 1 + 1, 3, none⟩ (.int .i64 (fl.wash))).setCell ⟨w.heap.size + 1 + 1, 4, none⟩ (.int .i64 (wt))).setCell ⟨w.heap.size + 1 + 1, 5, none⟩ (.slice (some ⟨g1, 0, none⟩) n c)).setCell ⟨w.heap.size + 1 + 1, 6, none⟩ (.int .i64 (0))).setCell ⟨w.heap.size + 1 + 1, 7, none⟩ (.slice (some ⟨g2, 0, none⟩) n n)).setCell ⟨w.heap.size + 1 + 1, 8, none⟩ (.int .i64 (HH))).setCell ⟨w.heap.size + 1 + 1, 9, none⟩ (.int .i64 (0))) := hWZ
      have HW2 := Lib.hid hW2
      have HSS := Lib.hid hS
      clear hW2 hWZ hfar hnum hS
      refine take_call (i := 6) rfl (by kernel_rfl) (fun K2 hK => ?_)
      go_simp
      rw [← HW2.out]
      refine hK.out _ _ HDZ.out (fun hHeld2 => ?_)
      clear hK hHeld hHeld2 HOb HW2 o0 z0 o1 z1 o2 z2 o3 z3 o4 z4 o5 z5 o6 z6 o7 z7 o8 z8 o9 z9
      refine take_call (i := 7) rfl (by kernel_rfl) (fun K2 hK => ?_)
      go_simp
      refine hK.out _ _ HDZ.out (fun hHeld2 => ?_)
      clear hK hHeld2
      refine wpAnyH_done (by kernel_rfl) ?_ _
      go_wp2_with fail
      have hnum := HDZ.out.num
      refine bodyPost_ret (v := .tuple #[.agg #[.int .i64 (fl.held + cc), .int .i64 (fl.most), .int .i64 (fl.catch_), .int .i64 (fl.wash), .int .i64 (wt), .slice (some ⟨g1, 0, none⟩) n c, .int .i64 (0), .slice (some ⟨g2, 0, none⟩) n n, .int .i64 (HH), .int .i64 (0)], .nilIface]) ?_ rfl ⟨Or.inl ⟨by rw [HAA.out], some ⟨g1, 0, none⟩, c, some ⟨g2, 0, none⟩, n, by rw [HAA.out], ?_⟩, HDZ.out.fb.bel⟩
      · obtain ⟨⟨x0, x1, x2, x3, x4⟩, x5, x6, x7, x8, x9⟩ := row10_cells HSS.out
        simp only [results, Tryd.results59]
        simp [go_sem, x0, x1, x2, x3, x4, x5, x6, x7, x8, x9]
      · rw [HAA.out]
        exact TwM.two HDZ.out.i1 HDZ.out.i2 ⟨by omega, by omega, by omega⟩ _ _
end Go.Proofs.YtcjeieagpcphjaaDoor
