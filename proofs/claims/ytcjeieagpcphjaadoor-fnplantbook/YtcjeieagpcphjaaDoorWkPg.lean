/-
  The plant's steps, and what it tells.
-/
import Derived.Test.YtcjeieagpcphjaaDoorWkPf
import Derived.Test.YtcjeieagpcphjaaDoorWkMz
import Derived.Deep.DeepCutAuto
namespace Go.Proofs.YtcjeieagpcphjaaDoor
open Go.RowKit Go.Deep

abbrev fnV (F : FuncId) (pb : Nat) : Value := .func (.func F) #[.pointer (some ⟨pb, 0, none⟩)] #[]
set_option maxRecDepth 100000 in
theorem steps_any (pb : Nat) (w : World) :
    Calls Tryd.prog 42 #[.pointer (some ⟨pb, 0, none⟩)] w fun e W => e = .returned (.slice (some ⟨w.heap.size, 0, none⟩) 3 3) ∧ W = w.alloc (.cells #[fnV 49 pb, fnV 50 pb, fnV 51 pb] 90) := by
  go_enter Tryd.func42, Tryd.ntmps42
  go_wp2_with fail
  go_ret
  exact ⟨rfl, rfl⟩
/-- How mixing ends, by the mixture. -/
theorem mxEnd_form {lo m : Nat} {bs : Nat → Wk.Bt} {e : Ending} {W : World} (h : MxEnd lo m bs e W) (hm : m ≤ 400) :
    ((Wk.mix m bs).c = 0 ∧ ∃ g, e = .returned (.tuple #[btV (Wk.mix m bs).x.wt (some ⟨g, 0, none⟩) (Wk.mix m bs).x.n (Wk.mix m bs).x.n, .nilIface]) ∧ lo ≤ g ∧ InBlk g (Wk.mix m bs).x.n (Wk.mix m bs).x.f W) ∨
    ((Wk.mix m bs).c ≠ 0 ∧ ∃ er, e = .returned (.tuple #[nilB, er]) ∧ ErrIs er (Wk.mix m bs).c) := by
  have hm' : ¬ 400 < m := by omega
  rcases h with ⟨h1, h2, g, e1, h3, h4⟩ | ⟨h1, h2, er, e1, h3⟩ | ⟨h1, er, e1, h3⟩
  · have e : Wk.mix m bs = ⟨Wk.mixed m bs, Wk.nil, 0⟩ := by unfold Wk.mix; rw [if_neg hm', if_pos h1, if_pos h2]
    rw [e]
    exact Or.inl ⟨rfl, g, e1, h3, h4⟩
  · have e : Wk.mix m bs = Wk.bad 5 := by unfold Wk.mix; rw [if_neg hm', if_pos h1, if_neg h2]
    rw [e]
    exact Or.inr ⟨by simp [Wk.bad], er, e1, h3⟩
  · have e : Wk.mix m bs = Wk.bad 1 := by unfold Wk.mix; rw [if_neg hm', if_neg h1]
    rw [e]
    exact Or.inr ⟨by simp [Wk.bad], er, e1, h3⟩
abbrev poL (x y : Be) (fl : Wk.Fl) (k c : Int) : List Value := [.int .i64 x.wt, .slice x.pa x.n x.k, .int .i64 y.wt, .slice y.pa y.n y.k, .int .i64 fl.held, .int .i64 fl.most, .int .i64 fl.catch_, .int .i64 fl.wash, .int .i64 k, .int .i64 c]
abbrev poV (x y : Be) (fl : Wk.Fl) (k c : Int) : Value := .agg #[.int .i64 x.wt, .slice x.pa x.n x.k, .int .i64 y.wt, .slice y.pa y.n y.k, .int .i64 fl.held, .int .i64 fl.most, .int .i64 fl.catch_, .int .i64 fl.wash, .int .i64 k, .int .i64 c]
abbrev beN : Be := ⟨0, none, 0, 0, fun _ => 0⟩
/-- What a plant tells, well or not. -/
def TdOut (cn : Nat) (C : Nat → Wk.Bt) (wn : Nat) (D : Nat → Wk.Bt) (fl : Wk.Fl) (k : Int) (lo : Nat) (e : Ending) (W : World) : Prop :=
  ((Wk.mix cn C).c = 0 ∧ (Wk.mix wn D).c = 0 ∧ ∃ (x y : Be) (g1 g2 : Nat), e = .returned (.tuple #[poV x y fl k 0, .nilIface]) ∧ x.b = (Wk.mix cn C).x ∧ y.b = (Wk.mix wn D).x ∧ (x.pa = some ⟨g1, 0, none⟩ ∧ y.pa = some ⟨g2, 0, none⟩) ∧ (lo ≤ g1 ∧ lo ≤ g2 ∧ g1 ≠ g2) ∧ InBlk g1 x.n x.f W ∧ InBlk g2 y.n y.f W) ∨
  ((Wk.mix cn C).c ≠ 0 ∧ ∃ er, e = .returned (.tuple #[poV beN beN Wk.flNil 0 0, er]) ∧ ErrIs er (Wk.mix cn C).c) ∨
  ((Wk.mix cn C).c = 0 ∧ (Wk.mix wn D).c ≠ 0 ∧ ∃ er, e = .returned (.tuple #[poV beN beN Wk.flNil 0 0, er]) ∧ ErrIs er (Wk.mix wn D).c)
theorem row10_all {W : World} {g : Nat} {t : TypeId} {l : List Value} (h : W.rowIs g t 10 (rowL l)) : ∀ i, i < 10 → W.cell? ⟨g, i, none⟩ = some (rowL l i) := fun _ hi => h.cell hi
def put10 (W : World) (g : Nat) (x0 x1 x2 x3 x4 x5 x6 x7 x8 x9 : Value) : World := (((((((((W.setCell ⟨g, 0, none⟩ x0).setCell ⟨g, 1, none⟩ x1).setCell ⟨g, 2, none⟩ x2).setCell ⟨g, 3, none⟩ x3).setCell ⟨g, 4, none⟩ x4).setCell ⟨g, 5, none⟩ x5).setCell ⟨g, 6, none⟩ x6).setCell ⟨g, 7, none⟩ x7).setCell ⟨g, 8, none⟩ x8).setCell ⟨g, 9, none⟩ x9
theorem put10_row {W : World} {g : Nat} {t : TypeId} {l : List Value} (h : W.rowIs g t 10 (rowL l)) (hl : l.length = 10) (x0 x1 x2 x3 x4 x5 x6 x7 x8 x9 : Value) : (put10 W g x0 x1 x2 x3 x4 x5 x6 x7 x8 x9).rowIs g t 10 (rowL [x0, x1, x2, x3, x4, x5, x6, x7, x8, x9]) := by
  match l, hl with
  | [a0, a1, a2, a3, a4, a5, a6, a7, a8, a9], _ => exact pl_row_set (pl_row_set (pl_row_set (pl_row_set (pl_row_set (pl_row_set (pl_row_set (pl_row_set (pl_row_set (pl_row_set h 0 x0 (by simp)) 1 x1 (by simp)) 2 x2 (by simp)) 3 x3 (by simp)) 4 x4 (by simp)) 5 x5 (by simp)) 6 x6 (by simp)) 7 x7 (by simp)) 8 x8 (by simp)) 9 x9 (by simp)
theorem put10_far (W : World) {g k : Nat} (hk : k ≠ g) (x0 x1 x2 x3 x4 x5 x6 x7 x8 x9 : Value) : (put10 W g x0 x1 x2 x3 x4 x5 x6 x7 x8 x9).heap[k]? = W.heap[k]? := by
  unfold put10
  repeat rw [Below.heap_setCell _ ⟨g, _, none⟩ _ _ hk]
theorem put10_below {a W : World} {B : Nat} (h : Below B a W) {g : Nat} (hg : B ≤ g) (x0 x1 x2 x3 x4 x5 x6 x7 x8 x9 : Value) : Below B a (put10 W g x0 x1 x2 x3 x4 x5 x6 x7 x8 x9) :=
  (((((((((h.setCell (p := ⟨g, 0, none⟩) hg _).setCell (p := ⟨g, 1, none⟩) hg _).setCell (p := ⟨g, 2, none⟩) hg _).setCell (p := ⟨g, 3, none⟩) hg _).setCell (p := ⟨g, 4, none⟩) hg _).setCell (p := ⟨g, 5, none⟩) hg _).setCell (p := ⟨g, 6, none⟩) hg _).setCell (p := ⟨g, 7, none⟩) hg _).setCell (p := ⟨g, 8, none⟩) hg _).setCell (p := ⟨g, 9, none⟩) hg _
theorem po_res {W : World} {g : Nat} {l : List Value} (h : W.rowIs g 31 10 (rowL l)) : (W.frozen? ⟨g, 0, none⟩ = false ∧ W.frozen? ⟨g, 1, none⟩ = false ∧ W.frozen? ⟨g, 2, none⟩ = false ∧ W.frozen? ⟨g, 3, none⟩ = false ∧ W.frozen? ⟨g, 4, none⟩ = false) ∧ (W.frozen? ⟨g, 5, none⟩ = false ∧ W.frozen? ⟨g, 6, none⟩ = false ∧ W.frozen? ⟨g, 7, none⟩ = false ∧ W.frozen? ⟨g, 8, none⟩ = false ∧ W.frozen? ⟨g, 9, none⟩ = false) := ⟨⟨h.frozen _, h.frozen _, h.frozen _, h.frozen _, h.frozen _⟩, h.frozen _, h.frozen _, h.frozen _, h.frozen _, h.frozen _⟩
theorem po_cells {W : World} {g : Nat} {t : TypeId} {x0 x1 x2 x3 x4 x5 x6 x7 x8 x9 : Value} (h : W.rowIs g t 10 (rowL [x0, x1, x2, x3, x4, x5, x6, x7, x8, x9])) : (W.cell? ⟨g, 0, none⟩ = some x0 ∧ W.cell? ⟨g, 1, none⟩ = some x1 ∧ W.cell? ⟨g, 2, none⟩ = some x2 ∧ W.cell? ⟨g, 3, none⟩ = some x3 ∧ W.cell? ⟨g, 4, none⟩ = some x4) ∧ (W.cell? ⟨g, 5, none⟩ = some x5 ∧ W.cell? ⟨g, 6, none⟩ = some x6 ∧ W.cell? ⟨g, 7, none⟩ = some x7 ∧ W.cell? ⟨g, 8, none⟩ = some x8 ∧ W.cell? ⟨g, 9, none⟩ = some x9) :=
  ⟨⟨h.cell (i := 0) (by omega), h.cell (i := 1) (by omega), h.cell (i := 2) (by omega), h.cell (i := 3) (by omega), h.cell (i := 4) (by omega)⟩, h.cell (i := 5) (by omega), h.cell (i := 6) (by omega), h.cell (i := 7) (by omega), h.cell (i := 8) (by omega), h.cell (i := 9) (by omega)⟩
set_option maxRecDepth 100000 in
set_option maxHeartbeats 16000000 in
theorem told_any (B pb : Nat) (mv : Value) (fl : Wk.Fl) (cv : Value) (cn : Nat) (C : Nat → Wk.Bt) (wv : Value) (wn : Nat) (D : Nat → Wk.Bt) (k : Int) (w : World) (h : PlS B pb mv fl cv cn C wv wn D k w) (hc : cn ≤ 400) (hw : wn ≤ 400) (hC : ∀ i, i < cn → (C i).n ≤ 4194304) (hD : ∀ i, i < wn → (D i).n ≤ 4194304) (ht : TabOk w) :
    Calls Tryd.prog 44 #[.pointer (some ⟨pb, 0, none⟩)] w fun e W => TdOut cn C wn D fl k w.heap.size e W ∧ Below w.heap.size w W := by
  obtain ⟨W, hW⟩ : ∃ W, W = w.alloc (.cells #[.int .i64 0, .slice none 0 0, .int .i64 0, .slice none 0 0, .int .i64 0, .int .i64 0, .int .i64 0, .int .i64 0, .int .i64 0, .int .i64 0] 31) := ⟨_, rfl⟩
  have hb : Below w.heap.size w W := by rw [hW]; exact bel_alloc _ _
  have HR : Hid (W.rowIs w.heap.size 31 10 (rowL (poL beN beN Wk.flNil 0 0))) := by show World.rowIs _ _ _ _ _; rw [hW]; exact rowL_alloc w (poL beN beN Wk.flNil 0 0) _
  have HW := Lib.hid hW
  have HB := Lib.hid hb
  have HP := Lib.hid (h.below hb)
  have HT := Lib.hid (tab_below ht hb)
  have HC := Lib.hid hC
  have HD := Lib.hid hD
  obtain ⟨ca, ck, rfl⟩ := h.cl.shape
  obtain ⟨wa, wk, rfl⟩ := h.wl.shape
  have c5 : w.cell? ⟨pb, 5, none⟩ = some (.slice ca cn ck) := h.row.cell (i := 5) (by omega)
  have hpb : pb < w.heap.size := h.row.lt
  clear hW hb h ht hC hD
  go_enter Tryd.func44, Tryd.ntmps44
  go_wp2_with fail
  rw [← HW.out]
  obtain ⟨bs, hbs, hbC⟩ := HP.out.cl.bts
  refine (mixB_any ca cn ck bs _ hbs hc (fun i hi => by have e := congrArg Wk.Bt.n (congrFun hbC i); have := HC.out i hi; have e2 : (bs i).n = (C i).n := e; omega) HT.out).mono ?_
  rintro e W1 ⟨hm, hb1⟩
  rw [hbC] at hm
  have hm2 := mxEnd_form hm hc
  replace HP := Lib.hid (HP.out.below hb1)
  replace HR := Lib.hid (wrow_below HR.out hb1)
  replace HT := Lib.hid (tab_below HT.out hb1)
  have HB1 : Hid (Below w.heap.size w W1) := HB.out.trans (hb1.mono HB.out.size)
  have hw0 : w.heap.size < W.heap.size := by have := HW.out; rw [this]; simp
  have HW0 := Lib.hid hw0
  clear hbs hbC c5 hm
  rcases hm2 with ⟨hc0, g1, rfl, hg1, hi1⟩ | ⟨hc0, er, rfl, her⟩
  · have HC0 := Lib.hid hc0
    have HG1 := Lib.hid hg1
    have HI1 := Lib.hid hi1
    obtain ⟨x, hx⟩ : ∃ x : Be, x = ⟨(Wk.mix cn C).x.wt, some ⟨g1, 0, none⟩, (Wk.mix cn C).x.n, (Wk.mix cn C).x.n, (Wk.mix cn C).x.f⟩ := ⟨_, rfl⟩
    have HX := Lib.hid hx
    have HGL : Hid (g1 < W1.heap.size) := hi1.lt
    have c6 : W1.cell? ⟨pb, 6, none⟩ = some (.slice wa wn wk) := HP.out.row.cell (i := 6) (by omega)
    have hpl1 : pb < W1.heap.size := HP.out.row.lt
    obtain ⟨W2, hW2⟩ : ∃ W2, W2 = W1.alloc (.cells #[.int .i64 (Wk.mix cn C).x.wt, .slice (some ⟨g1, 0, none⟩) (Wk.mix cn C).x.n (Wk.mix cn C).x.n] 28) := ⟨_, rfl⟩
    have hb2 : Below W1.heap.size W1 W2 := by rw [hW2]; exact bel_alloc _ _
    have HR4 : Hid (W2.rowIs W1.heap.size 28 2 (r2 (.int .i64 x.wt) (.slice x.pa x.n x.k))) := by show World.rowIs _ _ _ _ _; rw [hW2, hx]; exact row2 _ _ _ _
    replace HP := Lib.hid (HP.out.below hb2)
    replace HR := Lib.hid (wrow_below HR.out hb2)
    replace HT := Lib.hid (tab_below HT.out hb2)
    replace HI1 := Lib.hid (HI1.out.below hb2)
    have HB2 : Hid (Below w.heap.size w W2) := HB1.out.trans (hb2.mono HB1.out.size)
    have HW2 := Lib.hid hW2
    have hs1 : W.heap.size ≤ W1.heap.size := hb1.size
    have HS1 := Lib.hid hs1
    clear hc0 hg1 hi1 hx hW2 hb2 hb1 hw0 hs1
    go_wp2_with fail
    rw [← HW2.out]
    obtain ⟨ds, hds, hdD⟩ := HP.out.wl.bts
    refine (mixB_any wa wn wk ds _ hds hw (fun i hi => by have e := congrArg Wk.Bt.n (congrFun hdD i); have := HD.out i hi; have e2 : (ds i).n = (D i).n := e; omega) HT.out).mono ?_
    rintro e W3 ⟨hm, hb3⟩
    rw [hdD] at hm
    have hm2 := mxEnd_form hm hw
    replace HP := Lib.hid (HP.out.below hb3)
    replace HR := Lib.hid (wrow_below HR.out hb3)
    replace HR4 := Lib.hid (wrow_below HR4.out hb3)
    replace HI1 := Lib.hid (HI1.out.below hb3)
    have HB3 : Hid (Below w.heap.size w W3) := HB2.out.trans (hb3.mono HB2.out.size)
    have hs2 : W1.heap.size < W2.heap.size := by have := HW2.out; rw [this]; simp
    clear hds hdD c6 hm hpl1
    rcases hm2 with ⟨hc0, g2, rfl, hg2, hi2⟩ | ⟨hc0, er, rfl, her⟩
    · have HD0 := Lib.hid hc0
      have HG2 := Lib.hid hg2
      have HI2 := Lib.hid hi2
      obtain ⟨y, hy⟩ : ∃ y : Be, y = ⟨(Wk.mix wn D).x.wt, some ⟨g2, 0, none⟩, (Wk.mix wn D).x.n, (Wk.mix wn D).x.n, (Wk.mix wn D).x.f⟩ := ⟨_, rfl⟩
      have HY := Lib.hid hy
      obtain ⟨W4, hW4⟩ : ∃ W4, W4 = W3.alloc (.cells #[.int .i64 (Wk.mix wn D).x.wt, .slice (some ⟨g2, 0, none⟩) (Wk.mix wn D).x.n (Wk.mix wn D).x.n] 28) := ⟨_, rfl⟩
      have hb4 : Below W3.heap.size W3 W4 := by rw [hW4]; exact bel_alloc _ _
      have HR6 : Hid (W4.rowIs W3.heap.size 28 2 (r2 (.int .i64 y.wt) (.slice y.pa y.n y.k))) := by show World.rowIs _ _ _ _ _; rw [hW4, hy]; exact row2 _ _ _ _
      replace HP := Lib.hid (HP.out.below hb4)
      replace HR := Lib.hid (wrow_below HR.out hb4)
      replace HR4 := Lib.hid (wrow_below HR4.out hb4)
      replace HI1 := Lib.hid (HI1.out.below hb4)
      replace HI2 := Lib.hid (HI2.out.below hb4)
      have HB4 : Hid (Below w.heap.size w W4) := HB3.out.trans (hb4.mono HB3.out.size)
      have HNE : Hid (g1 ≠ g2) := by show g1 ≠ g2; have := HGL.out; have := HG2.out; omega
      obtain ⟨⟨x0, x1⟩, _⟩ := row2_cells HR4.out
      obtain ⟨⟨y0, y1⟩, _⟩ := row2_cells HR6.out
      obtain ⟨p1, p2, p3, p4⟩ := pl_filter HP.out.row
      have p7 : W4.cell? ⟨pb, 7, none⟩ = some (.int .i64 k) := HP.out.row.cell (i := 7) (by omega)
      obtain ⟨⟨f0, f1, f2, f3, f4⟩, f5, f6, f7, f8, f9⟩ := po_res HR.out
      obtain ⟨⟨o0, o1, o2, o3, o4⟩, o5, o6, o7, o8, o9⟩ := po_cells HR.out
      have l0 := HR.out.lt
      have hs4 := HR4.out.lt
      have hs5 := HR6.out.lt
      have hs6 := HP.out.row.lt
      have d1 : W1.heap.size ≠ w.heap.size := by have := HS1.out; have := HW0.out; omega
      have d2 : W3.heap.size ≠ w.heap.size := by have := HS1.out; have := HW0.out; have := hb3.size; omega
      have d3 : pb ≠ w.heap.size := by omega
      have HSZ2 : Hid (W1.heap.size < W2.heap.size) := hs2
      obtain ⟨V, hV⟩ : ∃ V, V = ((((((((((W4).setCell ⟨w.heap.size, 0, none⟩ (.int .i64 x.wt)).setCell ⟨w.heap.size, 1, none⟩ (.slice x.pa x.n x.k)).setCell ⟨w.heap.size, 2, none⟩ (.int .i64 y.wt)).setCell ⟨w.heap.size, 3, none⟩ (.slice y.pa y.n y.k)).setCell ⟨w.heap.size, 4, none⟩ (.int .i64 fl.held)).setCell ⟨w.heap.size, 5, none⟩ (.int .i64 fl.most)).setCell ⟨w.heap.size, 6, none⟩ (.int .i64 fl.catch_)).setCell ⟨w.heap.size, 7, none⟩ (.int .i64 fl.wash)).setCell ⟨w.heap.size, 8, none⟩ (.int .i64 k)).setCell ⟨w.heap.size, 9, none⟩ (.int .i64 0) := ⟨_, rfl⟩
      have HRV : Hid (V.rowIs w.heap.size 31 10 (rowL (poL x y fl k 0))) := by show World.rowIs _ _ _ _ _; rw [hV]; exact put10_row HR.out rfl (.int .i64 x.wt) (.slice x.pa x.n x.k) (.int .i64 y.wt) (.slice y.pa y.n y.k) (.int .i64 fl.held) (.int .i64 fl.most) (.int .i64 fl.catch_) (.int .i64 fl.wash) (.int .i64 k) (.int .i64 0)
      have HFV : Hid (∀ q, q ≠ w.heap.size → V.heap[q]? = W4.heap[q]?) := fun q hq => by rw [hV]; exact put10_far W4 hq (.int .i64 x.wt) (.slice x.pa x.n x.k) (.int .i64 y.wt) (.slice y.pa y.n y.k) (.int .i64 fl.held) (.int .i64 fl.most) (.int .i64 fl.catch_) (.int .i64 fl.wash) (.int .i64 k) (.int .i64 0)
      have HBV : Hid (Below w.heap.size w V) := by show Below _ _ _; rw [hV]; exact put10_below HB4.out (Nat.le_refl _) (.int .i64 x.wt) (.slice x.pa x.n x.k) (.int .i64 y.wt) (.slice y.pa y.n y.k) (.int .i64 fl.held) (.int .i64 fl.most) (.int .i64 fl.catch_) (.int .i64 fl.wash) (.int .i64 k) (.int .i64 0)
      have HV := Lib.hid hV
      clear hV
      have HW4 := Lib.hid hW4
      clear hc0 hg2 hi2 hy hW4 hb4 hs2 hb3
      go_wp2_with fail
      rw [← HW4.out]
      go_region
      go_wp2_with fail
      rw [← HV.out]
      clear f0 f1 f2 f3 f4 f5 f6 f7 f8 f9 o0 o1 o2 o3 o4 o5 o6 o7 o8 o9
      have q1 := HG1.out
      have q2 := HG2.out
      have q3 := HW0.out
      have q4 := HS1.out
      have q5 := HSZ2.out
      refine bodyPost_ret (v := .tuple #[poV x y fl k 0, .nilIface]) ?_ rfl ⟨Or.inl ⟨HC0.out, HD0.out, x, y, g1, g2, rfl, by rw [HX.out]; rfl, by rw [HY.out]; rfl, ⟨by rw [HX.out], by rw [HY.out]⟩, ⟨by omega, by omega, HNE.out⟩, ?_, ?_⟩, HBV.out.drew⟩
      · obtain ⟨⟨a0, a1, a2, a3, a4⟩, a5, a6, a7, a8, a9⟩ := po_cells HRV.out
        simp only [results, Tryd.results44]
        simp [go_sem, a0, a1, a2, a3, a4, a5, a6, a7, a8, a9]
      · have h9 := HI1.out
        have e9 : InBlk g1 x.n x.f W4 := by rw [HX.out]; exact h9
        exact e9.block (HFV.out _ (by omega))
      · have h9 := HI2.out
        have e9 : InBlk g2 y.n y.f W4 := by rw [HY.out]; exact h9
        exact e9.block (HFV.out _ (by omega))
    · obtain ⟨ey, rfl, hey⟩ := her
      have HEY := Lib.hid hey
      have HD0 := Lib.hid hc0
      obtain ⟨⟨f0, f1, f2, f3, f4⟩, f5, f6, f7, f8, f9⟩ := po_res HR.out
      obtain ⟨⟨o0, o1, o2, o3, o4⟩, o5, o6, o7, o8, o9⟩ := po_cells HR.out
      have l0 := HR.out.lt
      obtain ⟨V, hV⟩ : ∃ V, V = ((((((((((W3).setCell ⟨w.heap.size, 0, none⟩ (.int .i64 0)).setCell ⟨w.heap.size, 1, none⟩ (.slice none 0 0)).setCell ⟨w.heap.size, 2, none⟩ (.int .i64 0)).setCell ⟨w.heap.size, 3, none⟩ (.slice none 0 0)).setCell ⟨w.heap.size, 4, none⟩ (.int .i64 0)).setCell ⟨w.heap.size, 5, none⟩ (.int .i64 0)).setCell ⟨w.heap.size, 6, none⟩ (.int .i64 0)).setCell ⟨w.heap.size, 7, none⟩ (.int .i64 0)).setCell ⟨w.heap.size, 8, none⟩ (.int .i64 0)).setCell ⟨w.heap.size, 9, none⟩ (.int .i64 0) := ⟨_, rfl⟩
      have HRV : Hid (V.rowIs w.heap.size 31 10 (rowL (poL beN beN Wk.flNil 0 0))) := by show World.rowIs _ _ _ _ _; rw [hV]; exact put10_row HR.out rfl (.int .i64 0) (.slice none 0 0) (.int .i64 0) (.slice none 0 0) (.int .i64 0) (.int .i64 0) (.int .i64 0) (.int .i64 0) (.int .i64 0) (.int .i64 0)
      have HFV : Hid (∀ q, q ≠ w.heap.size → V.heap[q]? = W3.heap[q]?) := fun q hq => by rw [hV]; exact put10_far W3 hq (.int .i64 0) (.slice none 0 0) (.int .i64 0) (.slice none 0 0) (.int .i64 0) (.int .i64 0) (.int .i64 0) (.int .i64 0) (.int .i64 0) (.int .i64 0)
      have HBV : Hid (Below w.heap.size w V) := by show Below _ _ _; rw [hV]; exact put10_below HB3.out (Nat.le_refl _) (.int .i64 0) (.slice none 0 0) (.int .i64 0) (.slice none 0 0) (.int .i64 0) (.int .i64 0) (.int .i64 0) (.int .i64 0) (.int .i64 0) (.int .i64 0)
      have HV := Lib.hid hV
      clear hV
      clear hey hc0
      go_wp2_with fail
      rw [← HV.out]
      clear f0 f1 f2 f3 f4 f5 f6 f7 f8 f9 o0 o1 o2 o3 o4 o5 o6 o7 o8 o9
      refine bodyPost_ret (v := .tuple #[poV beN beN Wk.flNil 0 0, .iface 64 (.agg #[.string ⟨#[119, 104, 97, 116, 32, 99, 97, 109, 101, 32, 111, 117, 116, 32, 97, 115, 32, 119, 97, 115, 116, 101]⟩, .iface 64 ey])]) ?_ rfl ⟨Or.inr (Or.inr ⟨HC0.out, HD0.out, _, rfl, ErrIs.wrap ⟨ey, rfl, HEY.out⟩ _⟩), HBV.out.alloc HBV.out.size _⟩
      obtain ⟨⟨a0, a1, a2, a3, a4⟩, a5, a6, a7, a8, a9⟩ := po_cells HRV.out
      have l9 := HRV.out.lt
      simp only [results, Tryd.results44]
      simp [go_sem, a0, a1, a2, a3, a4, a5, a6, a7, a8, a9, l9]
  · obtain ⟨ey, rfl, hey⟩ := her
    have HEY := Lib.hid hey
    have HD0 := Lib.hid hc0
    obtain ⟨⟨f0, f1, f2, f3, f4⟩, f5, f6, f7, f8, f9⟩ := po_res HR.out
    obtain ⟨⟨o0, o1, o2, o3, o4⟩, o5, o6, o7, o8, o9⟩ := po_cells HR.out
    have l0 := HR.out.lt
    obtain ⟨V, hV⟩ : ∃ V, V = ((((((((((W1).setCell ⟨w.heap.size, 0, none⟩ (.int .i64 0)).setCell ⟨w.heap.size, 1, none⟩ (.slice none 0 0)).setCell ⟨w.heap.size, 2, none⟩ (.int .i64 0)).setCell ⟨w.heap.size, 3, none⟩ (.slice none 0 0)).setCell ⟨w.heap.size, 4, none⟩ (.int .i64 0)).setCell ⟨w.heap.size, 5, none⟩ (.int .i64 0)).setCell ⟨w.heap.size, 6, none⟩ (.int .i64 0)).setCell ⟨w.heap.size, 7, none⟩ (.int .i64 0)).setCell ⟨w.heap.size, 8, none⟩ (.int .i64 0)).setCell ⟨w.heap.size, 9, none⟩ (.int .i64 0) := ⟨_, rfl⟩
    have HRV : Hid (V.rowIs w.heap.size 31 10 (rowL (poL beN beN Wk.flNil 0 0))) := by show World.rowIs _ _ _ _ _; rw [hV]; exact put10_row HR.out rfl (.int .i64 0) (.slice none 0 0) (.int .i64 0) (.slice none 0 0) (.int .i64 0) (.int .i64 0) (.int .i64 0) (.int .i64 0) (.int .i64 0) (.int .i64 0)
    have HFV : Hid (∀ q, q ≠ w.heap.size → V.heap[q]? = W1.heap[q]?) := fun q hq => by rw [hV]; exact put10_far W1 hq (.int .i64 0) (.slice none 0 0) (.int .i64 0) (.slice none 0 0) (.int .i64 0) (.int .i64 0) (.int .i64 0) (.int .i64 0) (.int .i64 0) (.int .i64 0)
    have HBV : Hid (Below w.heap.size w V) := by show Below _ _ _; rw [hV]; exact put10_below HB1.out (Nat.le_refl _) (.int .i64 0) (.slice none 0 0) (.int .i64 0) (.slice none 0 0) (.int .i64 0) (.int .i64 0) (.int .i64 0) (.int .i64 0) (.int .i64 0) (.int .i64 0)
    have HV := Lib.hid hV
    clear hV
    clear hey hc0
    go_wp2_with fail
    rw [← HV.out]
    clear f0 f1 f2 f3 f4 f5 f6 f7 f8 f9 o0 o1 o2 o3 o4 o5 o6 o7 o8 o9
    refine bodyPost_ret (v := .tuple #[poV beN beN Wk.flNil 0 0, .iface 64 (.agg #[.string ⟨#[119, 104, 97, 116, 32, 99, 97, 109, 101, 32, 111, 117, 116, 32, 99, 108, 101, 97, 110]⟩, .iface 64 ey])]) ?_ rfl ⟨Or.inr (Or.inl ⟨HD0.out, _, rfl, ErrIs.wrap ⟨ey, rfl, HEY.out⟩ _⟩), HBV.out.alloc HBV.out.size _⟩
    obtain ⟨⟨a0, a1, a2, a3, a4⟩, a5, a6, a7, a8, a9⟩ := po_cells HRV.out
    have l9 := HRV.out.lt
    simp only [results, Tryd.results44]
    simp [go_sem, a0, a1, a2, a3, a4, a5, a6, a7, a8, a9, l9]
end Go.Proofs.YtcjeieagpcphjaaDoor
