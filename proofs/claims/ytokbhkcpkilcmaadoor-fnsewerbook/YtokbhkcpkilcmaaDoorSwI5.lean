/-
  What stands from reach to reach of the program's step.
-/
import Derived.Test.YtokbhkcpkilcmaaDoorSwI3
import Derived.Test.YtokbhkcpkilcmaaDoorErr
namespace Go.Proofs.YtokbhkcpkilcmaaDoor
open Go.RowKit Go.Deep


/-- No answer. -/
abbrev zRo : Value := .agg #[.slice none 0 0, .slice none 0 0, .slice none 0 0, .int .i64 0, .int .i64 0]
abbrev vRo (n gl gf gt c cf ct : Nat) (sea code : Int) : Value := .agg #[.slice (some ⟨gl, 0, none⟩) n c, .slice (some ⟨gf, 0, none⟩) n cf, .slice (some ⟨gt, 0, none⟩) n ct, .int .i64 sea, .int .i64 code]
/-- How the program's step ends. -/
def StepEnd (w : World) (n : Nat) (rs : Nat → Sw.Rc) (r : Except Int Sw.St) (e : Ending) (w' : World) : Prop :=
  (∃ k s, r = .error k ∧ k ≠ 0 ∧ e = .returned (.tuple #[zRo, errV s k])) ∨
  (∃ st gl gf gt c, r = .ok st ∧ e = .returned (.tuple #[vRo n gl gf gt c n n st.sea 0, .nilIface]) ∧ OutL w.heap.size n gl gf gt (Sw.after rs st) st.fl st.tk w')

theorem RoSlot.set {w W : World} (h : RoSlot w W) {p : Nat} (hp : w.heap.size < p) (i : Nat) (x : Value) : RoSlot w (W.setCell ⟨p, i, none⟩ x) := Below.setCell (p := ⟨p, i, none⟩) h (by show w.heap.size + 1 ≤ p; omega) x

/-- What stands from reach to reach. -/
structure SL (w : World) (n : Nat) (rs : Nat → Sw.Rc) (gl gf gt c po gc : Nat) (s : Sw.St) (W : World) : Prop where
  slot : RoSlot w W
  out : W.rowIs po 27 5 (ro5 (.slice (some ⟨gl, 0, none⟩) n c) (.slice (some ⟨gf, 0, none⟩) n n) (.slice (some ⟨gt, 0, none⟩) n n) s.sea 0)
  lists : OutL (w.heap.size + 1) n gl gf gt (Sw.after rs s) s.fl s.tk W
  com : InBlk gc n s.cs W
  far : w.heap.size < po ∧ w.heap.size < gc ∧ po ≠ gc ∧ po ≠ gl ∧ po ≠ gf ∧ po ≠ gt ∧ gc ≠ gl ∧ gc ≠ gf ∧ gc ≠ gt
section
variable {w : World} {n : Nat} {rs : Nat → Sw.Rc} {gl gf gt c po gc : Nat} {s : Sw.St} {W W' : World}
theorem SL.below (h : SL w n rs gl gf gt c po gc s W) (hb : Below W.heap.size W W') : SL w n rs gl gf gt c po gc s W' :=
  ⟨h.slot.next hb, h.out.of_block (hb.block _ h.out.lt), h.lists.below hb, h.com.block (hb.block _ h.com.lt), h.far⟩
theorem OutL.far {B g : Nat} {fl tk : Nat → Int} (h : OutL B n gl gf gt rs fl tk W) (h1 : gl ≠ g) (h2 : gf ≠ g) (h3 : gt ≠ g) (i : Nat) (x : Value) : OutL B n gl gf gt rs fl tk (W.setCell ⟨g, i, none⟩ x) :=
  ⟨h.1, h.2.1, h.2.2.1.block (blk_setCell_other _ _ _ _ (by show gl ≠ g; exact h1)), h.2.2.2.1.block (blk_setCell_other _ _ _ _ (by show gf ≠ g; exact h2)), h.2.2.2.2.block (blk_setCell_other _ _ _ _ (by show gt ≠ g; exact h3))⟩
theorem SL.setL (h : SL w n rs gl gf gt c po gc s W) (i : Nat) (x : Int) : SL w n rs gl gf gt c po gc { s with st := Sw.upd s.st i x } (W.setCell ⟨gl, i * 6 + 1, none⟩ (.int .i64 x)) := by
  obtain ⟨f1, f2, f3, f4, f5, f6, f7, f8, f9⟩ := h.far
  have hl := h.lists
  refine ⟨h.slot.set (by have := hl.1.1; omega) _ _, h.out.setOther (by show po ≠ gl; exact f4) _, ⟨hl.1, hl.2.1, ?_, hl.2.2.2.1.block (blk_setCell_other _ _ _ _ (by show gf ≠ gl; exact hl.2.1.1.symm)), hl.2.2.2.2.block (blk_setCell_other _ _ _ _ (by show gt ≠ gl; exact hl.2.1.2.1.symm))⟩, h.com.block (blk_setCell_other _ _ _ _ (by show gc ≠ gl; exact f7)), h.far⟩
  refine (hl.2.2.1.setSt i x).congr (fun j _ => ?_)
  by_cases e : j = i
  · subst e; simp [Sw.after, Sw.upd]
  · simp [Sw.after, Sw.upd, e]
theorem SL.setT (h : SL w n rs gl gf gt c po gc s W) (i : Nat) (x : Int) : SL w n rs gl gf gt c po gc { s with tk := Sw.upd s.tk i x } (W.setCell ⟨gt, i, none⟩ (.int .i64 x)) := by
  obtain ⟨f1, f2, f3, f4, f5, f6, f7, f8, f9⟩ := h.far
  have hl := h.lists
  exact ⟨h.slot.set (by have := hl.1.2.2; omega) _ _, h.out.setOther (by show po ≠ gt; exact f6) _, ⟨hl.1, hl.2.1, hl.2.2.1.block (blk_setCell_other _ _ _ _ (by show gl ≠ gt; exact hl.2.1.2.1)), hl.2.2.2.1.block (blk_setCell_other _ _ _ _ (by show gf ≠ gt; exact hl.2.1.2.2)), InBlk.setU hl.2.2.2.2 i x⟩, h.com.block (blk_setCell_other _ _ _ _ (by show gc ≠ gt; exact f9)), h.far⟩
theorem SL.setF (h : SL w n rs gl gf gt c po gc s W) (i : Nat) (x : Int) : SL w n rs gl gf gt c po gc { s with fl := Sw.upd s.fl i x } (W.setCell ⟨gf, i, none⟩ (.int .i64 x)) := by
  obtain ⟨f1, f2, f3, f4, f5, f6, f7, f8, f9⟩ := h.far
  have hl := h.lists
  exact ⟨h.slot.set (by have := hl.1.2.1; omega) _ _, h.out.setOther (by show po ≠ gf; exact f5) _, ⟨hl.1, hl.2.1, hl.2.2.1.block (blk_setCell_other _ _ _ _ (by show gl ≠ gf; exact hl.2.1.1)), InBlk.setU hl.2.2.2.1 i x, hl.2.2.2.2.block (blk_setCell_other _ _ _ _ (by show gt ≠ gf; exact hl.2.1.2.2.symm))⟩, h.com.block (blk_setCell_other _ _ _ _ (by show gc ≠ gf; exact f8)), h.far⟩
theorem SL.setC (h : SL w n rs gl gf gt c po gc s W) (i : Nat) (x : Int) : SL w n rs gl gf gt c po gc { s with cs := Sw.upd s.cs i x } (W.setCell ⟨gc, i, none⟩ (.int .i64 x)) := by
  obtain ⟨f1, f2, f3, f4, f5, f6, f7, f8, f9⟩ := h.far
  exact ⟨h.slot.set f2 _ _, h.out.setOther (by show po ≠ gc; exact f3) _, h.lists.far f7.symm f8.symm f9.symm _ _, InBlk.setU h.com i x, h.far⟩
theorem SL.setS (h : SL w n rs gl gf gt c po gc s W) (x : Int) : SL w n rs gl gf gt c po gc { s with sea := x } (W.setCell ⟨po, 3, none⟩ (.int .i64 x)) := by
  obtain ⟨f1, f2, f3, f4, f5, f6, f7, f8, f9⟩ := h.far
  refine ⟨h.slot.set f1 _ _, (h.out.set 3 _).congr (fun j _ => ?_), h.lists.far f4.symm f5.symm f6.symm _ _, h.com.block (blk_setCell_other _ _ _ _ (by show gc ≠ po; exact f3.symm)), h.far⟩
  unfold ro5
  by_cases e : j = 3 <;> simp [e]
/-- The cells that a round reads and writes. -/
theorem SL.cells (h : SL w n rs gl gf gt c po gc s W) {i : Nat} (hi : i < n) :
    (W.cell? ⟨po, 0, none⟩ = some (.slice (some ⟨gl, 0, none⟩) n c) ∧ W.cell? ⟨po, 1, none⟩ = some (.slice (some ⟨gf, 0, none⟩) n n) ∧ W.cell? ⟨po, 2, none⟩ = some (.slice (some ⟨gt, 0, none⟩) n n) ∧ W.cell? ⟨po, 3, none⟩ = some (.int .i64 s.sea) ∧ W.frozen? ⟨po, 3, none⟩ = false) ∧
    ((∃ x, W.cell? ⟨gl, i * 6 + 1, none⟩ = some (.int .i64 x)) ∧ W.frozen? ⟨gl, i * 6 + 1, none⟩ = false ∧ W.cell? ⟨gf, i, none⟩ = some (.int .i64 (s.fl i)) ∧ W.frozen? ⟨gf, i, none⟩ = false ∧ W.cell? ⟨gt, i, none⟩ = some (.int .i64 (s.tk i)) ∧ W.frozen? ⟨gt, i, none⟩ = false) ∧ W.cell? ⟨gc, i, none⟩ = some (.int .i64 (s.cs i)) ∧ W.frozen? ⟨gc, i, none⟩ = false :=
  ⟨⟨h.out.cell (i := 0) (by omega), h.out.cell (i := 1) (by omega), h.out.cell (i := 2) (by omega), h.out.cell (i := 3) (by omega), h.out.frozen 3⟩, ⟨⟨_, (h.lists.2.2.1.cells hi).2.1⟩, h.lists.2.2.1.frozen _, h.lists.2.2.2.1.cell hi, h.lists.2.2.2.1.frozen _, h.lists.2.2.2.2.cell hi, h.lists.2.2.2.2.frozen _⟩, h.com.cell hi, h.com.frozen _⟩
theorem SL.congr {s' : Sw.St} (h : SL w n rs gl gf gt c po gc s W) (e : s = s') : SL w n rs gl gf gt c po gc s' W := e ▸ h
/-- The answer laid in the slot. -/
theorem SL.fin (h : SL w n rs gl gf gt c po gc s W) :
    ((putRo w.heap.size W (.slice (some ⟨gl, 0, none⟩) n c) (.slice (some ⟨gf, 0, none⟩) n n) (.slice (some ⟨gt, 0, none⟩) n n) (.int .i64 s.sea) (.int .i64 0)).cell? ⟨w.heap.size, 0, none⟩ = some (.slice (some ⟨gl, 0, none⟩) n c) ∧ (putRo w.heap.size W (.slice (some ⟨gl, 0, none⟩) n c) (.slice (some ⟨gf, 0, none⟩) n n) (.slice (some ⟨gt, 0, none⟩) n n) (.int .i64 s.sea) (.int .i64 0)).cell? ⟨w.heap.size, 1, none⟩ = some (.slice (some ⟨gf, 0, none⟩) n n) ∧ (putRo w.heap.size W (.slice (some ⟨gl, 0, none⟩) n c) (.slice (some ⟨gf, 0, none⟩) n n) (.slice (some ⟨gt, 0, none⟩) n n) (.int .i64 s.sea) (.int .i64 0)).cell? ⟨w.heap.size, 2, none⟩ = some (.slice (some ⟨gt, 0, none⟩) n n) ∧ (putRo w.heap.size W (.slice (some ⟨gl, 0, none⟩) n c) (.slice (some ⟨gf, 0, none⟩) n n) (.slice (some ⟨gt, 0, none⟩) n n) (.int .i64 s.sea) (.int .i64 0)).cell? ⟨w.heap.size, 3, none⟩ = some (.int .i64 s.sea) ∧ (putRo w.heap.size W (.slice (some ⟨gl, 0, none⟩) n c) (.slice (some ⟨gf, 0, none⟩) n n) (.slice (some ⟨gt, 0, none⟩) n n) (.int .i64 s.sea) (.int .i64 0)).cell? ⟨w.heap.size, 4, none⟩ = some (.int .i64 0)) ∧
    OutL w.heap.size n gl gf gt (Sw.after rs s) s.fl s.tk (putRo w.heap.size W (.slice (some ⟨gl, 0, none⟩) n c) (.slice (some ⟨gf, 0, none⟩) n n) (.slice (some ⟨gt, 0, none⟩) n n) (.int .i64 s.sea) (.int .i64 0)) ∧ Below w.heap.size w (putRo w.heap.size W (.slice (some ⟨gl, 0, none⟩) n c) (.slice (some ⟨gf, 0, none⟩) n n) (.slice (some ⟨gt, 0, none⟩) n n) (.int .i64 s.sea) (.int .i64 0)) :=
  ⟨(h.slot.fin _ _ _ _ _).1, (h.lists.put _ _ _ _ _).lower (by omega), (h.slot.fin _ _ _ _ _).2⟩
end
end Go.Proofs.YtokbhkcpkilcmaaDoor
