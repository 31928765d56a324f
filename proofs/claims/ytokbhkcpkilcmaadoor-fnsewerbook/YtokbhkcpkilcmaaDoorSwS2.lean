/-
  What stands from reach to reach of the model's step.
-/
import Derived.Test.YtokbhkcpkilcmaaDoorSwI5
import Derived.Test.YtokbhkcpkilcmaaDoorSwS1
import Derived.Test.YtokbhkcpkilcmaaDoorSwOwn
import Derived.Deep.AppendLies
namespace Go.Proofs.YtokbhkcpkilcmaaDoor
open Go.RowKit Go.Deep

/-- What stands from reach to reach of the model's step. -/
structure SpL (w : World) (n : Nat) (rs : Nat → Sw.Rc) (f : Nat → Int) (gl c po gc : Nat) (vf vt : Value) (nf nt : Nat) (s : Sw.St) (W : World) : Prop where
  slot : RoSlot w W
  out : W.rowIs po 27 5 (ro5 (.slice (some ⟨gl, 0, none⟩) n c) vf vt s.sea 0)
  lst : RcBlk gl n (Sw.after rs s) W
  com : InBlk gc n (fun j => s.cs j - f j) W
  fl : W.ownsRow (w.heap.size + 1) 2 1 vf nf (inVs s.fl nf)
  tk : W.ownsRow (w.heap.size + 1) 2 1 vt nt (inVs s.tk nt)
  far : w.heap.size < po ∧ w.heap.size < gl ∧ w.heap.size < gc ∧ po ≠ gl ∧ po ≠ gc ∧ gl ≠ gc
  ff : ∀ k, vf.ownBlock = some k → k ≠ po ∧ k ≠ gl ∧ k ≠ gc ∧ vt.ownBlock ≠ some k
  tt : ∀ k, vt.ownBlock = some k → k ≠ po ∧ k ≠ gl ∧ k ≠ gc
section
variable {w : World} {n : Nat} {rs : Nat → Sw.Rc} {f : Nat → Int} {gl c po gc : Nat} {vf vt : Value} {nf nt : Nat} {s : Sw.St} {W W' : World}
theorem SpL.below (h : SpL w n rs f gl c po gc vf vt nf nt s W) (hb : Below W.heap.size W W') : SpL w n rs f gl c po gc vf vt nf nt s W' :=
  ⟨h.slot.next hb, h.out.of_block (hb.block _ h.out.lt), h.lst.block (hb.block _ h.lst.lt), h.com.block (hb.block _ h.com.lt), own_far h.fl (fun k _ hk => hb.block k hk), own_far h.tk (fun k _ hk => hb.block k hk), h.far, h.ff, h.tt⟩
theorem SpL.setL (h : SpL w n rs f gl c po gc vf vt nf nt s W) (i : Nat) (x : Int) : SpL w n rs f gl c po gc vf vt nf nt { s with st := Sw.upd s.st i x } (W.setCell ⟨gl, i * 6 + 1, none⟩ (.int .i64 x)) := by
  obtain ⟨f1, f2, f3, f4, f5, f6⟩ := h.far
  refine ⟨h.slot.set f2 _ _, h.out.setOther (by show po ≠ gl; exact f4) _, ?_, h.com.block (blk_setCell_other _ _ _ _ (by show gc ≠ gl; exact f6.symm)), own_far h.fl (fun k hk _ => blk_setCell_other _ _ _ _ (by show k ≠ gl; exact (h.ff k hk).2.1)), own_far h.tk (fun k hk _ => blk_setCell_other _ _ _ _ (by show k ≠ gl; exact (h.tt k hk).2.1)), h.far, h.ff, h.tt⟩
  refine (h.lst.setSt i x).congr (fun j _ => ?_)
  by_cases e : j = i
  · subst e; simp [Sw.after, Sw.upd]
  · simp [Sw.after, Sw.upd, e]
theorem SpL.setS (h : SpL w n rs f gl c po gc vf vt nf nt s W) (x : Int) : SpL w n rs f gl c po gc vf vt nf nt { s with sea := x } (W.setCell ⟨po, 3, none⟩ (.int .i64 x)) := by
  obtain ⟨f1, f2, f3, f4, f5, f6⟩ := h.far
  refine ⟨h.slot.set f1 _ _, (h.out.set 3 _).congr (fun j _ => ?_), h.lst.block (blk_setCell_other _ _ _ _ (by show gl ≠ po; exact f4.symm)), h.com.block (blk_setCell_other _ _ _ _ (by show gc ≠ po; exact f5.symm)), own_far h.fl (fun k hk _ => blk_setCell_other _ _ _ _ (by show k ≠ po; exact (h.ff k hk).1)), own_far h.tk (fun k hk _ => blk_setCell_other _ _ _ _ (by show k ≠ po; exact (h.tt k hk).1)), h.far, h.ff, h.tt⟩
  unfold ro5
  by_cases e : j = 3 <;> simp [e]
theorem SpL.setC (h : SpL w n rs f gl c po gc vf vt nf nt s W) (i : Nat) (x y : Int) (e : x = y - f i) : SpL w n rs f gl c po gc vf vt nf nt { s with cs := Sw.upd s.cs i y } (W.setCell ⟨gc, i, none⟩ (.int .i64 x)) := by
  obtain ⟨f1, f2, f3, f4, f5, f6⟩ := h.far
  refine ⟨h.slot.set f3 _ _, h.out.setOther (by show po ≠ gc; exact f5) _, h.lst.block (blk_setCell_other _ _ _ _ (by show gl ≠ gc; exact f6)), (InBlk.setU h.com i x).congr (fun j _ => ?_), own_far h.fl (fun k hk _ => blk_setCell_other _ _ _ _ (by show k ≠ gc; exact (h.ff k hk).2.2.1)), own_far h.tk (fun k hk _ => blk_setCell_other _ _ _ _ (by show k ≠ gc; exact (h.tt k hk).2.2)), h.far, h.ff, h.tt⟩
  show Sw.upd _ i x j = Sw.upd s.cs i y j - f j
  by_cases e2 : j = i
  · subst e2; rw [Sw.upd_same, Sw.upd_same]; exact e
  · rw [Sw.upd_ne _ _ e2, Sw.upd_ne _ _ e2]
/-- A number behind the others of Flows. -/
theorem SpL.pushF {W1 : World} {ob : Obj} {g cap : Nat} {x : Int} (h : SpL w n rs f gl c po gc vf vt nf nt s W) (hg : (W.alloc ob).grownBy W1 vf.ownBlock) (hown : W1.ownsRow (w.heap.size + 1) 2 1 (.slice (some ⟨g, 0, none⟩) (nf + 1) cap) (nf + 1) (inVs s.fl nf ++ [.int .i64 x])) (hat : vf.ownBlock = some g ∨ g = W.heap.size + 1) :
    SpL w n rs f gl c po gc (.slice (some ⟨g, 0, none⟩) (nf + 1) cap) vt (nf + 1) nt { s with fl := Sw.upd s.fl nf x } (W1.setCell ⟨po, 1, none⟩ (.slice (some ⟨g, 0, none⟩) (nf + 1) cap)) := by
  obtain ⟨f1, f2, f3, f4, f5, f6⟩ := h.far
  have hz := h.slot.lt
  have keep : ∀ k, k < W.heap.size → vf.ownBlock ≠ some k → W1.heap[k]? = W.heap[k]? := fun k hk hne => by
    rw [hg.block k (by simp; omega) (fun e => hne e.symm)]
    exact blk_alloc_lt _ _ _ hk
  have hrow : ∀ k, vf.ownBlock = some k → w.heap.size + 1 ≤ k := fun k e => (h.fl.lt k e).1
  have hlo : po < W.heap.size := h.out.lt
  have hll : gl < W.heap.size := h.lst.lt
  have hlc : gc < W.heap.size := h.com.lt
  have hgne : g ≠ po ∧ g ≠ gl ∧ g ≠ gc ∧ vt.ownBlock ≠ some g := by
    rcases hat with e | e
    · exact h.ff g e
    · refine ⟨by omega, by omega, by omega, fun k => ?_⟩
      have := (h.tk.lt g k).2; omega
  have nf' : ∀ k, k = po ∨ k = gl ∨ k = gc → vf.ownBlock ≠ some k := fun k hk e => by
    obtain ⟨a, b, c, _⟩ := h.ff k e
    rcases hk with rfl | rfl | rfl
    · exact a rfl
    · exact b rfl
    · exact c rfl
  have hb1 : RoSlot w W1 := ⟨hg.os.trans (Below.os (h.slot.alloc ob)), hg.tape.trans (Below.tape (h.slot.alloc ob)), hg.output.trans (Below.output (h.slot.alloc ob)), Nat.le_trans (Below.size (h.slot.alloc ob)) hg.size, fun k hk => (keep k (by omega) (fun e => by have := hrow k e; omega)).trans (Below.block h.slot k hk)⟩
  have e0 : Value.ownBlock (.slice (some ⟨g, 0, none⟩) (nf + 1) cap) = some g := rfl
  refine ⟨hb1.set f1 _ _, ((h.out.of_block (keep po hlo (nf' po (Or.inl rfl)))).set 1 _).congr (fun j _ => ?_), (h.lst.block (keep gl hll (nf' gl (Or.inr (Or.inl rfl))))).block (blk_setCell_other _ _ _ _ (by show gl ≠ po; exact f4.symm)), (h.com.block (keep gc hlc (nf' gc (Or.inr (Or.inr rfl))))).block (blk_setCell_other _ _ _ _ (by show gc ≠ po; exact f5.symm)), ?_, ?_, h.far, fun k hk => ?_, h.tt⟩
  · unfold ro5
    by_cases e : j = 1 <;> simp [e]
  · rw [inVs_succ]
    exact own_far hown (fun k hk _ => blk_setCell_other _ _ _ _ (by rw [e0] at hk; cases hk; show g ≠ po; exact hgne.1))
  · exact own_far h.tk (fun k hk hk2 => (blk_setCell_other _ _ _ _ (by show k ≠ po; exact (h.tt k hk).1)).trans (keep k hk2 (fun e => (h.ff k e).2.2.2 hk)))
  · rw [e0] at hk; cases hk; exact hgne
/-- A number behind the others of Taken. -/
theorem SpL.pushT {W1 : World} {ob : Obj} {g cap : Nat} {x : Int} (h : SpL w n rs f gl c po gc vf vt nf nt s W) (hg : (W.alloc ob).grownBy W1 vt.ownBlock) (hown : W1.ownsRow (w.heap.size + 1) 2 1 (.slice (some ⟨g, 0, none⟩) (nt + 1) cap) (nt + 1) (inVs s.tk nt ++ [.int .i64 x])) (hat : vt.ownBlock = some g ∨ g = W.heap.size + 1) :
    SpL w n rs f gl c po gc vf (.slice (some ⟨g, 0, none⟩) (nt + 1) cap) nf (nt + 1) { s with tk := Sw.upd s.tk nt x } (W1.setCell ⟨po, 2, none⟩ (.slice (some ⟨g, 0, none⟩) (nt + 1) cap)) := by
  obtain ⟨f1, f2, f3, f4, f5, f6⟩ := h.far
  have hz := h.slot.lt
  have keep : ∀ k, k < W.heap.size → vt.ownBlock ≠ some k → W1.heap[k]? = W.heap[k]? := fun k hk hne => by
    rw [hg.block k (by simp; omega) (fun e => hne e.symm)]
    exact blk_alloc_lt _ _ _ hk
  have hrow : ∀ k, vt.ownBlock = some k → w.heap.size + 1 ≤ k := fun k e => (h.tk.lt k e).1
  have hlo : po < W.heap.size := h.out.lt
  have hll : gl < W.heap.size := h.lst.lt
  have hlc : gc < W.heap.size := h.com.lt
  have hgne : g ≠ po ∧ g ≠ gl ∧ g ≠ gc ∧ vf.ownBlock ≠ some g := by
    rcases hat with e | e
    · obtain ⟨a, b, c⟩ := h.tt g e
      exact ⟨a, b, c, fun k => (h.ff g k).2.2.2 e⟩
    · refine ⟨by omega, by omega, by omega, fun k => ?_⟩
      have := (h.fl.lt g k).2; omega
  have nf' : ∀ k, k = po ∨ k = gl ∨ k = gc → vt.ownBlock ≠ some k := fun k hk e => by
    obtain ⟨a, b, c⟩ := h.tt k e
    rcases hk with rfl | rfl | rfl
    · exact a rfl
    · exact b rfl
    · exact c rfl
  have hb1 : RoSlot w W1 := ⟨hg.os.trans (Below.os (h.slot.alloc ob)), hg.tape.trans (Below.tape (h.slot.alloc ob)), hg.output.trans (Below.output (h.slot.alloc ob)), Nat.le_trans (Below.size (h.slot.alloc ob)) hg.size, fun k hk => (keep k (by omega) (fun e => by have := hrow k e; omega)).trans (Below.block h.slot k hk)⟩
  have e0 : Value.ownBlock (.slice (some ⟨g, 0, none⟩) (nt + 1) cap) = some g := rfl
  refine ⟨hb1.set f1 _ _, ((h.out.of_block (keep po hlo (nf' po (Or.inl rfl)))).set 2 _).congr (fun j _ => ?_), (h.lst.block (keep gl hll (nf' gl (Or.inr (Or.inl rfl))))).block (blk_setCell_other _ _ _ _ (by show gl ≠ po; exact f4.symm)), (h.com.block (keep gc hlc (nf' gc (Or.inr (Or.inr rfl))))).block (blk_setCell_other _ _ _ _ (by show gc ≠ po; exact f5.symm)), ?_, ?_, h.far, fun k hk => ?_, fun k hk => ?_⟩
  · unfold ro5
    by_cases e : j = 2 <;> simp [e]
  · exact own_far h.fl (fun k hk hk2 => (blk_setCell_other _ _ _ _ (by show k ≠ po; exact (h.ff k hk).1)).trans (keep k hk2 (fun e => (h.ff k hk).2.2.2 e)))
  · rw [inVs_succ]
    exact own_far hown (fun k hk _ => blk_setCell_other _ _ _ _ (by rw [e0] at hk; cases hk; show g ≠ po; exact hgne.1))
  · obtain ⟨a, b, c, _⟩ := h.ff k hk
    refine ⟨a, b, c, fun e => ?_⟩
    rw [e0] at e; cases e; exact hgne.2.2.2 hk
  · rw [e0] at hk; cases hk; exact ⟨hgne.1, hgne.2.1, hgne.2.2.1⟩
theorem SpL.congr {s' : Sw.St} (h : SpL w n rs f gl c po gc vf vt nf nt s W) (e : s = s') : SpL w n rs f gl c po gc vf vt nf nt s' W := e ▸ h
/-- The cells that a round reads and writes. -/
theorem SpL.cells (h : SpL w n rs f gl c po gc vf vt nf nt s W) {i : Nat} (hi : i < n) :
    (W.cell? ⟨po, 0, none⟩ = some (.slice (some ⟨gl, 0, none⟩) n c) ∧ W.cell? ⟨po, 1, none⟩ = some vf ∧ W.cell? ⟨po, 2, none⟩ = some vt ∧ W.cell? ⟨po, 3, none⟩ = some (.int .i64 s.sea)) ∧ (W.frozen? ⟨po, 1, none⟩ = false ∧ W.frozen? ⟨po, 2, none⟩ = false ∧ W.frozen? ⟨po, 3, none⟩ = false) ∧
    ((∃ x, W.cell? ⟨gl, i * 6 + 1, none⟩ = some (.int .i64 x)) ∧ W.frozen? ⟨gl, i * 6 + 1, none⟩ = false) ∧ W.cell? ⟨gc, i, none⟩ = some (.int .i64 (s.cs i - f i)) ∧ W.frozen? ⟨gc, i, none⟩ = false :=
  ⟨⟨h.out.cell (i := 0) (by omega), h.out.cell (i := 1) (by omega), h.out.cell (i := 2) (by omega), h.out.cell (i := 3) (by omega)⟩, ⟨h.out.frozen 1, h.out.frozen 2, h.out.frozen 3⟩, ⟨⟨_, (h.lst.cells hi).2.1⟩, h.lst.frozen _⟩, h.com.cell hi, h.com.frozen _⟩
end
end Go.Proofs.YtokbhkcpkilcmaaDoor
