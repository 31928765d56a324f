/-
  The contract of the draw of a list of floats.
-/
import Derived.Test.YtlipgnjknfmikaaFDraw
import Derived.Laws.AppendOwn
import Derived.OwnWalk
import Derived.Deep.Heap
namespace Go.Proofs.Ytlipgnjknfmikaa
open Go.RowKit

theorem info_float : (Try.prog.info? 27).map (fun i => (i.zero, i.size, i.bytes)) = some (some (.float .f64 0), 1, 8) := by kernel_rfl

/-- A value that owns a list of floats among blocks from B on. -/
def Own (B : Nat) (v : Value) (zs : List Nat) (W : World) : Prop := W.ownsRow B 27 1 v zs.length (zs.map (Value.float .f64)) ∧ v ≠ .slice none 0 0

theorem Own.chg {B sb : Nat} {v : Value} {zs : List Nat} {W W' : World} (h : Own B v zs W) (hsb : sb < B) (hc : Chg sb W W') : Own B v zs W' := by
  obtain ⟨⟨h1, h2⟩, hn⟩ := h
  refine ⟨⟨h1, ?_⟩, hn⟩
  rcases h2 with h2 | ⟨g, cap, cur, e1, e2, e3, e4⟩
  · exact Or.inl h2
  · refine Or.inr ⟨g, cap, cur, e1, e2, ?_, e4⟩
    have hlt : g < W.heap.size := by
      rcases Nat.lt_or_ge g W.heap.size with h | h
      · exact h
      · rw [Array.getElem?_eq_none h] at e3; cases e3
    rw [hc.2.2.2.2 g hlt (by omega)]; exact e3

theorem Src.same {sb : Nat} {w w' : World} (h : Src sb w) (hb : ∀ k, k ≤ sb → w'.heap[k]? = w.heap[k]?) : Src sb w' := by
  obtain ⟨a, len, cap, at_, mix, size, ⟨c0, c1, c2, c3, f0, f1, f2, f3⟩, h1, h2, h3, h4, h5, h6⟩ := h
  have ce : ∀ o, w'.cell? ⟨sb, o, none⟩ = w.cell? ⟨sb, o, none⟩ := fun o => World.cell?_of_block (hb sb (Nat.le_refl _))
  have fe : ∀ o, w'.frozen? ⟨sb, o, none⟩ = w.frozen? ⟨sb, o, none⟩ := fun o => World.frozen?_of_block (hb sb (Nat.le_refl _))
  refine ⟨a, len, cap, at_, mix, size, ⟨(ce 0).trans c0, (ce 1).trans c1, (ce 2).trans c2, (ce 3).trans c3, (fe 0).trans f0, (fe 1).trans f1, (fe 2).trans f2, (fe 3).trans f3⟩, h1, h2, h3, h4, h5, fun i hi => ?_⟩
  obtain ⟨cb, co, z, e, hne, hc, z0, z1⟩ := h6 i hi
  exact ⟨cb, co, z, e, hne, (World.cell?_of_block (a := ⟨cb, co + i, none⟩) (hb cb (by omega))).trans hc, z0, z1⟩

/-- What the drawing of a list keeps: the list so far, the source, the old memory. -/
def FL (w : World) (sb : Nat) (v : Value) (zs : List Nat) (W : World) : Prop := Own w.heap.size v zs W ∧ Drew sb w W ∧ sb < w.heap.size
theorem FL.draw {w : World} {sb : Nat} {v : Value} {zs : List Nat} {W W' : World} (h : FL w sb v zs W) (hd : Drew sb W W') : FL w sb v zs W' :=
  ⟨h.1.chg h.2.2 hd.2, ⟨hd.1, h.2.1.2.trans hd.2⟩, h.2.2⟩
theorem FL.push {w : World} {sb : Nat} {v v' : Value} {zs : List Nat} {x : Nat} {W W' : World} {o : Obj} (h : FL w sb v zs W) (hg : (W.alloc o).grownBy W' v.ownBlock)
    (hown : W'.ownsRow w.heap.size 27 1 v' (zs.length + 1) (zs.map (Value.float .f64) ++ [.float .f64 x])) (hnil : ¬ v' = .slice none 0 0) : FL w sb v' (zs ++ [x]) W' := by
  have hz := h.2.1.2.size
  have hrow : ∀ k, v.ownBlock = some k → w.heap.size ≤ k := fun k e => (h.1.1.lt k e).1
  have hk : ∀ k, k < w.heap.size → W'.heap[k]? = W.heap[k]? := fun k hk => by
    rw [hg.block k (by simp; omega) (fun e => by have := hrow k e.symm; omega)]
    exact Go.Deep.blk_alloc_lt _ _ _ (by omega)
  refine ⟨⟨by simpa using hown, hnil⟩, ⟨h.2.1.1.same (fun k hk2 => hk k (by have := h.2.2; omega)), ?_⟩, h.2.2⟩
  exact ⟨hg.os.trans h.2.1.2.1, hg.tape.trans h.2.1.2.2.1, hg.output.trans h.2.1.2.2.2.1, by have := hg.size; simp at this; omega, fun k hk1 hk2 => (hk k hk1).trans (h.2.1.2.2.2.2.2 k hk1 hk2)⟩

theorem fl_start {w : World} {sb : Nat} (h : Src sb w) : FL w sb (.slice (some ⟨w.heap.size, 0, none⟩) 0 0) [] (w.alloc (.cells #[] 27)) := by
  refine ⟨⟨⟨by simp, Or.inr ⟨w.heap.size, 0, #[], rfl, Nat.le_refl _, by show (w.heap.push _)[w.heap.size]? = _; simp, by simp, by simp, by simp, by simp⟩⟩, by simp⟩, ⟨h.below ((Below.refl _ _).alloc (Nat.le_refl _) _), Chg.of_below ((Below.refl _ _).alloc (Nat.le_refl _) _)⟩, h.lt⟩

end Go.Proofs.Ytlipgnjknfmikaa
