/-
  The contracts of the draws of flows: a number, a list of them.
-/
import Derived.Test.YtcjeieagpcphjaaDoorStMem
import Derived.Test.YtcjeieagpcphjaaDoorSource
namespace Go.Proofs.YtcjeieagpcphjaaDoor
open Go.RowKit Go.Deep

theorem ownFar {w w' : World} {B : Nat} {e : TypeId} {s : Nat} {v : Value} {n : Nat} {xs : List Value} (h : w.ownsRow B e s v n xs) (hb : ∀ k, v.ownBlock = some k → k < w.heap.size → w'.heap[k]? = w.heap[k]?) : w'.ownsRow B e s v n xs := by
  refine ⟨h.1, ?_⟩
  rcases h.2 with h2 | ⟨g, cap, cur, e1, e2, e3, e4⟩
  · exact Or.inl h2
  · refine Or.inr ⟨g, cap, cur, e1, e2, ?_, e4⟩
    have hl := (h.lt g (by rw [e1]; rfl)).2
    rw [hb g (by rw [e1]; rfl) hl]; exact e3
theorem ownShape {w : World} {B : Nat} {e : TypeId} {s : Nat} {v : Value} {n : Nat} {xs : List Value} (h : w.ownsRow B e s v n xs) : ∃ a k, v = .slice a n k := by
  rcases h.2 with ⟨h1, h2⟩ | ⟨g, cap, cur, e1, _⟩
  · exact ⟨none, 0, by rw [h1, h2]⟩
  · exact ⟨_, cap, e1⟩
theorem Src.keep {sb : Nat} {w w' : World} (h : Src sb w) (hb : ∀ k, k ≤ sb → w'.heap[k]? = w.heap[k]?) : Src sb w' := by
  obtain ⟨a, len, cap, at_, mix, size, ⟨c0, c1, c2, c3, f0, f1, f2, f3⟩, h1, h2, h3, h4, h5, h6⟩ := h
  have ce : ∀ o, w'.cell? ⟨sb, o, none⟩ = w.cell? ⟨sb, o, none⟩ := fun o => World.cell?_of_block (hb sb (Nat.le_refl _))
  have fe : ∀ o, w'.frozen? ⟨sb, o, none⟩ = w.frozen? ⟨sb, o, none⟩ := fun o => World.frozen?_of_block (hb sb (Nat.le_refl _))
  refine ⟨a, len, cap, at_, mix, size, ⟨(ce 0).trans c0, (ce 1).trans c1, (ce 2).trans c2, (ce 3).trans c3, (fe 0).trans f0, (fe 1).trans f1, (fe 2).trans f2, (fe 3).trans f3⟩, h1, h2, h3, h4, h5, fun i hi => ?_⟩
  obtain ⟨cb, co, z, e, hne, hc, z0, z1⟩ := h6 i hi
  exact ⟨cb, co, z, e, hne, (World.cell?_of_block (a := ⟨cb, co + i, none⟩) (hb cb (by omega))).trans hc, z0, z1⟩

/-- What the drawing of a list keeps: the list so far, the source, the old memory. -/
def IL (w : World) (sb : Nat) (v : Value) (zs : List Int) (W : World) : Prop := W.ownsRow w.heap.size 2 1 v zs.length (zs.map (Value.int .i64)) ∧ Drew sb w W ∧ sb < w.heap.size
theorem IL.draw {w : World} {sb : Nat} {v : Value} {zs : List Int} {W W' : World} (h : IL w sb v zs W) (hd : Drew sb W W') : IL w sb v zs W' :=
  ⟨ownFar h.1 (fun k hk hl => hd.2.2.2.2.2 k hl (by have := (h.1.lt k hk).1; have := h.2.2; omega)), ⟨hd.1, h.2.1.2.trans hd.2⟩, h.2.2⟩
theorem IL.push {w : World} {sb : Nat} {v v' : Value} {zs : List Int} {x : Int} {W W' : World} {o : Obj} (h : IL w sb v zs W) (hg : (W.alloc o).grownBy W' v.ownBlock)
    (hown : W'.ownsRow w.heap.size 2 1 v' (zs.length + 1) (zs.map (Value.int .i64) ++ [.int .i64 x])) : IL w sb v' (zs ++ [x]) W' := by
  have hz := h.2.1.2.size
  have hrow : ∀ k, v.ownBlock = some k → w.heap.size ≤ k := fun k e => (h.1.lt k e).1
  have hk : ∀ k, k < w.heap.size → W'.heap[k]? = W.heap[k]? := fun k hk => by
    rw [hg.block k (by simp; omega) (fun e => by have := hrow k e.symm; omega)]
    exact blk_alloc_lt _ _ _ (by omega)
  refine ⟨by simpa using hown, ⟨h.2.1.1.keep (fun k hk2 => hk k (by have := h.2.2; omega)), ?_⟩, h.2.2⟩
  exact ⟨hg.os.trans h.2.1.2.1, hg.tape.trans h.2.1.2.2.1, hg.output.trans h.2.1.2.2.2.1, by have := hg.size; simp at this; omega, fun k hk1 hk2 => (hk k hk1).trans (h.2.1.2.2.2.2.2 k hk1 hk2)⟩
theorem il_start {w : World} {sb : Nat} (h : Src sb w) : IL w sb (.slice (some ⟨w.heap.size, 0, none⟩) 0 0) [] (w.alloc (.cells #[] 2)) :=
  ⟨World.ownsRow_made w #[] 0 (Nat.le_refl _) (Nat.zero_le _) rfl, ⟨h.below ((Below.refl _ _).alloc (Nat.le_refl _) _), Chg.of_below ((Below.refl _ _).alloc (Nat.le_refl _) _)⟩, h.lt⟩

theorem IL.alloc {w : World} {sb : Nat} {v : Value} {zs : List Int} {W : World} (h : IL w sb v zs W) (o : Obj) : IL w sb v zs (W.alloc o) := by
  have hb : Below W.heap.size W (W.alloc o) := (Below.refl _ _).alloc (Nat.le_refl _) _
  exact ⟨h.1.alloc _, ⟨h.2.1.1.below hb, h.2.1.2.trans (Chg.of_below hb)⟩, h.2.2⟩
theorem dinfo_i64 : (Tryd.prog.info? 2).map (fun i => (i.zero, i.size, i.bytes)) = some (some (.int .i64 0), 1, 8) := by kernel_rfl
/-- One of some numbers in a new block. -/
theorem oneOf {W W' : World} {sb g : Nat} {z : Int} {n : Nat} (c : Array Value) (T : TypeId) (hc : ∀ i, i < c.size → ∃ x : Int, c[i]? = some (.int .i64 x)) (hg : W.heap[g]? = some (.cells c T)) (hs : c.size = n) (hd : Drew sb W W') (hne : g ≠ sb) (z0 : 0 ≤ z) (z1 : z < n) : ∃ x : Int, W'.cell? ⟨g, z.toNat, none⟩ = some (.int .i64 x) := by
  have hlt : g < W.heap.size := (Array.getElem?_eq_some_iff.1 hg).1
  obtain ⟨x, hx⟩ := hc z.toNat (by omega)
  refine ⟨x, ?_⟩
  rw [hd.2.cell (p := ⟨g, z.toNat, none⟩) hlt hne]
  simp only [World.cell?, hg]
  exact hx
end Go.Proofs.YtcjeieagpcphjaaDoor
