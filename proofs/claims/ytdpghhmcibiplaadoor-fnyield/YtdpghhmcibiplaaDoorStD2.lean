/-
  The draw of a store: what it keeps.
-/
import Derived.Test.YtdpghhmcibiplaaDoorStDr
import Derived.Test.YtdpghhmcibiplaaDoorReg
import Derived.Deep.Cut
namespace Go.Proofs.YtdpghhmcibiplaaDoor
open Go.RowKit Go.Deep

def d3 (a b c : Value) : Nat → Value := fun i => if i = 0 then a else if i = 1 then b else c
theorem three {i : Nat} (h : i < 3) : i = 0 ∨ i = 1 ∨ i = 2 := by omega
theorem drow3 (w : World) (a b c : Value) (t : TypeId) : (w.alloc (.cells #[a, b, c] t)).rowIs w.heap.size t 3 (d3 a b c) := by
  refine ⟨_, blk_alloc_new _ _, rfl, fun i hi => ?_⟩
  rcases three hi with rfl | rfl | rfl <;> rfl
theorem d3_cells {w : World} {g : Nat} {t : TypeId} {a b c : Value} (h : w.rowIs g t 3 (d3 a b c)) : (w.cell? ⟨g, 0, none⟩ = some a ∧ w.cell? ⟨g, 1, none⟩ = some b ∧ w.cell? ⟨g, 2, none⟩ = some c) ∧ (w.frozen? ⟨g, 0, none⟩ = false ∧ w.frozen? ⟨g, 1, none⟩ = false ∧ w.frozen? ⟨g, 2, none⟩ = false) :=
  ⟨⟨h.cell (i := 0) (by omega), h.cell (i := 1) (by omega), h.cell (i := 2) (by omega)⟩, h.frozen 0, h.frozen 1, h.frozen 2⟩
theorem d3_set0 {w : World} {g : Nat} {t : TypeId} {a b c : Value} (h : w.rowIs g t 3 (d3 a b c)) (x : Value) : (w.setCell ⟨g, 0, none⟩ x).rowIs g t 3 (d3 x b c) := by
  obtain ⟨cur, h1, h2, h3⟩ := h.set 0 x
  refine ⟨cur, h1, h2, fun i hi => ?_⟩
  rw [h3 i hi]
  rcases three hi with rfl | rfl | rfl <;> rfl
theorem d3_set1 {w : World} {g : Nat} {t : TypeId} {a b c : Value} (h : w.rowIs g t 3 (d3 a b c)) (x : Value) : (w.setCell ⟨g, 1, none⟩ x).rowIs g t 3 (d3 a x c) := by
  obtain ⟨cur, h1, h2, h3⟩ := h.set 1 x
  refine ⟨cur, h1, h2, fun i hi => ?_⟩
  rw [h3 i hi]
  rcases three hi with rfl | rfl | rfl <;> rfl
theorem d3_set2 {w : World} {g : Nat} {t : TypeId} {a b c : Value} (h : w.rowIs g t 3 (d3 a b c)) (x : Value) : (w.setCell ⟨g, 2, none⟩ x).rowIs g t 3 (d3 a b x) := by
  obtain ⟨cur, h1, h2, h3⟩ := h.set 2 x
  refine ⟨cur, h1, h2, fun i hi => ?_⟩
  rw [h3 i hi]
  rcases three hi with rfl | rfl | rfl <;> rfl
/-- What is drawn stays drawn where old memory stays. -/
theorem Drew.same {sb : Nat} {w W W' : World} (h : Drew sb w W) (hl : sb < w.heap.size) (h1 : W'.os = W.os) (h2 : W'.tape = W.tape) (h3 : W'.output = W.output) (h4 : W.heap.size ≤ W'.heap.size) (hk : ∀ k, k < w.heap.size → W'.heap[k]? = W.heap[k]?) : Drew sb w W' :=
  ⟨h.1.keep (fun k hk2 => hk k (by omega)), h1.trans h.2.1, h2.trans h.2.2.1, h3.trans h.2.2.2.1, Nat.le_trans h.2.size h4, fun k hk1 hk2 => (hk k hk1).trans (h.2.2.2.2.2 k hk1 hk2)⟩
theorem Drew.set {sb : Nat} {w W : World} (h : Drew sb w W) (hl : sb < w.heap.size) {p : Addr} (hp : w.heap.size ≤ p.block) (x : Value) : Drew sb w (W.setCell p x) :=
  h.same hl rfl rfl rfl (by simp [World.setCell]) (fun k hk => Below.heap_setCell _ _ _ _ (by omega))
theorem Drew.step {sb : Nat} {w W W' : World} (h : Drew sb w W) (hd : Drew sb W W') : Drew sb w W' := ⟨hd.1, h.2.trans hd.2⟩
theorem Drew.alloc {sb : Nat} {w W : World} (h : Drew sb w W) (o : Obj) : Drew sb w (W.alloc o) := by
  have hb : Below W.heap.size W (W.alloc o) := (Below.refl _ _).alloc (Nat.le_refl _) _
  exact ⟨h.1.below hb, h.2.trans (Chg.of_below hb)⟩
/-- What the drawing of a store keeps. -/
structure SD (w : World) (sb : Nat) (cv rv : Value) (zs ys : List St.Pr) (v : Int) (W : World) : Prop where
  box : W.rowIs (w.heap.size + 1) 66 3 (d3 cv rv (.int .i64 v))
  res : W.rowIs w.heap.size 66 3 (d3 (.slice none 0 0) (.slice none 0 0) (.int .i64 0))
  cu : W.ownsRow (w.heap.size + 2) 156 2 cv zs.length (zs.flatMap prCells)
  ru : W.ownsRow (w.heap.size + 2) 78 2 rv ys.length (ys.flatMap prCells)
  dr : Drew sb w W
  lt : sb < w.heap.size
section
variable {w : World} {sb : Nat} {cv rv : Value} {zs ys : List St.Pr} {v : Int} {W W' : World}
theorem SD.draw (h : SD w sb cv rv zs ys v W) (hd : Drew sb W W') : SD w sb cv rv zs ys v W' := by
  have hl := h.lt
  exact ⟨h.box.of_block (hd.2.2.2.2.2 _ h.box.lt (by omega)), h.res.of_block (hd.2.2.2.2.2 _ h.res.lt (by omega)), ownFar h.cu (fun k hk hl2 => hd.2.2.2.2.2 k hl2 (by have := (h.cu.lt k hk).1; omega)), ownFar h.ru (fun k hk hl2 => hd.2.2.2.2.2 k hl2 (by have := (h.ru.lt k hk).1; omega)), h.dr.step hd, h.lt⟩
theorem SD.alloc (h : SD w sb cv rv zs ys v W) (o : Obj) : SD w sb cv rv zs ys v (W.alloc o) :=
  ⟨h.box.of_block (blk_alloc_lt _ _ _ h.box.lt), h.res.of_block (blk_alloc_lt _ _ _ h.res.lt), h.cu.alloc _, h.ru.alloc _, h.dr.alloc _, h.lt⟩
theorem SD.setV (h : SD w sb cv rv zs ys v W) (x : Int) : SD w sb cv rv zs ys x (W.setCell ⟨w.heap.size + 1, 2, none⟩ (.int .i64 x)) := by
  have blk : ∀ k, k ≠ w.heap.size + 1 → (W.setCell ⟨w.heap.size + 1, 2, none⟩ (.int .i64 x)).heap[k]? = W.heap[k]? := fun k hk => Below.heap_setCell _ _ _ _ hk
  exact ⟨d3_set2 h.box _, h.res.of_block (blk _ (by omega)), ownFar h.cu (fun k hk _ => blk k (by have := (h.cu.lt k hk).1; omega)), ownFar h.ru (fun k hk _ => blk k (by have := (h.ru.lt k hk).1; omega)), h.dr.set h.lt (p := ⟨w.heap.size + 1, 2, none⟩) (by show w.heap.size ≤ w.heap.size + 1; omega) _, h.lt⟩
/-- The lists of marks and of rules lie in two blocks. -/
theorem SD.two (h : SD w sb cv rv zs ys v W) {k : Nat} (h1 : cv.ownBlock = some k) (h2 : rv.ownBlock = some k) : False := by
  rcases h.cu.2 with ⟨e, _⟩ | ⟨g, cap, cur, e1, _, e3, _⟩
  · rw [e] at h1; cases h1
  · rcases h.ru.2 with ⟨e, _⟩ | ⟨g', cap', cur', e1', _, e3', _⟩
    · rw [e] at h2; cases h2
    · rw [e1] at h1; rw [e1'] at h2
      obtain rfl : g = k := by simpa [Value.ownBlock] using h1
      obtain rfl : g' = g := by simpa [Value.ownBlock] using h2
      rw [e3] at e3'
      simp at e3'
end
theorem SD.pushC {w : World} {sb : Nat} {cv rv nv : Value} {zs ys : List St.Pr} {x : St.Pr} {v : Int} {W W' : World} {o : Obj} (h : SD w sb cv rv zs ys v W) (hg : (W.alloc o).grownBy W' cv.ownBlock)
    (hown : W'.ownsRow (w.heap.size + 2) 156 2 nv (zs.length + 1) (zs.flatMap prCells ++ prCells x)) : SD w sb nv rv (zs ++ [x]) ys v (W'.setCell ⟨w.heap.size + 1, 0, none⟩ nv) := by
  have hz : w.heap.size + 2 ≤ W.heap.size := h.box.lt
  have far : ∀ k, k < W.heap.size → cv.ownBlock ≠ some k → W'.heap[k]? = W.heap[k]? := fun k hk hn => by
    rw [hg.block k (by simp; omega) (fun e => hn e.symm)]
    exact blk_alloc_lt _ _ _ hk
  have low : ∀ k, k < w.heap.size + 2 → cv.ownBlock ≠ some k := fun k hk e => by have := (h.cu.lt k e).1; omega
  have blk : ∀ k, k ≠ w.heap.size + 1 → (W'.setCell ⟨w.heap.size + 1, 0, none⟩ nv).heap[k]? = W'.heap[k]? := fun k hk => Below.heap_setCell _ _ _ _ hk
  have hbox : W'.rowIs (w.heap.size + 1) 66 3 (d3 cv rv (.int .i64 v)) := h.box.of_block (far _ h.box.lt (low _ (by omega)))
  have hres : W'.rowIs w.heap.size 66 3 (d3 (.slice none 0 0) (.slice none 0 0) (.int .i64 0)) := h.res.of_block (far _ h.res.lt (low _ (by omega)))
  have hnew : (W'.setCell ⟨w.heap.size + 1, 0, none⟩ nv).ownsRow (w.heap.size + 2) 156 2 nv (zs ++ [x]).length ((zs ++ [x]).flatMap prCells) := by
    rw [List.flatMap_append, List.length_append]
    exact ownFar (by simpa using hown) (fun k hk _ => blk k (by have := (hown.lt k hk).1; omega))
  have hold : (W'.setCell ⟨w.heap.size + 1, 0, none⟩ nv).ownsRow (w.heap.size + 2) 78 2 rv ys.length (ys.flatMap prCells) :=
    ownFar h.ru (fun k hk hl => (blk k (by have := (h.ru.lt k hk).1; omega)).trans (far k hl (fun e => h.two e hk)))
  refine ⟨d3_set0 hbox _, hres.of_block (blk _ (by omega)), hnew, hold, ?_, h.lt⟩
  have hd : Drew sb w W' := h.dr.same h.lt hg.os hg.tape hg.output (by have := hg.size; simp at this; omega) (fun k hk => far k (by omega) (low k (by omega)))
  exact hd.set h.lt (p := ⟨w.heap.size + 1, 0, none⟩) (by show w.heap.size ≤ w.heap.size + 1; omega) _
theorem SD.pushR {w : World} {sb : Nat} {cv rv nv : Value} {zs ys : List St.Pr} {x : St.Pr} {v : Int} {W W' : World} {o : Obj} (h : SD w sb cv rv zs ys v W) (hg : (W.alloc o).grownBy W' rv.ownBlock)
    (hown : W'.ownsRow (w.heap.size + 2) 78 2 nv (ys.length + 1) (ys.flatMap prCells ++ prCells x)) : SD w sb cv nv zs (ys ++ [x]) v (W'.setCell ⟨w.heap.size + 1, 1, none⟩ nv) := by
  have hz : w.heap.size + 2 ≤ W.heap.size := h.box.lt
  have far : ∀ k, k < W.heap.size → rv.ownBlock ≠ some k → W'.heap[k]? = W.heap[k]? := fun k hk hn => by
    rw [hg.block k (by simp; omega) (fun e => hn e.symm)]
    exact blk_alloc_lt _ _ _ hk
  have low : ∀ k, k < w.heap.size + 2 → rv.ownBlock ≠ some k := fun k hk e => by have := (h.ru.lt k e).1; omega
  have blk : ∀ k, k ≠ w.heap.size + 1 → (W'.setCell ⟨w.heap.size + 1, 1, none⟩ nv).heap[k]? = W'.heap[k]? := fun k hk => Below.heap_setCell _ _ _ _ hk
  have hbox : W'.rowIs (w.heap.size + 1) 66 3 (d3 cv rv (.int .i64 v)) := h.box.of_block (far _ h.box.lt (low _ (by omega)))
  have hres : W'.rowIs w.heap.size 66 3 (d3 (.slice none 0 0) (.slice none 0 0) (.int .i64 0)) := h.res.of_block (far _ h.res.lt (low _ (by omega)))
  have hnew : (W'.setCell ⟨w.heap.size + 1, 1, none⟩ nv).ownsRow (w.heap.size + 2) 78 2 nv (ys ++ [x]).length ((ys ++ [x]).flatMap prCells) := by
    rw [List.flatMap_append, List.length_append]
    exact ownFar (by simpa using hown) (fun k hk _ => blk k (by have := (hown.lt k hk).1; omega))
  have hold : (W'.setCell ⟨w.heap.size + 1, 1, none⟩ nv).ownsRow (w.heap.size + 2) 156 2 cv zs.length (zs.flatMap prCells) :=
    ownFar h.cu (fun k hk hl => (blk k (by have := (h.cu.lt k hk).1; omega)).trans (far k hl (fun e => h.two hk e)))
  refine ⟨d3_set1 hbox _, hres.of_block (blk _ (by omega)), hold, hnew, ?_, h.lt⟩
  have hd : Drew sb w W' := h.dr.same h.lt hg.os hg.tape hg.output (by have := hg.size; simp at this; omega) (fun k hk => far k (by omega) (low k (by omega)))
  exact hd.set h.lt (p := ⟨w.heap.size + 1, 1, none⟩) (by show w.heap.size ≤ w.heap.size + 1; omega) _
/-- Pairs of a call's own, from a block on. -/
def OwnPrs (B : Nat) (a : Option Addr) (n : Nat) (ps : Nat → St.Pr) (W : World) : Prop := n = 0 ∨ ∃ g, a = some ⟨g, 0, none⟩ ∧ B ≤ g ∧ ∀ i, i < n → PrCells g (i * 2) (ps i) W
theorem OwnPrs.at_ {B : Nat} {a : Option Addr} {n : Nat} {ps : Nat → St.Pr} {W : World} (h : OwnPrs B a n ps W) : PrsAt a n ps W := by
  rcases h with h | ⟨g, e, _, h⟩
  · exact Or.inl h
  · exact Or.inr ⟨g, e, h⟩
theorem OwnPrs.same {B : Nat} {a : Option Addr} {n : Nat} {ps : Nat → St.Pr} {W W' : World} (h : OwnPrs B a n ps W) (hb : ∀ k, B ≤ k → k < W.heap.size → W'.heap[k]? = W.heap[k]?) : OwnPrs B a n ps W' := by
  rcases h with h | ⟨g, e, hg, h⟩
  · exact Or.inl h
  · exact Or.inr ⟨g, e, hg, fun i hi => (h i hi).block (hb g hg (h i hi).lt)⟩
theorem own_own {ty : TypeId} {B : Nat} {v : Value} {zs : List St.Pr} {W : World} (h : W.ownsRow B ty 2 v zs.length (zs.flatMap prCells)) : ∃ a k, v = .slice a zs.length k ∧ OwnPrs B a zs.length (prList zs) W := by
  rcases own_prs h with ⟨e, hz⟩ | ⟨g, cap, e, hg, hb⟩
  · subst hz; exact ⟨none, 0, e, Or.inl rfl⟩
  · exact ⟨_, cap, e, Or.inr ⟨g, rfl, hg, fun i hi => hb.cells hi⟩⟩
end Go.Proofs.YtdpghhmcibiplaaDoor
