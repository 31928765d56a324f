/-
  What stands while an account's entries are drawn.
-/
import Derived.Test.YtnbnfifgajfomaaDoorBiLawD
import Derived.Test.YtnbnfifgajfomaaDoorBiAs
import Derived.Test.YtnbnfifgajfomaaDoorBiEx
import Derived.Test.YtnbnfifgajfomaaDoorRegL
namespace Go.Proofs.YtnbnfifgajfomaaDoor
open Go.RowKit Go.Deep

theorem own_far {w w' : World} {B : Nat} {e : TypeId} {s : Nat} {v : Value} {n : Nat} {xs : List Value} (h : w.ownsRow B e s v n xs) (hb : ∀ k, v.ownBlock = some k → k < w.heap.size → w'.heap[k]? = w.heap[k]?) : w'.ownsRow B e s v n xs := by
  refine ⟨h.1, ?_⟩
  rcases h.2 with h2 | ⟨g, cap, cur, e1, e2, e3, e4⟩
  · exact Or.inl h2
  · refine Or.inr ⟨g, cap, cur, e1, e2, ?_, e4⟩
    have hl := (h.lt g (by rw [e1]; rfl)).2
    rw [hb g (by rw [e1]; rfl) hl]; exact e3
theorem src_keep {sb : Nat} {w w' : World} (h : Src sb w) (hb : ∀ k, k ≤ sb → w'.heap[k]? = w.heap[k]?) : Src sb w' := by
  obtain ⟨a, len, cap, at_, mix, size, ⟨c0, c1, c2, c3, f0, f1, f2, f3⟩, h1, h2, h3, h4, h5, h6⟩ := h
  have ce : ∀ o, w'.cell? ⟨sb, o, none⟩ = w.cell? ⟨sb, o, none⟩ := fun o => World.cell?_of_block (hb sb (Nat.le_refl _))
  have fe : ∀ o, w'.frozen? ⟨sb, o, none⟩ = w.frozen? ⟨sb, o, none⟩ := fun o => World.frozen?_of_block (hb sb (Nat.le_refl _))
  refine ⟨a, len, cap, at_, mix, size, ⟨(ce 0).trans c0, (ce 1).trans c1, (ce 2).trans c2, (ce 3).trans c3, (fe 0).trans f0, (fe 1).trans f1, (fe 2).trans f2, (fe 3).trans f3⟩, h1, h2, h3, h4, h5, fun i hi => ?_⟩
  obtain ⟨cb, co, z, e, hne, hc, z0, z1⟩ := h6 i hi
  exact ⟨cb, co, z, e, hne, (World.cell?_of_block (a := ⟨cb, co + i, none⟩) (hb cb (by omega))).trans hc, z0, z1⟩
def iv (zs : List Int) : List Value := zs.map (Value.int .i64)
theorem iv_get {zs : List Int} {j : Nat} (h : j < zs.length) : (iv zs)[j]? = some (.int .i64 (qf zs j)) := by
  unfold iv qf
  rw [List.getElem?_map, List.getD_eq_getElem?_getD, List.getElem?_eq_getElem h]
  rfl
theorem iv_two (zs : List Int) (k m : Int) : iv (zs ++ [k, m]) = iv zs ++ [.int .i64 k, .int .i64 m] := by unfold iv; rw [List.map_append]; rfl
/-- A list that a call owns, opened. -/
theorem ls_of {T : TypeId} {s B n : Nat} {zs : List Int} {v : Value} {W : World} (h : W.ownsRow B T s v n (iv zs)) : ∃ a c, v = .slice a n c ∧ LsOwn T s B n a c (qf zs) W := by
  have hl : zs.length = n * s := by have := h.1; unfold iv at this; simpa using this
  rcases h.2 with h2 | ⟨g, cap, cur, e1, e2, e3, e4, e5, e6, e7⟩
  · exact ⟨none, 0, by rw [h2.1, h2.2], Or.inl ⟨rfl, h2.2, rfl⟩⟩
  · have hcs : n * s ≤ cap * s := Nat.mul_le_mul_right _ (by omega)
    refine ⟨_, _, e1, Or.inr ⟨g, rfl, e2, cap * s, fun i => cur[i]?.getD undef, hcs, ⟨cur, e3, by simpa using e6, fun i hi => ?_⟩, fun j hj => ?_⟩⟩
    · show cur[i]? = some (cur[i]?.getD undef)
      rw [Array.getElem?_eq_getElem (by omega)]
      rfl
    · have h1 : (cur.toList.take (n * s))[j]? = (iv zs)[j]? := by rw [e7]
      rw [List.getElem?_take, if_pos (by omega), Array.getElem?_toList] at h1
      show cur[j]?.getD undef = _
      rw [h1, iv_get (by omega)]
      rfl
/-- The source, and the list. -/
structure DaS (lv : Value) (n : Nat) (zs : List Int) (w W : World) : Prop where
  src : Src w.heap.size W
  bel : Below w.heap.size w W
  own : W.ownsRow (w.heap.size + 1) 41 2 lv n (iv zs)
/-- And an entry. -/
structure DeS (lv : Value) (n : Nat) (zs : List Int) (xb : Nat) (k m : Int) (w W : World) : Prop where
  d : DaS lv n zs w W
  row : W.rowIs xb 41 2 (rowN [.int .i64 k, .int .i64 m])
  x1 : w.heap.size < xb
  x2 : lv.ownBlock ≠ some xb
section
variable {lv : Value} {n : Nat} {zs : List Int} {xb : Nat} {k m : Int} {w W W' : World}
theorem DaS.drew (h : DaS lv n zs w W) (hd : Drew w.heap.size W W') : DaS lv n zs w W' :=
  ⟨hd.1, h.bel.trans (hd.2.below (Nat.le_refl _) h.bel.size), own_far h.own (fun g e hg => hd.2.2.2.2.2 g hg (by have := (h.own.lt g e).1; omega))⟩
theorem DaS.below (h : DaS lv n zs w W) (hb : Below W.heap.size W W') : DaS lv n zs w W' :=
  ⟨h.src.below hb, h.bel.trans (hb.mono h.bel.size), own_far h.own (fun g _ hg => hb.block g hg)⟩
theorem DaS.set (h : DaS lv n zs w W) (h1 : w.heap.size < xb) (h2 : lv.ownBlock ≠ some xb) (i : Nat) (u : Value) : DaS lv n zs w (W.setCell ⟨xb, i, none⟩ u) := by
  have e : ∀ g, g ≠ xb → (W.setCell ⟨xb, i, none⟩ u).heap[g]? = W.heap[g]? := fun g hg => Below.heap_setCell _ _ _ _ hg
  exact ⟨src_keep h.src (fun g hg => e g (by omega)), h.bel.trans ((Below.refl _ _).setCell (p := ⟨xb, i, none⟩) (Nat.le_of_lt h1) _), own_far h.own (fun g hg _ => e g (fun e2 => h2 (by rw [hg, e2])))⟩
theorem DeS.drew (h : DeS lv n zs xb k m w W) (hd : Drew w.heap.size W W') : DeS lv n zs xb k m w W' :=
  ⟨h.d.drew hd, h.row.of_block (hd.2.2.2.2.2 _ h.row.lt (by have := h.x1; omega)), h.x1, h.x2⟩
theorem DeS.below (h : DeS lv n zs xb k m w W) (hb : Below W.heap.size W W') : DeS lv n zs xb k m w W' := ⟨h.d.below hb, nrow_below h.row hb, h.x1, h.x2⟩
theorem DeS.kind (h : DeS lv n zs xb k m w W) (k' : Int) : DeS lv n zs xb k' m w (W.setCell ⟨xb, 0, none⟩ (.int .i64 k')) := ⟨h.d.set h.x1 h.x2 0 _, rowN_put h.row 0 _ (by simp), h.x1, h.x2⟩
theorem DeS.money (h : DeS lv n zs xb k m w W) (m' : Int) : DeS lv n zs xb k m' w (W.setCell ⟨xb, 1, none⟩ (.int .i64 m')) := ⟨h.d.set h.x1 h.x2 1 _, rowN_put h.row 1 _ (by simp), h.x1, h.x2⟩
theorem DaS.push {v' : Value} {o : Obj} (h : DaS lv n zs w W) (hg : (W.alloc o).grownBy W' lv.ownBlock) (hown : W'.ownsRow (w.heap.size + 1) 41 2 v' (n + 1) (iv zs ++ [.int .i64 k, .int .i64 m])) : DaS v' (n + 1) (zs ++ [k, m]) w W' := by
  have hz := h.src.lt
  have hk : ∀ g, g ≤ w.heap.size → W'.heap[g]? = W.heap[g]? := fun g hk => by
    rw [hg.block g (by simp; omega) (fun e => by have := (h.own.lt g e.symm).1; omega)]
    exact (nbel_alloc W o).block g (by omega)
  refine ⟨src_keep h.src hk, h.bel.trans ⟨hg.os, hg.tape, hg.output, by have := hg.size; simp at this; omega, fun g hg2 => hk g (by omega)⟩, by rw [iv_two]; exact hown⟩
end
end Go.Proofs.YtnbnfifgajfomaaDoor
