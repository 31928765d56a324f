/-
  A list of uses that grows; what stands in a run of a meter.
-/
import Derived.Test.YtmejmpdljckfgaaDoorMtLo
import Derived.Laws.AppendOwn
namespace Go.Proofs.YtmejmpdljckfgaaDoor
open Go.RowKit Go.Deep

def isV4 (f : Nat → Int) (n : Nat) : List Value := (List.range (n * 4)).map (fun j => .int .i64 (f j))
theorem isV4_len (f : Nat → Int) (n : Nat) : (isV4 f n).length = n * 4 := by simp [isV4]
theorem isV4_get (f : Nat → Int) (n : Nat) {j : Nat} (hj : j < n * 4) : (isV4 f n)[j]? = some (.int .i64 (f j)) := by simp [isV4, hj]
theorem isV4_succ (f : Nat → Int) (n : Nat) : isV4 f (n + 1) = isV4 f n ++ [.int .i64 (f (n * 4)), .int .i64 (f (n * 4 + 1)), .int .i64 (f (n * 4 + 2)), .int .i64 (f (n * 4 + 3))] := by
  unfold isV4
  rw [Nat.succ_mul, List.range_succ, List.range_succ, List.range_succ, List.range_succ]
  simp
/-- A list of uses that is owned. -/
def UsR (B : Nat) (v : Value) (n : Nat) (f : Nat → Int) (W : World) : Prop := W.ownsRow B 33 4 v n (isV4 f n)
theorem UsR.nil (B : Nat) (f : Nat → Int) (W : World) : UsR B (.slice none 0 0) 0 f W := World.ownsRow_nil _ _ _ _
theorem UsR.keep {B : Nat} {v : Value} {n : Nat} {f : Nat → Int} {W W' : World} (h : UsR B v n f W) (hb : ∀ g, v.ownBlock = some g → g < W.heap.size → W'.heap[g]? = W.heap[g]?) : UsR B v n f W' := by
  refine ⟨h.1, ?_⟩
  rcases h.2 with h2 | ⟨g, cap, cur, e1, e2, e3, e4⟩
  · exact Or.inl h2
  · exact Or.inr ⟨g, cap, cur, e1, e2, (hb g (by rw [e1]; rfl) (by have := Array.getElem?_eq_some_iff.1 e3; exact this.1)).trans e3, e4⟩
theorem UsR.below {B : Nat} {v : Value} {n : Nat} {f : Nat → Int} {W W' : World} (h : UsR B v n f W) (hb : Below W.heap.size W W') : UsR B v n f W' := h.keep (fun g _ hg => hb.block g hg)
theorem UsR.shape {B : Nat} {v : Value} {n : Nat} {f : Nat → Int} {W : World} (h : UsR B v n f W) : ∃ a c, v = .slice a n c := by
  rcases h.2 with ⟨h1, h2⟩ | ⟨g, cap, cur, e1, _⟩
  · exact ⟨none, 0, by rw [h1, h2]⟩
  · exact ⟨_, _, e1⟩
theorem UsR.ne {B : Nat} {v : Value} {n : Nat} {f : Nat → Int} {W : World} {x m : Nat} {F : Nat → Value} (h : UsR B v n f W) (hr : W.rowIs x 30 m F) {g : Nat} (hg : v.ownBlock = some g) : g ≠ x := by
  rintro rfl
  rcases h.2 with ⟨h1, _⟩ | ⟨g', cap, cur, e1, e2, e3, _⟩
  · rw [h1] at hg; simp [Value.ownBlock] at hg
  · rw [e1] at hg
    simp [Value.ownBlock] at hg
    subst hg
    obtain ⟨c2, q2, _⟩ := hr
    rw [e3] at q2
    simp at q2
theorem UsR.own {B n c : Nat} {oa : Option Addr} {f : Nat → Int} {W : World} (h : UsR B (.slice oa n c) n f W) : UsOwn B n oa c f W := by
  rcases h.2 with ⟨h1, h2⟩ | ⟨g, cap, cur, e1, e2, e3, e4, e5, e6, e7⟩
  · cases h1; exact Or.inl ⟨rfl, rfl, rfl⟩
  · cases e1
    refine Or.inr ⟨g, rfl, e2, c * 4, fun i => cur[i]?.getD undef, by omega, ⟨cur, e3, e6, fun i hi => ?_⟩, fun j hj => ?_⟩
    · show cur[i]? = some (cur[i]?.getD undef)
      rw [Array.getElem?_eq_getElem (by omega)]
      rfl
    · have q : (cur.toList.take (n * 4))[j]? = (isV4 f n)[j]? := by rw [e7]
      rw [List.getElem?_take, if_pos hj, Array.getElem?_toList] at q
      show cur[j]?.getD undef = _
      rw [q, isV4_get f n hj]
      rfl
/-- What stands in a run of a meter. -/
structure RnS (w : World) (X : Mt.M) (v : Value) (i b4 b6 : Nat) (U : Nat → Int) (W : World) : Prop where
  o : W.rowIs b4 30 6 (rowN (muL Mt.none none 0 0 0))
  r : W.rowIs b6 30 6 (rowN [.int .i64 X.d, .int .i64 X.u, .int .i64 X.day, .int .i64 X.s, v, .int .i64 0])
  l : UsR w.heap.size v i U W
  lo : w.heap.size ≤ b4 ∧ b4 < b6
  old : Below w.heap.size w W
section
variable {w : World} {X : Mt.M} {v : Value} {i b4 b6 : Nat} {U : Nat → Int} {W W' : World}
theorem RnS.below (h : RnS w X v i b4 b6 U W) (hb : Below W.heap.size W W') : RnS w X v i b4 b6 U W' := ⟨nrow_below h.o hb, nrow_below h.r hb, h.l.below hb, h.lo, h.old.trans (hb.mono h.old.size)⟩
theorem RnS.meter (h : RnS w X v i b4 b6 U W) (Y : Mt.M) : RnS w Y v i b4 b6 U ((((W.setCell ⟨b6, 0, none⟩ (.int .i64 Y.d)).setCell ⟨b6, 1, none⟩ (.int .i64 Y.u)).setCell ⟨b6, 2, none⟩ (.int .i64 Y.day)).setCell ⟨b6, 3, none⟩ (.int .i64 Y.s)) := by
  have lo := h.lo
  have nb : ∀ k, k ≠ b6 → ((((W.setCell ⟨b6, 0, none⟩ (.int .i64 Y.d)).setCell ⟨b6, 1, none⟩ (.int .i64 Y.u)).setCell ⟨b6, 2, none⟩ (.int .i64 Y.day)).setCell ⟨b6, 3, none⟩ (.int .i64 Y.s)).heap[k]? = W.heap[k]? := fun k hk => by
    rw [Below.heap_setCell _ _ _ _ hk, Below.heap_setCell _ _ _ _ hk, Below.heap_setCell _ _ _ _ hk, Below.heap_setCell _ _ _ _ hk]
  exact ⟨h.o.of_block (nb _ (by omega)), rowN_put (rowN_put (rowN_put (rowN_put h.r 0 _ (by simp)) 1 _ (by simp)) 2 _ (by simp)) 3 _ (by simp), h.l.keep (fun g hg _ => nb g (h.l.ne h.r hg)), lo, (((h.old.setCell (p := ⟨b6, 0, none⟩) (by show w.heap.size ≤ b6; omega) _).setCell (p := ⟨b6, 1, none⟩) (by show w.heap.size ≤ b6; omega) _).setCell (p := ⟨b6, 2, none⟩) (by show w.heap.size ≤ b6; omega) _).setCell (p := ⟨b6, 3, none⟩) (by show w.heap.size ≤ b6; omega) _⟩
theorem RnS.push {v' : Value} (h : RnS w X v i b4 b6 U W) (hown : W'.ownsRow w.heap.size 33 4 v' (i + 1) (isV4 U i ++ [.int .i64 (U (i * 4)), .int .i64 (U (i * 4 + 1)), .int .i64 (U (i * 4 + 2)), .int .i64 (U (i * 4 + 3))])) (hg : W.grownBy W' v.ownBlock) :
    RnS w X v' (i + 1) b4 b6 U (W'.setCell ⟨b6, 4, none⟩ v') ∧ W'.rowIs b6 30 6 (rowN [.int .i64 X.d, .int .i64 X.u, .int .i64 X.day, .int .i64 X.s, v, .int .i64 0]) := by
  have lo := h.lo
  have hl : UsR w.heap.size v' (i + 1) U W' := by unfold UsR; rw [isV4_succ]; exact hown
  have ho : W'.rowIs b4 30 6 (rowN (muL Mt.none none 0 0 0)) := h.o.of_block (hg.block _ h.o.lt (fun e => h.l.ne h.o e.symm rfl))
  have hr : W'.rowIs b6 30 6 (rowN [.int .i64 X.d, .int .i64 X.u, .int .i64 X.day, .int .i64 X.s, v, .int .i64 0]) := h.r.of_block (hg.block _ h.r.lt (fun e => h.l.ne h.r e.symm rfl))
  have hb : Below w.heap.size w W' := h.old.grown hg h.old.size (fun k e => (World.ownsRow.lt h.l k e).1)
  exact ⟨⟨nrow_set ho (by show b4 ≠ b6; omega) _, rowN_put hr 4 v' (by simp), hl.keep (fun g e _ => Below.heap_setCell _ _ _ _ (hl.ne hr e)), lo, hb.setCell (p := ⟨b6, 4, none⟩) (by show w.heap.size ≤ b6; omega) _⟩, hr⟩
end
end Go.Proofs.YtmejmpdljckfgaaDoor
