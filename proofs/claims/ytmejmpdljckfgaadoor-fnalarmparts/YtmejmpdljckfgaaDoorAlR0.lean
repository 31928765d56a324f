/-
  What stands in a run of an alarm.
-/
import Derived.Test.YtmejmpdljckfgaaDoorAlLo
import Derived.Test.YtmejmpdljckfgaaDoorLnMem
import Derived.Laws.AppendOwn
namespace Go.Proofs.YtmejmpdljckfgaaDoor
open Go.RowKit Go.Deep

theorem al8zero : aoL Al.none none 0 0 0 = [.int .i64 0, .int .i64 0, .int .i64 0, .int .i64 0, .int .i64 0, .int .i64 0, .slice none 0 0, .int .i64 0] := rfl
/-- What stands in a run of an alarm: the result's variable, the answer in the making, its list. -/
structure RaS (w : World) (X : Al.A) (v : Value) (l : List (Int × Int)) (rb b : Nat) (W : World) : Prop where
  o : W.rowIs rb 46 8 (rowN (aoL Al.none none 0 0 0))
  r : W.rowIs b 46 8 (rowN [.int .i64 X.hi, .int .i64 X.lo, .int .i64 X.dl, .int .i64 X.st, .int .i64 X.ct, .int .i64 X.sh, v, .int .i64 0])
  l : W.ownsRow w.heap.size 52 2 v l.length (nvs l)
  lo : w.heap.size ≤ rb ∧ rb < b
  old : Below w.heap.size w W
theorem own_ne {W : World} {B n m : Nat} {v : Value} {ns : List Value} {x : Nat} {F : Nat → Value} (h : W.ownsRow B 52 2 v n ns) (hr : W.rowIs x 46 m F) {g : Nat} (hg : v.ownBlock = some g) : g ≠ x := by
  rintro rfl
  rcases h.2 with ⟨h1, _⟩ | ⟨g', cap, cur, e1, e2, e3, _⟩
  · rw [h1] at hg; simp [Value.ownBlock] at hg
  · rw [e1] at hg
    simp [Value.ownBlock] at hg
    subst hg
    obtain ⟨c2, q2, _⟩ := hr
    rw [e3] at q2
    simp at q2
theorem own_keep {W W' : World} {B n : Nat} {v : Value} {ns : List Value} (h : W.ownsRow B 52 2 v n ns) (hb : ∀ g, v.ownBlock = some g → g < W.heap.size → W'.heap[g]? = W.heap[g]?) : W'.ownsRow B 52 2 v n ns := by
  refine ⟨h.1, ?_⟩
  rcases h.2 with h2 | ⟨g, cap, cur, e1, e2, e3, e4⟩
  · exact Or.inl h2
  · exact Or.inr ⟨g, cap, cur, e1, e2, (hb g (by rw [e1]; rfl) (by have := Array.getElem?_eq_some_iff.1 e3; exact this.1)).trans e3, e4⟩
theorem own_rg {W : World} {B : Nat} {l : List (Int × Int)} {a : Option Addr} {n c : Nat} (h : W.ownsRow B 52 2 (.slice a n c) l.length (nvs l)) : RgOwn B l.length a c (Ln.fl l) W ∧ n = l.length := by
  obtain ⟨a', c', e, _, h2⟩ := own_ns h
  cases e
  refine ⟨?_, rfl⟩
  rcases h2 with h2 | ⟨g, rfl, h3, h4, F, h5, h6⟩
  · exact Or.inl h2
  · exact Or.inr ⟨g, rfl, h3, c * 2, F, by omega, h5, h6⟩
section
variable {w : World} {X Y : Al.A} {v : Value} {l : List (Int × Int)} {rb b : Nat} {W W' : World}
theorem RaS.below (h : RaS w X v l rb b W) (hb : Below W.heap.size W W') : RaS w X v l rb b W' := ⟨nrow_below h.o hb, nrow_below h.r hb, own_keep h.l (fun g _ hg => hb.block g hg), h.lo, h.old.trans (hb.mono h.old.size)⟩
theorem RaS.meet (h : RaS w X v l rb b W) (hr : W'.rowIs b 46 8 (rowN [.int .i64 Y.hi, .int .i64 Y.lo, .int .i64 Y.dl, .int .i64 Y.st, .int .i64 Y.ct, .int .i64 Y.sh, v, .int .i64 0])) (ho : Only b W W') : RaS w Y v l rb b W' := by
  have lo := h.lo
  exact ⟨h.o.of_block (ho.block _ h.o.lt (by omega)), hr, own_keep h.l (fun g hg hl => ho.block g hl (own_ne h.l h.r hg)), lo, h.old.trans (ho.below (by omega) h.old.size)⟩
theorem RaS.push {q x : Int} {v' : Value} (h : RaS w X v l rb b W) (hown : W'.ownsRow w.heap.size 52 2 v' (l ++ [(q, x)]).length (nvs (l ++ [(q, x)]))) (hg : W.grownBy W' v.ownBlock) :
    RaS w X v' (l ++ [(q, x)]) rb b (W'.setCell ⟨b, 6, none⟩ v') ∧ W'.rowIs b 46 8 (rowN [.int .i64 X.hi, .int .i64 X.lo, .int .i64 X.dl, .int .i64 X.st, .int .i64 X.ct, .int .i64 X.sh, v, .int .i64 0]) := by
  have lo := h.lo
  have ho : W'.rowIs rb 46 8 (rowN (aoL Al.none none 0 0 0)) := h.o.of_block (hg.block _ h.o.lt (fun e => own_ne h.l h.o e.symm rfl))
  have hr : W'.rowIs b 46 8 (rowN [.int .i64 X.hi, .int .i64 X.lo, .int .i64 X.dl, .int .i64 X.st, .int .i64 X.ct, .int .i64 X.sh, v, .int .i64 0]) := h.r.of_block (hg.block _ h.r.lt (fun e => own_ne h.l h.r e.symm rfl))
  have hb : Below w.heap.size w W' := h.old.grown hg h.old.size (fun k e => (World.ownsRow.lt h.l k e).1)
  exact ⟨⟨nrow_set ho (by show rb ≠ b; omega) _, rowN_put hr 6 v' (by simp), own_keep hown (fun g e _ => Below.heap_setCell _ _ _ _ (own_ne hown hr e)), lo, hb.setCell (p := ⟨b, 6, none⟩) (by show w.heap.size ≤ b; omega) _⟩, hr⟩
theorem RaS.tell {a : Option Addr} {n c : Nat} (h : RaS w X (.slice a n c) l rb b W) : n = l.length := (own_rg h.l).2
end
end Go.Proofs.YtmejmpdljckfgaaDoor
