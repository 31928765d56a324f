/-
  Runs of a loop: two lists that grow, and what stands from round to round.
-/
import Derived.Test.YtplghjghecfeoaaDoorLrI1
import Derived.Maps.AppendAt
import Derived.BigRegion
namespace Go.Proofs.YtplghjghecfeoaaDoor
open Go.RowKit Go.Deep

/-- The first n of a list, as values. -/
def lst (f : Nat → Nat) (n : Nat) : List Value := (List.range n).map (fun i => Value.float .f64 (f i))
theorem lst_succ (f : Nat → Nat) (n : Nat) : lst f (n + 1) = lst f n ++ [.float .f64 (f n)] := by simp [lst, List.range_succ]
theorem lst_len (f : Nat → Nat) (n : Nat) : (lst f n).length = n := by simp [lst]
theorem lst_at {f : Nat → Nat} {n i : Nat} (h : i < n) : (lst f n)[i]? = some (.float .f64 (f i)) := by simp [lst, h]
/-- A list of floats that an answer owns. -/
abbrev OwnF (B : Nat) (v : Value) (n : Nat) (f : Nat → Nat) (W : World) : Prop := W.ownsRow B 23 1 v n (lst f n)
theorem grown_of_below {W W' : World} (hb : Below W.heap.size W W') (row : Option Nat) : W.grownBy W' row := ⟨hb.os, hb.tape, hb.output, hb.size, fun k hk _ => hb.block k hk⟩
theorem OwnF.below {B : Nat} {v : Value} {n : Nat} {f : Nat → Nat} {W W' : World} (h : OwnF B v n f W) (hb : Below W.heap.size W W') : OwnF B v n f W' := by
  refine World.ownsRow.kept h (grown_of_below hb none) ?_
  cases hv : v.ownBlock with
  | none => exact Or.inl rfl
  | some k => exact Or.inr (by simp)
theorem OwnF.set {B : Nat} {v : Value} {n : Nat} {f : Nat → Nat} {W : World} (h : OwnF B v n f W) {a : Addr} (ha : a.block < B) (u : Value) : OwnF B v n f (W.setCell a u) := ownsRow_setCell_below h ha u
theorem OwnF.form {B : Nat} {v : Value} {n : Nat} {f : Nat → Nat} {W : World} (h : OwnF B v n f W) : (v = .slice none 0 0 ∧ n = 0) ∨ ∃ g k, v = .slice (some ⟨g, 0, none⟩) n k ∧ B ≤ g ∧ FlBlk g n f W := by
  have h' := h
  obtain ⟨h1, h2⟩ := h
  rcases h2 with h2 | ⟨g, cap, cur, e1, e2, e3, e4, e5, e6, e7⟩
  · exact Or.inl h2
  · refine Or.inr ⟨g, cap, e1, e2, cap, fun i => cur[i]?.getD undef, e4, ?_, fun i hi => ?_⟩
    · refine ⟨cur, e3, by simpa using e6, fun i hi => ?_⟩
      rw [Nat.mul_one] at e6
      have : i < cur.size := by omega
      simp [this]
    · have hx := lst_at (f := f) hi
      rw [← e7, Nat.mul_one] at hx
      rw [List.getElem?_take_of_lt hi] at hx
      simp at hx
      simp [hx]
/-- Two lists of an answer. -/
structure Two (B : Nat) (v1 : Value) (n1 : Nat) (f1 : Nat → Nat) (v2 : Value) (n2 : Nat) (f2 : Nat → Nat) (W : World) : Prop where
  one : OwnF B v1 n1 f1 W
  two : OwnF B v2 n2 f2 W
  ne : ∀ g, v1.ownBlock = some g → v2.ownBlock ≠ some g
theorem Two.nil (B : Nat) (f1 f2 : Nat → Nat) (W : World) : Two B (.slice none 0 0) 0 f1 (.slice none 0 0) 0 f2 W := ⟨World.ownsRow_nil _ _ _ _, World.ownsRow_nil _ _ _ _, fun g h => by cases h⟩
section
variable {B : Nat} {v1 : Value} {n1 : Nat} {f1 : Nat → Nat} {v2 : Value} {n2 : Nat} {f2 : Nat → Nat} {W : World}
theorem Two.below {W' : World} (h : Two B v1 n1 f1 v2 n2 f2 W) (hb : Below W.heap.size W W') : Two B v1 n1 f1 v2 n2 f2 W' := ⟨h.one.below hb, h.two.below hb, h.ne⟩
theorem Two.set (h : Two B v1 n1 f1 v2 n2 f2 W) {a : Addr} (ha : a.block < B) (u : Value) : Two B v1 n1 f1 v2 n2 f2 (W.setCell a u) := ⟨h.one.set ha u, h.two.set ha u, h.ne⟩
theorem kept_other {v v' : Value} {n : Nat} {f : Nat → Nat} {W W' : World} {o : Obj} (h : OwnF B v n f W) (hg : (W.alloc o).grownBy W' v'.ownBlock) (hne : ∀ g, v'.ownBlock = some g → v.ownBlock ≠ some g) : OwnF B v n f W' := by
  refine World.ownsRow.kept (World.ownsRow.alloc h o) hg ?_
  cases hv : v'.ownBlock with
  | none => cases hv2 : v.ownBlock with
    | none => exact Or.inl rfl
    | some k => exact Or.inr (by simp)
  | some k => exact Or.inr (fun e => hne k hv e)
theorem Two.push1 {W' : World} {v' : Value} {o : Obj} (h : Two B v1 n1 f1 v2 n2 f2 W) (hown : W'.ownsRow B 23 1 v' (n1 + 1) (lst f1 n1 ++ [.float .f64 (f1 n1)])) (hg : (W.alloc o).grownBy W' v1.ownBlock) (hat : v'.ownBlock = v1.ownBlock ∨ v'.ownBlock = some (W.alloc o).heap.size) : Two B v' (n1 + 1) f1 v2 n2 f2 W' := by
  refine ⟨by unfold OwnF; rw [lst_succ]; exact hown, kept_other h.two hg h.ne, fun g hg1 hg2 => ?_⟩
  rcases hat with e | e
  · rw [e] at hg1; exact h.ne g hg1 hg2
  · rw [e] at hg1
    have h1 := (h.two.lt g hg2).2
    simp at hg1
    omega
theorem Two.push2 {W' : World} {v' : Value} {o : Obj} (h : Two B v1 n1 f1 v2 n2 f2 W) (hown : W'.ownsRow B 23 1 v' (n2 + 1) (lst f2 n2 ++ [.float .f64 (f2 n2)])) (hg : (W.alloc o).grownBy W' v2.ownBlock) (hat : v'.ownBlock = v2.ownBlock ∨ v'.ownBlock = some (W.alloc o).heap.size) : Two B v1 n1 f1 v' (n2 + 1) f2 W' := by
  refine ⟨kept_other h.one hg (fun g h1 h2 => h.ne g h2 h1), by unfold OwnF; rw [lst_succ]; exact hown, fun g hg1 hg2 => ?_⟩
  rcases hat with e | e
  · rw [e] at hg2; exact h.ne g hg1 hg2
  · rw [e] at hg2
    have h1 := (h.one.lt g hg1).2
    simp at hg2
    omega
end
abbrev outL (c1 c2 : Value) (c : Int) : List Value := [c1, c2, .int .i64 c]
abbrev nilS : Value := .slice none 0 0
/-- What stands from round to round: rows R (of n cells each), an answer's row, two lists. -/
structure RnB (w : World) (b9 : Nat) (c1 c2 v1 : Value) (n1 : Nat) (f1 : Nat → Nat) (v2 : Value) (n2 : Nat) (f2 : Nat → Nat) (W : World) : Prop where
  res : W.rowIs (w.heap.size + 1) 30 3 (rowL (outL nilS nilS 0))
  out : W.rowIs b9 30 3 (rowL (outL c1 c2 0))
  own : Two (b9 + 1) v1 n1 f1 v2 n2 f2 W
  bel : Below w.heap.size w W
  num : w.heap.size + 1 < b9
section
variable {w : World} {b9 : Nat} {c1 c2 v1 : Value} {n1 : Nat} {f1 : Nat → Nat} {v2 : Value} {n2 : Nat} {f2 : Nat → Nat} {W : World}
theorem RnB.below {W' : World} (h : RnB w b9 c1 c2 v1 n1 f1 v2 n2 f2 W) (hb : Below W.heap.size W W') : RnB w b9 c1 c2 v1 n1 f1 v2 n2 f2 W' := ⟨wrow_below h.res hb, wrow_below h.out hb, h.own.below hb, h.bel.trans (hb.mono h.bel.size), h.num⟩
theorem RnB.put {g i : Nat} (h : RnB w b9 c1 c2 v1 n1 f1 v2 n2 f2 W) (hg : w.heap.size + 1 < g) (hg2 : g < b9) (u : Value) : RnB w b9 c1 c2 v1 n1 f1 v2 n2 f2 (W.setCell ⟨g, i, none⟩ u) :=
  ⟨h.res.setOther (a := ⟨g, i, none⟩) (by show w.heap.size + 1 ≠ g; omega) _, h.out.setOther (a := ⟨g, i, none⟩) (by show b9 ≠ g; omega) _, h.own.set (a := ⟨g, i, none⟩) (by show g < b9 + 1; omega) _, h.bel.setCell (p := ⟨g, i, none⟩) (by show w.heap.size ≤ g; omega) _, h.num⟩
theorem RnB.set0 (h : RnB w b9 c1 c2 v1 n1 f1 v2 n2 f2 W) (u : Value) : RnB w b9 u c2 v1 n1 f1 v2 n2 f2 (W.setCell ⟨b9, 0, none⟩ u) :=
  have hn := h.num
  ⟨h.res.setOther (a := ⟨b9, 0, none⟩) (by show w.heap.size + 1 ≠ b9; omega) _, rowL_set h.out 0 u (by simp), h.own.set (a := ⟨b9, 0, none⟩) (by show b9 < b9 + 1; omega) _, h.bel.setCell (p := ⟨b9, 0, none⟩) (by show w.heap.size ≤ b9; omega) _, h.num⟩
theorem RnB.set1 (h : RnB w b9 c1 c2 v1 n1 f1 v2 n2 f2 W) (u : Value) : RnB w b9 c1 u v1 n1 f1 v2 n2 f2 (W.setCell ⟨b9, 1, none⟩ u) :=
  have hn := h.num
  ⟨h.res.setOther (a := ⟨b9, 1, none⟩) (by show w.heap.size + 1 ≠ b9; omega) _, rowL_set h.out 1 u (by simp), h.own.set (a := ⟨b9, 1, none⟩) (by show b9 < b9 + 1; omega) _, h.bel.setCell (p := ⟨b9, 1, none⟩) (by show w.heap.size ≤ b9; omega) _, h.num⟩
/-- What an append leaves as it was. -/
theorem far_block {W' : World} {o : Obj} {row : Option Nat} (hrow : ∀ k, row = some k → b9 + 1 ≤ k) (hg : (W.alloc o).grownBy W' row) {k : Nat} (hk : k < b9 + 1) (hl : k < W.heap.size) : W'.heap[k]? = W.heap[k]? := by
  rw [hg.block k (by simp; omega) (fun e => by have := hrow k e.symm; omega)]
  exact blk_alloc_lt _ _ _ hl
theorem RnB.grown {W' : World} {o : Obj} {row : Option Nat} (h : RnB w b9 c1 c2 v1 n1 f1 v2 n2 f2 W) (hrow : ∀ k, row = some k → b9 + 1 ≤ k) (hg : (W.alloc o).grownBy W' row) {v1' : Value} {n1' : Nat} {v2' : Value} {n2' : Nat} (hT : Two (b9 + 1) v1' n1' f1 v2' n2' f2 W') : RnB w b9 c1 c2 v1' n1' f1 v2' n2' f2 W' := by
  have hn := h.num
  have hl := h.out.lt
  have fb := fun k hk hl => far_block (W := W) (b9 := b9) hrow hg (k := k) hk hl
  refine ⟨h.res.of_block (fb _ (by omega) h.res.lt), h.out.of_block (fb _ (by omega) h.out.lt), hT, ?_, h.num⟩
  have hz := h.bel.size
  exact ⟨hg.os.trans h.bel.os, hg.tape.trans h.bel.tape, hg.output.trans h.bel.output, by have := hg.size; simp at this; omega, fun k hk => (fb k (by omega) (by omega)).trans (h.bel.block k hk)⟩
theorem RnB.push1 {W' : World} {v' : Value} {o : Obj} (h : RnB w b9 c1 c2 v1 n1 f1 v2 n2 f2 W) (hown : W'.ownsRow (b9 + 1) 23 1 v' (n1 + 1) (lst f1 n1 ++ [.float .f64 (f1 n1)])) (hg : (W.alloc o).grownBy W' v1.ownBlock) (hat : v'.ownBlock = v1.ownBlock ∨ v'.ownBlock = some (W.alloc o).heap.size) : RnB w b9 c1 c2 v' (n1 + 1) f1 v2 n2 f2 W' :=
  h.grown (fun k e => (h.own.one.lt k e).1) hg (h.own.push1 hown hg hat)
theorem RnB.push2 {W' : World} {v' : Value} {o : Obj} (h : RnB w b9 c1 c2 v1 n1 f1 v2 n2 f2 W) (hown : W'.ownsRow (b9 + 1) 23 1 v' (n2 + 1) (lst f2 n2 ++ [.float .f64 (f2 n2)])) (hg : (W.alloc o).grownBy W' v2.ownBlock) (hat : v'.ownBlock = v2.ownBlock ∨ v'.ownBlock = some (W.alloc o).heap.size) : RnB w b9 c1 c2 v1 n1 f1 v' (n2 + 1) f2 W' :=
  h.grown (fun k e => (h.own.two.lt k e).1) hg (h.own.push2 hown hg hat)
/-- A row below the lists stays behind an append. -/
theorem RnB.far {W' : World} {o : Obj} {row : Option Nat} (h : RnB w b9 c1 c2 v1 n1 f1 v2 n2 f2 W) (hrow : row = v1.ownBlock ∨ row = v2.ownBlock) (hg : (W.alloc o).grownBy W' row) {g : Nat} {t : TypeId} {m : Nat} {F : Nat → Value} (hr : W.rowIs g t m F) (hl : g < b9) : W'.rowIs g t m F := by
  refine hr.of_block (far_block (b9 := b9) ?_ hg (by omega) hr.lt)
  intro k hk
  rcases hrow with e | e
  · exact (h.own.one.lt k (by rw [← e]; exact hk)).1
  · exact (h.own.two.lt k (by rw [← e]; exact hk)).1
end
end Go.Proofs.YtplghjghecfeoaaDoor
