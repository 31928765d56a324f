/-
  Bills being made: what stands meanwhile.
-/
import Derived.Test.YtnbnfifgajfomaaDoorBiMem
import Derived.Test.YtnbnfifgajfomaaDoorBiQx
namespace Go.Proofs.YtnbnfifgajfomaaDoor
open Go.RowKit Go.Deep

theorem bbinfo_i64 : (Tryd.prog.info? 2).map (fun i => (i.zero, i.size, i.bytes)) = some (some (.int .i64 0), 1, 8) := by kernel_rfl
/-- So many lines, as a list. -/
def Bi.ll (t : Bi.T) (x : Int) (i : Nat) : List Int := (List.range i).map (Bi.line t x)
theorem Bi.ll_succ (t : Bi.T) (x : Int) (i : Nat) : Bi.ll t x (i + 1) = Bi.ll t x i ++ [Bi.line t x i] := by simp [Bi.ll, List.range_succ]
theorem Bi.ll_len (t : Bi.T) (x : Int) (i : Nat) : (Bi.ll t x i).length = i := by simp [Bi.ll]
theorem Bi.ll_at (t : Bi.T) (x : Int) (i j : Nat) (h : j < i) : qf (Bi.ll t x i) j = Bi.line t x j := by simp [Bi.ll, qf, h]
abbrev blZ : List Value := [.int .i64 0, .slice none 0 0, .int .i64 0, .int .i64 0, .int .i64 0, .int .i64 0, .int .i64 0]
abbrev blD (d : Int) (v : Value) : List Value := [.int .i64 d, v, .int .i64 0, .int .i64 0, .int .i64 0, .int .i64 0, .int .i64 0]
/-- What stands while a bill's lines are made: the tariff, the bill, the answer's variable, the lines, the old memory. -/
structure BmS (t : Bi.T) (a : Option Addr) (k : Nat) (w : World) (gt gb gr : Nat) (d : Int) (v : Value) (xs : List Int) (W : World) : Prop where
  rt : W.rowIs gt 25 4 (rowN (tfL t a k))
  rb : W.rowIs gb 30 7 (rowN (blD d v))
  rr : W.rowIs gr 30 7 (rowN blZ)
  q : OwnQ w.heap.size v xs W
  bel : Below w.heap.size w W
  ne : gb ≠ gr ∧ gt ≠ gb ∧ w.heap.size ≤ gb
section
variable {t : Bi.T} {a : Option Addr} {k : Nat} {w W W' : World} {gt gb gr : Nat} {d : Int} {v v' : Value} {xs xs' : List Int}
theorem BmS.below (h : BmS t a k w gt gb gr d v xs W) (hb : Below W.heap.size W W') : BmS t a k w gt gb gr d v xs W' :=
  ⟨nrow_below h.rt hb, nrow_below h.rb hb, nrow_below h.rr hb, h.q.below hb, h.bel.trans (hb.mono h.bel.size), h.ne⟩
theorem BmS.push (h : BmS t a k w gt gb gr d v xs W) (ho : OwnQ w.heap.size v' xs' W') (hg : W.grownBy W' v.ownBlock) : BmS t a k w gt gb gr d v' xs' (W'.setCell ⟨gb, 1, none⟩ v') := by
  have e1 : 2 ≠ 25 := by decide
  have e2 : 2 ≠ 30 := by decide
  have bk : ∀ {x n : Nat} {T : TypeId} {F : Nat → Value}, W.rowIs x T n F → 2 ≠ T → W'.rowIs x T n F := fun hr hT => hr.of_block (hg.block _ hr.lt (fun e => h.q.ne hr hT e.symm))
  have rt := bk h.rt e1
  have rb := bk h.rb e2
  have rr := bk h.rr e2
  refine ⟨nrow_set rt (by show gt ≠ gb; exact h.ne.2.1) _, rowN_put rb 1 v' (by simp), nrow_set rr (by show gr ≠ gb; exact Ne.symm h.ne.1) _, ho.same (fun j hj hl => Below.heap_setCell _ _ _ _ (by
    show j ≠ gb
    rintro rfl
    exact ho.ne rb e2 hj)), ?_, h.ne⟩
  exact (h.bel.grown hg h.bel.size (fun j hj => (h.q.lt hj).1)).setCell (by show w.heap.size ≤ gb; exact h.ne.2.2) _
/-- Behind an append, ahead of its store. -/
theorem BmS.grow (h : BmS t a k w gt gb gr d v xs W) (hg : W.grownBy W' v.ownBlock) : W'.rowIs gt 25 4 (rowN (tfL t a k)) ∧ W'.rowIs gb 30 7 (rowN (blD d v)) ∧ Below w.heap.size w W' := by
  have e1 : 2 ≠ 25 := by decide
  have e2 : 2 ≠ 30 := by decide
  have bk : ∀ {x n : Nat} {T : TypeId} {F : Nat → Value}, W.rowIs x T n F → 2 ≠ T → W'.rowIs x T n F := fun hr hT => hr.of_block (hg.block _ hr.lt (fun e => h.q.ne hr hT e.symm))
  exact ⟨bk h.rt e1, bk h.rb e2, h.bel.grown hg h.bel.size (fun j hj => (h.q.lt hj).1)⟩
end
theorem qcell (W : World) (v : Value) (T : TypeId) : (W.alloc (.cells #[v] T)).cell? ⟨W.heap.size, 0, none⟩ = some v := by simp
/-- Seven cells, written. -/
theorem bl7 {W : World} {g : Nat} {T : TypeId} {a0 a1 a2 a3 a4 a5 a6 : Value} (h : W.rowIs g T 7 (rowN [a0, a1, a2, a3, a4, a5, a6])) (v0 v1 v2 v3 v4 v5 v6 : Value) :
    (((((((W.setCell ⟨g, 0, none⟩ v0).setCell ⟨g, 1, none⟩ v1).setCell ⟨g, 2, none⟩ v2).setCell ⟨g, 3, none⟩ v3).setCell ⟨g, 4, none⟩ v4).setCell ⟨g, 5, none⟩ v5).setCell ⟨g, 6, none⟩ v6).rowIs g T 7 (rowN [v0, v1, v2, v3, v4, v5, v6]) :=
  rowN_put (rowN_put (rowN_put (rowN_put (rowN_put (rowN_put (rowN_put h 0 v0 (by simp)) 1 v1 (by simp)) 2 v2 (by simp)) 3 v3 (by simp)) 4 v4 (by simp)) 5 v5 (by simp)) 6 v6 (by simp)
theorem bl7b {W w : World} {g B : Nat} (h : Below B w W) (hg : B ≤ g) (v0 v1 v2 v3 v4 v5 v6 : Value) :
    Below B w (((((((W.setCell ⟨g, 0, none⟩ v0).setCell ⟨g, 1, none⟩ v1).setCell ⟨g, 2, none⟩ v2).setCell ⟨g, 3, none⟩ v3).setCell ⟨g, 4, none⟩ v4).setCell ⟨g, 5, none⟩ v5).setCell ⟨g, 6, none⟩ v6) :=
  ((((((h.setCell (p := ⟨g, 0, none⟩) hg _).setCell (p := ⟨g, 1, none⟩) hg _).setCell (p := ⟨g, 2, none⟩) hg _).setCell (p := ⟨g, 3, none⟩) hg _).setCell (p := ⟨g, 4, none⟩) hg _).setCell (p := ⟨g, 5, none⟩) hg _).setCell (p := ⟨g, 6, none⟩) hg _
theorem bl7o {W : World} {g j : Nat} (h : j ≠ g) (v0 v1 v2 v3 v4 v5 v6 : Value) :
    (((((((W.setCell ⟨g, 0, none⟩ v0).setCell ⟨g, 1, none⟩ v1).setCell ⟨g, 2, none⟩ v2).setCell ⟨g, 3, none⟩ v3).setCell ⟨g, 4, none⟩ v4).setCell ⟨g, 5, none⟩ v5).setCell ⟨g, 6, none⟩ v6).heap[j]? = W.heap[j]? := by
  repeat rw [bihs _ _ _ h]
/-- A bill, told. -/
def BlEnd (B : Nat) (t : Bi.T) (d x : Int) (e : Ending) (W : World) : Prop :=
  (¬ Bi.Ok t d x ∧ e = .returned (blV Bi.bad 0 none 0)) ∨ (Bi.Ok t d x ∧ ∃ a c, e = .returned (blV (Bi.bill t d x) t.bn a c) ∧ QsOwn B t.bn a c (Bi.line t x) W)
end Go.Proofs.YtnbnfifgajfomaaDoor
