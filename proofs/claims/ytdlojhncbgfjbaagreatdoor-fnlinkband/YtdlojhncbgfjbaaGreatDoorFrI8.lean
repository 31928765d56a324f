/-
  What stands from round to round of the program's FramesOf.
-/
import Derived.Test.YtdlojhncbgfjbaaGreatDoorFrI7
import Derived.Test.YtdlojhncbgfjbaaGreatDoorScBase
namespace Go.Proofs.YtdlojhncbgfjbaaGreatDoor
open Go.RowKit Go.Deep

/-- The scan so far: the slot of the answer, the answer so far, its list, the old memory below B. -/
def SCB (B : Nat) (w : World) (v : Value) (lost rest : Int) (os : List Fr.Out) (W : World) : Prop :=
  W.rowIs w.heap.size 65 4 (so4 (.slice none 0 0) 0 0 0) ∧ W.rowIs (w.heap.size + 1) 65 4 (so4 v lost rest 0) ∧ W.ownsRow (w.heap.size + 2) 70 4 v os.length (os.flatMap outCells) ∧ Below B w W
theorem SCB.below {B : Nat} {w : World} {v : Value} {lost rest : Int} {os : List Fr.Out} {W W' : World} (h : SCB B w v lost rest os W) (hw : B ≤ w.heap.size) (hb : Below W.heap.size W W') : SCB B w v lost rest os W' :=
  ⟨h.1.of_block (hb.block _ h.1.lt), h.2.1.of_block (hb.block _ h.2.1.lt), ownsRow_block h.2.2.1 (fun k _ hk => hb.block k hk), h.2.2.2.trans (hb.mono (Nat.le_trans hw h.2.2.2.size))⟩
theorem SCB.grown {B p : Nat} {w : World} {v : Value} {lost rest : Int} {os : List Fr.Out} {W W' : World} (h : SCB B w v lost rest os W) (hp : B ≤ p) (hpw : p < w.heap.size) (hg : W.grownBy W' (some p)) : SCB B w v lost rest os W' := by
  have hz := h.2.2.2.size
  have nb : ∀ k, w.heap.size ≤ k → k < W.heap.size → W'.heap[k]? = W.heap[k]? := fun k h1 h2 => hg.block k h2 (fun e => by cases e; omega)
  exact ⟨h.1.of_block (nb _ (Nat.le_refl _) h.1.lt), h.2.1.of_block (nb _ (by omega) h.2.1.lt), ownsRow_block h.2.2.1 (fun k h1 h2 => nb k (by omega) h2), below_grown h.2.2.2 (by omega) hg (fun k e => by cases e; exact hp)⟩
theorem SCB.setP {B p : Nat} {w : World} {v : Value} {lost rest : Int} {os : List Fr.Out} {W : World} (h : SCB B w v lost rest os W) (hp : B ≤ p) (hpw : p < w.heap.size) (j : Nat) (x : Value) : SCB B w v lost rest os (W.setCell ⟨p, j, none⟩ x) :=
  ⟨h.1.setOther (by show w.heap.size ≠ p; omega) x, h.2.1.setOther (by show w.heap.size + 1 ≠ p; omega) x, ownsRow_block h.2.2.1 (fun k hk _ => blk_setCell_other _ _ _ _ (by show k ≠ p; omega)), h.2.2.2.setCell (p := ⟨p, j, none⟩) hp x⟩
theorem SCB.set {B : Nat} {w : World} {v v' : Value} {lost rest lost' rest' : Int} {os : List Fr.Out} {W : World} (h : SCB B w v lost rest os W) (hw : B ≤ w.heap.size) (i : Nat) (x : Value) (e : ∀ j, j < 4 → (if j = i then x else so4 v lost rest 0 j) = so4 v' lost' rest' 0 j) (ho : W.ownsRow (w.heap.size + 2) 70 4 v' os.length (os.flatMap outCells)) : SCB B w v' lost' rest' os (W.setCell ⟨w.heap.size + 1, i, none⟩ x) :=
  ⟨h.1.setOther (by show w.heap.size ≠ w.heap.size + 1; omega) x, (h.2.1.set i x).congr e, ownsRow_block ho (fun k hk _ => blk_setCell_other _ _ _ _ (by show k ≠ w.heap.size + 1; omega)), h.2.2.2.setCell (p := ⟨w.heap.size + 1, i, none⟩) (by show B ≤ w.heap.size + 1; omega) x⟩
theorem SCB.lost {B : Nat} {w : World} {v : Value} {lost rest : Int} {os : List Fr.Out} {W : World} (h : SCB B w v lost rest os W) (hw : B ≤ w.heap.size) (x : Int) : SCB B w v x rest os (W.setCell ⟨w.heap.size + 1, 1, none⟩ (.int .i64 x)) :=
  h.set hw 1 _ (fun j _ => by unfold so4; by_cases e : j = 1 <;> simp [e]) h.2.2.1
theorem SCB.rest {B : Nat} {w : World} {v : Value} {lost rest : Int} {os : List Fr.Out} {W : World} (h : SCB B w v lost rest os W) (hw : B ≤ w.heap.size) (x : Int) : SCB B w v lost x os (W.setCell ⟨w.heap.size + 1, 2, none⟩ (.int .i64 x)) :=
  h.set hw 2 _ (fun j _ => by unfold so4; by_cases e : j = 2 <;> simp [e]) h.2.2.1
/-- A frame behind the others. -/
theorem SCB.push {B : Nat} {w : World} {v v' : Value} {lost rest : Int} {os : List Fr.Out} {o : Fr.Out} {W W' : World} {ob : Obj} (h : SCB B w v lost rest os W) (hw : B ≤ w.heap.size) (hg : (W.alloc ob).grownBy W' v.ownBlock) (hown : W'.ownsRow (w.heap.size + 2) 70 4 v' (os.length + 1) (os.flatMap outCells ++ outCells o)) :
    SCB B w v' lost rest (os ++ [o]) (W'.setCell ⟨w.heap.size + 1, 0, none⟩ v') := by
  have hz := h.2.1.lt
  have hrow : ∀ k, v.ownBlock = some k → w.heap.size + 2 ≤ k := fun k e => (h.2.2.1.lt k e).1
  have hk : ∀ k, k < w.heap.size + 2 → W'.heap[k]? = W.heap[k]? := fun k hk => by
    rw [hg.block k (by simp; omega) (fun e => by have := hrow k e.symm; omega)]
    exact blk_alloc_lt _ _ _ (by omega)
  have r1 : W'.rowIs w.heap.size 65 4 (so4 (.slice none 0 0) 0 0 0) := h.1.of_block (hk _ (by omega))
  have r2 : W'.rowIs (w.heap.size + 1) 65 4 (so4 v lost rest 0) := h.2.1.of_block (hk _ (by omega))
  have hb : Below B w W' := ⟨hg.os.trans h.2.2.2.os, hg.tape.trans h.2.2.2.tape, hg.output.trans h.2.2.2.output, by have := hg.size; have := h.2.2.2.size; simp at *; omega, fun k hk2 => (hk k (by omega)).trans (h.2.2.2.block k hk2)⟩
  refine ⟨r1.setOther (by show w.heap.size ≠ w.heap.size + 1; omega) _, (r2.set 0 v').congr (fun j _ => by unfold so4; by_cases e : j = 0 <;> simp [e]), ?_, hb.setCell (p := ⟨w.heap.size + 1, 0, none⟩) (by show B ≤ w.heap.size + 1; omega) _⟩
  refine ownsRow_block ?_ (fun k hk _ => blk_setCell_other _ _ _ _ (by show k ≠ w.heap.size + 1; omega))
  rw [List.flatMap_append, List.length_append]
  simpa using hown
theorem scb_start (B : Nat) (w : World) (hB : B ≤ w.heap.size) : SCB B w (.slice none 0 0) ((0 : Nat) : Int) 0 [] ((w.alloc (.cells #[.slice none 0 0, .int .i64 0, .int .i64 0, .int .i64 0] 65)).alloc (.cells #[.slice none 0 0, .int .i64 0, .int .i64 0, .int .i64 0] 65)) := by
  have r1 := World.rowIs_alloc w #[.slice none 0 0, .int .i64 0, .int .i64 0, .int .i64 0] 65 _ (so4_row (.slice none 0 0) 0 0 0)
  have r2 := World.rowIs_alloc (w.alloc (.cells #[.slice none 0 0, .int .i64 0, .int .i64 0, .int .i64 0] 65)) #[.slice none 0 0, .int .i64 0, .int .i64 0, .int .i64 0] 65 _ (so4_row (.slice none 0 0) 0 0 0)
  have e : (w.alloc (.cells #[.slice none 0 0, .int .i64 0, .int .i64 0, .int .i64 0] 65)).heap.size = w.heap.size + 1 := by simp
  rw [e] at r2
  exact ⟨r1.alloc _, r2, World.ownsRow_nil _ _ _ _, (((Below.refl _ _).alloc (Nat.le_refl _) _).alloc (by simp) _).mono hB⟩

end Go.Proofs.YtdlojhncbgfjbaaGreatDoor
