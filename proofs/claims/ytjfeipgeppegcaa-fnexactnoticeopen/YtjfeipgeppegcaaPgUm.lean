/-
  What a block leans on: mathematics.
-/
import Derived.Test.YtjfeipgeppegcaaPgI2
namespace Go.Proofs.Ytjfeipgeppegcaa
open Go.RowKit Go.Deep

namespace Pg
/-- What a block leans on by itself, beside what is marked already. -/
def upU (x : Bk) (u : Nat → Bool) (j : Nat) : Bool := u j || (decide (fp0 x.kind = 1) && decide ((j : Int) = x.a)) || (decide (fp1 x.kind = 1) && decide ((j : Int) = x.b))
/-- The marks behind so many places, from the block down. -/
def runU (B : Nat → Bk) (n : Nat) : Nat → Nat → Bool
  | 0 => upU (B n) (fun _ => false)
  | k + 1 => if runU B n k (n - 1 - k) then upU (B (n - 1 - k)) (runU B n k) else runU B n k
def usesL (B : Nat → Bk) (n : Nat) (i : Nat) : List Nat := (List.range i).filter (fun j => runU B n n j)
theorem usesL_yes {B : Nat → Bk} {n i : Nat} (h : runU B n n i = true) : usesL B n (i + 1) = usesL B n i ++ [i] := by unfold usesL; rw [List.range_succ, List.filter_append]; simp only [List.filter_cons, h, List.filter_nil]; simp
theorem usesL_no {B : Nat → Bk} {n i : Nat} (h : runU B n n i = false) : usesL B n (i + 1) = usesL B n i := by unfold usesL; rw [List.range_succ, List.filter_append]; simp only [List.filter_cons, h, List.filter_nil]; simp
theorem usesL_len (B : Nat → Bk) (n i : Nat) : (usesL B n i).length ≤ i := Nat.le_trans (List.length_filter_le _ _) (by simp)
/-- The places that a block leans on. -/
noncomputable def uses (p : Prog) (z : Int) : List Nat := @ite (List Nat) (Right p ∧ 0 ≤ z ∧ z < p.bn) (Classical.propDecidable _) (usesL p.B z.toNat z.toNat) []
theorem uses_yes {p : Prog} {n : Nat} (h : Right p) (hn : n < p.bn) : uses p (n : Int) = usesL p.B n n := by
  unfold uses
  rw [if_pos ⟨h, by omega, by omega⟩]
  simp
theorem uses_no {p : Prog} {z : Int} (h : ¬ (Right p ∧ 0 ≤ z ∧ z < p.bn)) : uses p z = [] := by unfold uses; rw [if_neg h]
theorem uses_len {p : Prog} {z : Int} (hb : p.bn ≤ 1048576) : (uses p z).length ≤ 1048576 := by
  by_cases h : Right p ∧ 0 ≤ z ∧ z < p.bn
  · unfold uses
    rw [if_pos h]
    have := usesL_len p.B z.toNat z.toNat
    omega
  · rw [uses_no h]; simp
/-- What the parts of a right block are. -/
theorem right_a {p : Prog} (h : Right p) {i : Nat} (hi : i < p.bn) (hf : fp0 (p.B i).kind = 1) : 0 ≤ (p.B i).a ∧ (p.B i).a < i := by
  have := ((parts_iff _ _ _).1 (h.b i hi).2.2).1.1
  rw [hf] at this
  simpa [PtOk, Ahead] using this
theorem right_b {p : Prog} (h : Right p) {i : Nat} (hi : i < p.bn) (hf : fp1 (p.B i).kind = 1) : 0 ≤ (p.B i).b ∧ (p.B i).b < i := by
  have := ((parts_iff _ _ _).1 (h.b i hi).2.2).1.2
  rw [hf] at this
  simpa [PtOk, Ahead] using this
theorem fp0_iff {p : Prog} (h : Right p) {i : Nat} (hi : i < p.bn) : fp0 (p.B i).kind = 1 ↔ ¬ ((p.B i).kind = 1 ∨ (p.B i).kind = 5) := by
  have := (h.b i hi).2.2.kind
  unfold fp0
  by_cases q : (p.B i).kind = 2 ∨ (p.B i).kind = 3 ∨ (p.B i).kind = 4 ∨ (p.B i).kind = 6 ∨ (p.B i).kind = 7
  · rw [if_pos q]; omega
  · rw [if_neg q]
    by_cases q5 : (p.B i).kind = 5
    · rw [if_pos q5]; omega
    · rw [if_neg q5]; omega
theorem fp1_iff (k : Int) : fp1 k = 1 ↔ (k = 2 ∨ k = 3 ∨ k = 6) := by
  unfold fp1
  by_cases q : k = 2 ∨ k = 3 ∨ k = 6
  · rw [if_pos q]; simp [q]
  · rw [if_neg q]
    by_cases q7 : k = 7
    · rw [if_pos q7]; simp [q]
    · rw [if_neg q7]; simp [q]
end Pg
/-- Marks in a block of one's own. -/
def BoBlk (g N : Nat) (u : Nat → Bool) (w : World) : Prop := w.rowIs g 4 N (fun j => .bool (u j))
theorem BoBlk.block {g N : Nat} {u : Nat → Bool} {w w' : World} (h : BoBlk g N u w) (e : w'.heap[g]? = w.heap[g]?) : BoBlk g N u w' := h.of_block e
theorem BoBlk.below {g N : Nat} {u : Nat → Bool} {w w' : World} (h : BoBlk g N u w) (hb : Below w.heap.size w w') : BoBlk g N u w' := nrow_below h hb
theorem BoBlk.lt' {g N : Nat} {u : Nat → Bool} {w : World} (h : BoBlk g N u w) : g < w.heap.size := World.rowIs.lt h
theorem BoBlk.at_ {g N i : Nat} {u : Nat → Bool} {w : World} (h : BoBlk g N u w) (hi : i < N) : w.cell? ⟨g, i, none⟩ = some (.bool (u i)) := World.rowIs.cell h hi
theorem BoBlk.fr {g N : Nat} {u : Nat → Bool} {w : World} (h : BoBlk g N u w) (i : Nat) : w.frozen? ⟨g, i, none⟩ = false := World.rowIs.frozen h i
theorem BoBlk.congr {g N : Nat} {u v : Nat → Bool} {w : World} (h : BoBlk g N u w) (e : u = v) : BoBlk g N v w := e ▸ h
theorem BoBlk.set {g N : Nat} {u : Nat → Bool} {w : World} (h : BoBlk g N u w) (i : Nat) (b : Bool) : BoBlk g N (fun j => if j = i then b else u j) (w.setCell ⟨g, i, none⟩ (.bool b)) := by
  have h2 := World.rowIs.set h i (.bool b)
  have e : (fun j => if j = i then Value.bool b else Value.bool (u j)) = (fun j => Value.bool (if j = i then b else u j)) := by
    funext j
    by_cases q : j = i <;> simp [q]
  rw [e] at h2
  exact h2
theorem boinfo : (Try.prog.info? 4).map (fun i => (i.zero, i.size, i.bytes)) = some (some (.bool false), 1, 1) := by kernel_rfl
end Go.Proofs.Ytjfeipgeppegcaa
