/-
  The contracts of the model's source of draws: a number below a bound; one of so many; an edge. Only that they stay within their ranges is said.
-/
import Derived.Test.YtogfjomfhenhfaaGreatDoorNums
import Derived.BigRegion
import Derived.Deep.DeepCutAuto
namespace Go.Proofs.YtogfjomfhenhfaaGreatDoor
open Go.RowKit

/-- Of what was there block sb alone may have turned. -/
def Chg (sb : Nat) (w w' : World) : Prop := w'.os = w.os ∧ w'.tape = w.tape ∧ w'.output = w.output ∧ w.heap.size ≤ w'.heap.size ∧ ∀ k, k < w.heap.size → k ≠ sb → w'.heap[k]? = w.heap[k]?

namespace Chg
theorem refl (sb : Nat) (w : World) : Chg sb w w := ⟨rfl, rfl, rfl, Nat.le_refl _, fun _ _ _ => rfl⟩
theorem trans {sb : Nat} {a b c : World} (h : Chg sb a b) (k : Chg sb b c) : Chg sb a c :=
  ⟨k.1.trans h.1, k.2.1.trans h.2.1, k.2.2.1.trans h.2.2.1, Nat.le_trans h.2.2.2.1 k.2.2.2.1, fun i hi hne => (k.2.2.2.2 i (Nat.lt_of_lt_of_le hi h.2.2.2.1) hne).trans (h.2.2.2.2 i hi hne)⟩
theorem drewN {sb : Nat} {a b : World} (h : Chg sb a b) (n : Nat) : Chg sb a (b.drewN n) := h
theorem drew {sb : Nat} {a b : World} (h : Chg sb a b) : Chg sb a b.drew := h
theorem set {sb : Nat} {a b : World} (h : Chg sb a b) (o : Nat) (v : Value) : Chg sb a (b.setCell ⟨sb, o, none⟩ v) := by
  refine h.trans ⟨rfl, rfl, rfl, by simp, fun k _ hne => Below.heap_setCell _ _ _ _ hne⟩
theorem of_below {sb : Nat} {a b : World} (h : Below a.heap.size a b) : Chg sb a b := ⟨h.os, h.tape, h.output, h.size, fun k hk _ => h.block k hk⟩
theorem below {sb B : Nat} {a b : World} (h : Chg sb a b) (h1 : B ≤ sb) (h2 : B ≤ a.heap.size) : Below B a b := ⟨h.1, h.2.1, h.2.2.1, h.2.2.2.1, fun k hk => h.2.2.2.2 k (by omega) (by omega)⟩
theorem cell {sb : Nat} {a b : World} (h : Chg sb a b) {p : Addr} (h1 : p.block < a.heap.size) (h2 : p.block ≠ sb) : b.cell? p = a.cell? p := World.cell?_of_block (w := a) (h.2.2.2.2 p.block h1 h2)
theorem frozen {sb : Nat} {a b : World} (h : Chg sb a b) {p : Addr} (h1 : p.block < a.heap.size) (h2 : p.block ≠ sb) : b.frozen? p = a.frozen? p := World.frozen?_of_block (w := a) (h.2.2.2.2 p.block h1 h2)
theorem size {sb : Nat} {a b : World} (h : Chg sb a b) : a.heap.size ≤ b.heap.size := h.2.2.2.1
end Chg

/-- The source's four cells. -/
def SrcC (sb : Nat) (sl : Value) (at_ mix size : Int) (w : World) : Prop :=
  w.cell? ⟨sb, 0, none⟩ = some sl ∧ w.cell? ⟨sb, 1, none⟩ = some (.int .i64 at_) ∧ w.cell? ⟨sb, 2, none⟩ = some (.int .u64 mix) ∧ w.cell? ⟨sb, 3, none⟩ = some (.int .i64 size) ∧ w.frozen? ⟨sb, 0, none⟩ = false ∧ w.frozen? ⟨sb, 1, none⟩ = false ∧ w.frozen? ⟨sb, 2, none⟩ = false ∧ w.frozen? ⟨sb, 3, none⟩ = false

theorem SrcC.set1 {sb : Nat} {sl : Value} {at_ mix size : Int} {w : World} (h : SrcC sb sl at_ mix size w) (x : Int) : SrcC sb sl x mix size (w.setCell ⟨sb, 1, none⟩ (.int .i64 x)) := by
  obtain ⟨c0, c1, c2, c3, f0, f1, f2, f3⟩ := h
  refine ⟨?_, World.cell?_setCell_same _ _ _ c1, ?_, ?_, ?_, ?_, ?_, ?_⟩
  · rw [World.cell?_setCell_other _ _ _ _ (by simp)]; exact c0
  · rw [World.cell?_setCell_other _ _ _ _ (by simp)]; exact c2
  · rw [World.cell?_setCell_other _ _ _ _ (by simp)]; exact c3
  all_goals simpa using ‹_›

theorem SrcC.set2 {sb : Nat} {sl : Value} {at_ mix size : Int} {w : World} (h : SrcC sb sl at_ mix size w) (x : Int) : SrcC sb sl at_ x size (w.setCell ⟨sb, 2, none⟩ (.int .u64 x)) := by
  obtain ⟨c0, c1, c2, c3, f0, f1, f2, f3⟩ := h
  refine ⟨?_, ?_, World.cell?_setCell_same _ _ _ c2, ?_, ?_, ?_, ?_, ?_⟩
  · rw [World.cell?_setCell_other _ _ _ _ (by simp)]; exact c0
  · rw [World.cell?_setCell_other _ _ _ _ (by simp)]; exact c1
  · rw [World.cell?_setCell_other _ _ _ _ (by simp)]; exact c3
  all_goals simpa using ‹_›

theorem SrcC.drewN {sb : Nat} {sl : Value} {at_ mix size : Int} {w : World} (h : SrcC sb sl at_ mix size w) (n : Nat) : SrcC sb sl at_ mix size (w.drewN n) := h

end Go.Proofs.YtogfjomfhenhfaaGreatDoor
