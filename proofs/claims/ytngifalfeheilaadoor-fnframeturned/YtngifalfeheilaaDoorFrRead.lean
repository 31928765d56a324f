/-
  The contract of the model's FrameRead.
-/
import Derived.Test.YtngifalfeheilaaDoorFrSpec
import Derived.Deep.QuietTactic
import Derived.BigQuiet
import Derived.BigRegion
import Derived.Test.YtngifalfeheilaaDoorReg
namespace Go.Proofs.YtngifalfeheilaaDoor
open Go.RowKit

/-- An answer of FrameRead as a value. -/
def Fr.val (o : Fr.Out) : Value := .agg #[.int .i64 o.u, .int .i64 o.k, .int .i64 o.s, .string ⟨o.b.toArray⟩, .int .i64 o.used, .int .i64 o.code]
def zero6 : Array Value := #[.int .i64 0, .int .i64 0, .int .i64 0, .string ⟨#[]⟩, .int .i64 0, .int .i64 0]

/-- A slot of an answer in a new block, in later worlds. -/
def Slot6 (w W : World) : Prop := Below (w.heap.size + 1) (w.alloc (.cells #[.int .i64 0, .int .i64 0, .int .i64 0, .string ⟨#[]⟩, .int .i64 0, .int .i64 0] 48)) W
theorem Slot6.start (w : World) : Slot6 w (w.alloc (.cells #[.int .i64 0, .int .i64 0, .int .i64 0, .string ⟨#[]⟩, .int .i64 0, .int .i64 0] 48)) := Below.refl _ _
theorem Slot6.size {w W : World} (h : Slot6 w W) : w.heap.size + 1 ≤ W.heap.size := by have := Below.size h; simpa using this
theorem Slot6.next {w W W' : World} (h : Slot6 w W) (hb : Below W.heap.size W W') : Slot6 w W' := Below.trans h (hb.mono h.size)
theorem Slot6.below {w W : World} (h : Slot6 w W) : Below w.heap.size w W := ((Below.refl _ _).alloc (Nat.le_refl _) _).trans (Below.mono h (by omega))
theorem kept6 {w w1 : World} (hb : Slot6 w w1) :
    (w1.cell? ⟨w.heap.size, 0, none⟩ = some (.int .i64 0) ∧ w1.cell? ⟨w.heap.size, 1, none⟩ = some (.int .i64 0) ∧ w1.cell? ⟨w.heap.size, 2, none⟩ = some (.int .i64 0) ∧ w1.cell? ⟨w.heap.size, 3, none⟩ = some (.string ⟨#[]⟩) ∧ w1.cell? ⟨w.heap.size, 4, none⟩ = some (.int .i64 0) ∧ w1.cell? ⟨w.heap.size, 5, none⟩ = some (.int .i64 0)) ∧
    (w1.frozen? ⟨w.heap.size, 0, none⟩ = false ∧ w1.frozen? ⟨w.heap.size, 1, none⟩ = false ∧ w1.frozen? ⟨w.heap.size, 2, none⟩ = false ∧ w1.frozen? ⟨w.heap.size, 3, none⟩ = false ∧ w1.frozen? ⟨w.heap.size, 4, none⟩ = false ∧ w1.frozen? ⟨w.heap.size, 5, none⟩ = false) ∧ w.heap.size < w1.heap.size := by
  unfold Slot6 at hb
  refine ⟨⟨?_, ?_, ?_, ?_, ?_, ?_⟩, ⟨?_, ?_, ?_, ?_, ?_, ?_⟩, ?_⟩
  · rw [hb.cell (by simp)]; simp
  · rw [hb.cell (by simp)]; simp
  · rw [hb.cell (by simp)]; simp
  · rw [hb.cell (by simp)]; simp
  · rw [hb.cell (by simp)]; simp
  · rw [hb.cell (by simp)]; simp
  · rw [hb.frozen (by simp)]; simp
  · rw [hb.frozen (by simp)]; simp
  · rw [hb.frozen (by simp)]; simp
  · rw [hb.frozen (by simp)]; simp
  · rw [hb.frozen (by simp)]; simp
  · rw [hb.frozen (by simp)]; simp
  · have := hb.size; simp at this; omega

namespace Fr
theorem at8_of (s : ByteArray) (i : Nat) (h : i < s.size) : at8 s.data.toList i = (((s[i]'h).toNat : Nat) : Int) := by
  unfold at8
  rw [List.getD_eq_getElem?_getD, List.getElem?_eq_getElem (by simpa using h)]
  rfl
theorem at8_n (s : ByteArray) (i : Nat) (h : i < s.size) : (s.data.toList.getD i 0).toNat = (s[i]'h).toNat := by
  rw [List.getD_eq_getElem?_getD, List.getElem?_eq_getElem (by simpa using h)]
  rfl
theorem nil_of (s : ByteArray) (h : s.size = 0) : s.data.toList = [] := List.eq_nil_of_length_eq_zero h
theorem ne_nil (s : ByteArray) (h : 0 < s.size) : s.data.toList ≠ [] := fun e => by
  have : s.size = 0 := congrArg List.length e
  omega
end Fr


/-- What a walk knows of a text that has its head. -/
theorem first_ok {s : ByteArray} (h : 0 < s.size) (h0 : (((s[0]'h).toNat : Nat) : Int) = 126) : ¬ (s.data.toList = [] ∨ Fr.at8 s.data.toList 0 ≠ 126) := by
  intro k
  rcases k with k | k
  · exact Fr.ne_nil s h k
  · exact k (by rw [Fr.at8_of s 0 h]; exact h0)


theorem fr_later {w w1 : World} {u k q : Int} (hb : Below ((w.alloc (.cells #[.int .i64 0, .int .i64 0, .int .i64 0, .string ⟨#[]⟩, .int .i64 0, .int .i64 0] 48)).alloc (.cells #[.int .i64 u, .int .i64 k, .int .i64 q, .string ⟨#[]⟩] 42)).drew.heap.size ((w.alloc (.cells #[.int .i64 0, .int .i64 0, .int .i64 0, .string ⟨#[]⟩, .int .i64 0, .int .i64 0] 48)).alloc (.cells #[.int .i64 u, .int .i64 k, .int .i64 q, .string ⟨#[]⟩] 42)).drew w1) :
    Slot6 w w1 ∧ (w1.cell? ⟨w.heap.size + 1, 0, none⟩ = some (.int .i64 u) ∧ w1.cell? ⟨w.heap.size + 1, 1, none⟩ = some (.int .i64 k) ∧ w1.cell? ⟨w.heap.size + 1, 2, none⟩ = some (.int .i64 q) ∧ w1.cell? ⟨w.heap.size + 1, 3, none⟩ = some (.string ⟨#[]⟩) ∧ w1.frozen? ⟨w.heap.size + 1, 3, none⟩ = false ∧ w.heap.size + 1 < w1.heap.size) := by
  refine ⟨(Slot6.start w).next ?_, ?_, ?_, ?_, ?_, ?_, ?_⟩
  · exact (((Below.refl _ _).alloc (Nat.le_refl _) _).drew).trans (hb.mono (by simp))
  · rw [hb.cell (by simp)]; simp
  · rw [hb.cell (by simp)]; simp
  · rw [hb.cell (by simp)]; simp
  · rw [hb.cell (by simp)]; simp
  · rw [hb.frozen (by simp)]; simp
  · have := hb.size; simp at this; omega
theorem below_set6 {w W : World} (h : Below w.heap.size w W) (a b c d e f : Value) : Below w.heap.size w ((((((W.setCell ⟨w.heap.size, 0, none⟩ a).setCell ⟨w.heap.size, 1, none⟩ b).setCell ⟨w.heap.size, 2, none⟩ c).setCell ⟨w.heap.size, 3, none⟩ d).setCell ⟨w.heap.size, 4, none⟩ e).setCell ⟨w.heap.size, 5, none⟩ f) :=
  (((((h.setCell (p := ⟨w.heap.size, 0, none⟩) (Nat.le_refl _) a).setCell (p := ⟨w.heap.size, 1, none⟩) (Nat.le_refl _) b).setCell (p := ⟨w.heap.size, 2, none⟩) (Nat.le_refl _) c).setCell (p := ⟨w.heap.size, 3, none⟩) (Nat.le_refl _) d).setCell (p := ⟨w.heap.size, 4, none⟩) (Nat.le_refl _) e).setCell (p := ⟨w.heap.size, 5, none⟩) (Nat.le_refl _) f
theorem keepF {w W W' : World} {F : Nat} {a0 a1 a2 a3 : Value} (hb : Below W.heap.size W W') (h : W.cell? ⟨F, 0, none⟩ = some a0 ∧ W.cell? ⟨F, 1, none⟩ = some a1 ∧ W.cell? ⟨F, 2, none⟩ = some a2 ∧ W.cell? ⟨F, 3, none⟩ = some a3 ∧ Hid (Slot6 w W)) :
    W'.cell? ⟨F, 0, none⟩ = some a0 ∧ W'.cell? ⟨F, 1, none⟩ = some a1 ∧ W'.cell? ⟨F, 2, none⟩ = some a2 ∧ W'.cell? ⟨F, 3, none⟩ = some a3 ∧ Hid (Slot6 w W') := by
  obtain ⟨c1, c2, c3, c4, hS⟩ := h
  exact ⟨(hb.cell (World.block_lt_of_cell? _ _ c1)).trans c1, (hb.cell (World.block_lt_of_cell? _ _ c2)).trans c2, (hb.cell (World.block_lt_of_cell? _ _ c3)).trans c3, (hb.cell (World.block_lt_of_cell? _ _ c4)).trans c4, hS.out.next hb⟩
theorem fr_store {w w1 : World} {a0 a1 a2 a3 : Value} (p0 : w1.cell? ⟨w.heap.size + 1, 0, none⟩ = some a0) (p1 : w1.cell? ⟨w.heap.size + 1, 1, none⟩ = some a1) (p2 : w1.cell? ⟨w.heap.size + 1, 2, none⟩ = some a2) (p3 : w1.cell? ⟨w.heap.size + 1, 3, none⟩ = some a3) (hS : Slot6 w w1) {v : Value} :
    (w1.setCell ⟨w.heap.size + 1, 3, none⟩ v).cell? ⟨w.heap.size + 1, 0, none⟩ = some a0 ∧ (w1.setCell ⟨w.heap.size + 1, 3, none⟩ v).cell? ⟨w.heap.size + 1, 1, none⟩ = some a1 ∧ (w1.setCell ⟨w.heap.size + 1, 3, none⟩ v).cell? ⟨w.heap.size + 1, 2, none⟩ = some a2 ∧ (w1.setCell ⟨w.heap.size + 1, 3, none⟩ v).cell? ⟨w.heap.size + 1, 3, none⟩ = some v ∧ Hid (Slot6 w (w1.setCell ⟨w.heap.size + 1, 3, none⟩ v)) := by
  refine ⟨?_, ?_, ?_, World.cell?_setCell_same _ _ _ p3, ?_⟩
  · rw [World.cell?_setCell_other _ _ _ _ (by simp)]; exact p0
  · rw [World.cell?_setCell_other _ _ _ _ (by simp)]; exact p1
  · rw [World.cell?_setCell_other _ _ _ _ (by simp)]; exact p2
  · exact Below.setCell (p := ⟨w.heap.size + 1, 3, none⟩) hS (Nat.le_refl _) v
theorem fstr_ne {x y : ByteArray} (h : x ≠ y) : (x.toList == y.toList) = false := by
  rw [Bool.eq_false_iff]
  intro k
  apply h
  rw [beq_iff_eq, ByteArray.toList_eq, ByteArray.toList_eq] at k
  apply ByteArray.ext
  exact Array.toList_inj.1 k
theorem fr_body (s : ByteArray) : (s.extract 6 (6 + Fr.bodyLen s.data.toList)).data.toList = Fr.body s.data.toList := by
  rw [Lib.extract_data]
  unfold Fr.body
  rw [show 6 + Fr.bodyLen s.data.toList - 6 = Fr.bodyLen s.data.toList by omega]
theorem fr_compare (s : ByteArray) (h0 : Fr.at8 s.data.toList 0 = 126) : 8 + Fr.bodyLen s.data.toList ≤ s.size → ((⟨(Fr.text (Fr.at8 s.data.toList 1) (Fr.at8 s.data.toList 2) (Fr.seq s.data.toList) (Fr.body s.data.toList)).toArray⟩ : ByteArray) = s.extract 0 (8 + Fr.bodyLen s.data.toList) ↔ Crc.sum ((s.data.toList.drop 1).take (5 + Fr.bodyLen s.data.toList)) = (s.data.toList.getD (6 + Fr.bodyLen s.data.toList) 0).toNat * 256 + (s.data.toList.getD (7 + Fr.bodyLen s.data.toList) 0).toNat) := by
  intro h
  rw [← Fr.text_read s.data.toList h h0]
  constructor
  · intro e
    have := congrArg (fun x : ByteArray => x.data.toList) e
    simp only [Lib.extract_data, List.drop_zero, Nat.sub_zero] at this
    exact this
  · intro e
    apply ByteArray.ext
    apply Array.toList_inj.1
    rw [Lib.extract_data, List.drop_zero, Nat.sub_zero]
    exact e



end Go.Proofs.YtngifalfeheilaaDoor
