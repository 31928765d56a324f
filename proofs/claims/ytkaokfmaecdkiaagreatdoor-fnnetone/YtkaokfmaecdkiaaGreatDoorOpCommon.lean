/-
  What is common to the four operations on two fractions: the answer, its bounds, the blocks in which the two lie.
-/
import Derived.Test.YtkaokfmaecdkiaaGreatDoorOf
namespace Go.Proofs.YtkaokfmaecdkiaaGreatDoor
open Go.RowKit

namespace M
def xN (r : Bool) (p q : Int) : Int := if r then oN p q else 0
def xD (r : Bool) (p q : Int) : Int := if r then oD p q else 0
def xC (r : Bool) (p q : Int) : Int := if r then codeF p q else 1
theorem prod_bd {a b : Int} (h1 : -2147483647 ≤ a) (h2 : a ≤ 2147483647) (h3 : 1 ≤ b) (h4 : b ≤ 2147483647) : -4611686014132420609 ≤ a * b ∧ a * b ≤ 4611686014132420609 := by
  have u : a * b ≤ 2147483647 * b := Int.mul_le_mul_of_nonneg_right h2 (by omega)
  have v : -2147483647 * b ≤ a * b := Int.mul_le_mul_of_nonneg_right h1 (by omega)
  omega
theorem prod_bd' {a b : Int} (h1 : -2147483647 ≤ a) (h2 : a ≤ 2147483647) (h3 : 1 ≤ b) (h4 : b ≤ 2147483647) : -4611686014132420609 ≤ b * a ∧ b * a ≤ 4611686014132420609 := by
  rw [Int.mul_comm]; exact prod_bd h1 h2 h3 h4
theorem prod_bd2 {a b : Int} (h1 : -2147483647 ≤ a) (h2 : a ≤ 2147483647) (h3 : -2147483647 ≤ b) (h4 : b ≤ 2147483647) : -4611686014132420609 ≤ a * b ∧ a * b ≤ 4611686014132420609 := by
  by_cases k : 1 ≤ b
  · exact prod_bd h1 h2 k h4
  · by_cases k0 : b = 0
    · subst k0; omega
    · have := prod_bd (a := a) (b := -b) h1 h2 (by omega) (by omega)
      rw [Int.mul_neg] at this
      omega
theorem pos_prod {a b : Int} (h1 : 1 ≤ a) (h2 : 1 ≤ b) : a * b ≠ 0 := Int.mul_ne_zero (by omega) (by omega)
theorem right_neg (n d : Int) : rightB (-n) d = rightB n d := by
  rw [Bool.eq_iff_iff, rightB_iff, rightB_iff, Int.neg_gcd]
  constructor
  · rintro ⟨a, b, c, e, f⟩; exact ⟨a, b, by omega, by omega, f⟩
  · rintro ⟨a, b, c, e, f⟩; exact ⟨a, b, by omega, by omega, f⟩
end M

/-- The answer of an operation. -/
abbrev opV (r : Bool) (p q : Int) : Value := .agg #[.int .i64 (M.xN r p q), .int .i64 (M.xD r p q), .int .i64 (M.xC r p q)]

theorem opV_no (p q : Int) : opV false p q = .agg #[.int .i64 0, .int .i64 0, .int .i64 1] := rfl
theorem opV_yes (p q : Int) : opV true p q = .agg #[.int .i64 (M.oN p q), .int .i64 (M.oD p q), .int .i64 (M.codeF p q)] := rfl

/-- Two fractions in two new blocks, still there in a later world. -/
theorem two_later {w w' : World} {n1 d1 n2 d2 : Int} {t : TypeId} (h : Below (w.heap.size + 2) ((w.alloc (.cells #[.int .i64 n1, .int .i64 d1] t)).alloc (.cells #[.int .i64 n2, .int .i64 d2] t)) w') :
    w'.cell? ⟨w.heap.size, 0, none⟩ = some (.int .i64 n1) ∧ w'.cell? ⟨w.heap.size, 1, none⟩ = some (.int .i64 d1) ∧ w'.cell? ⟨w.heap.size + 1, 0, none⟩ = some (.int .i64 n2) ∧ w'.cell? ⟨w.heap.size + 1, 1, none⟩ = some (.int .i64 d2) ∧ w.heap.size + 1 < w'.heap.size ∧ Hid (Below w.heap.size w w') := by
  refine ⟨?_, ?_, ?_, ?_, ?_, ?_⟩
  · rw [h.cell (by simp)]; simp [World.cell?_alloc_lt]
  · rw [h.cell (by simp)]; simp [World.cell?_alloc_lt]
  · rw [h.cell (by simp)]; simp
  · rw [h.cell (by simp)]; simp
  · have := h.size; simp at this; omega
  · exact (((Below.refl _ _).alloc (Nat.le_refl _) _).alloc (by simp) _).trans (h.mono (by omega))

theorem two_keep {w W W' : World} {n1 d1 n2 d2 : Int} (hb : Below W.heap.size W W') (h : W.cell? ⟨w.heap.size, 0, none⟩ = some (.int .i64 n1) ∧ W.cell? ⟨w.heap.size, 1, none⟩ = some (.int .i64 d1) ∧ W.cell? ⟨w.heap.size + 1, 0, none⟩ = some (.int .i64 n2) ∧ W.cell? ⟨w.heap.size + 1, 1, none⟩ = some (.int .i64 d2) ∧ w.heap.size + 1 < W.heap.size ∧ Hid (Below w.heap.size w W)) :
    W'.cell? ⟨w.heap.size, 0, none⟩ = some (.int .i64 n1) ∧ W'.cell? ⟨w.heap.size, 1, none⟩ = some (.int .i64 d1) ∧ W'.cell? ⟨w.heap.size + 1, 0, none⟩ = some (.int .i64 n2) ∧ W'.cell? ⟨w.heap.size + 1, 1, none⟩ = some (.int .i64 d2) ∧ w.heap.size + 1 < W'.heap.size ∧ Hid (Below w.heap.size w W') := by
  obtain ⟨c1, c2, c3, c4, hz, hB⟩ := h
  refine ⟨?_, ?_, ?_, ?_, ?_, ?_⟩
  · rw [hb.cell (by show w.heap.size < _; omega)]; exact c1
  · rw [hb.cell (by show w.heap.size < _; omega)]; exact c2
  · rw [hb.cell (by show w.heap.size + 1 < _; omega)]; exact c3
  · rw [hb.cell (by show w.heap.size + 1 < _; omega)]; exact c4
  · have := hb.size; omega
  · exact hB.out.trans (hb.mono (by omega))

/-- Two fractions and a slot of an answer in three new blocks. -/
theorem three_later {w w' : World} {n1 d1 n2 d2 : Int} {t s : TypeId} {x y z : Value} (h : Below (w.heap.size + 3) (((w.alloc (.cells #[.int .i64 n1, .int .i64 d1] t)).alloc (.cells #[.int .i64 n2, .int .i64 d2] t)).alloc (.cells #[x, y, z] s)) w') :
    (w'.cell? ⟨w.heap.size, 0, none⟩ = some (.int .i64 n1) ∧ w'.cell? ⟨w.heap.size, 1, none⟩ = some (.int .i64 d1) ∧ w'.cell? ⟨w.heap.size + 1, 0, none⟩ = some (.int .i64 n2) ∧ w'.cell? ⟨w.heap.size + 1, 1, none⟩ = some (.int .i64 d2) ∧ w.heap.size + 1 < w'.heap.size ∧ Hid (Below w.heap.size w w')) ∧
    (w'.cell? ⟨w.heap.size + 1 + 1, 0, none⟩ = some x ∧ w'.cell? ⟨w.heap.size + 1 + 1, 1, none⟩ = some y ∧ w'.cell? ⟨w.heap.size + 1 + 1, 2, none⟩ = some z ∧ w'.frozen? ⟨w.heap.size + 1 + 1, 0, none⟩ = false ∧ w'.frozen? ⟨w.heap.size + 1 + 1, 1, none⟩ = false ∧ w'.frozen? ⟨w.heap.size + 1 + 1, 2, none⟩ = false ∧ w.heap.size + 1 + 1 < w'.heap.size) := by
  have h2 : Below (w.heap.size + 2) ((w.alloc (.cells #[.int .i64 n1, .int .i64 d1] t)).alloc (.cells #[.int .i64 n2, .int .i64 d2] t)) w' :=
    ((Below.refl _ _).alloc (by simp) _).trans (h.mono (by omega))
  refine ⟨two_later h2, ?_⟩
  obtain ⟨a, b, c, d, e, f, g, _⟩ := kept3 (w := (w.alloc (.cells #[.int .i64 n1, .int .i64 d1] t)).alloc (.cells #[.int .i64 n2, .int .i64 d2] t)) (h.mono (by simp))
  simp only [World.size_alloc] at a b c d e f g
  exact ⟨a, b, c, d, e, f, g⟩

/-- A new block of two cells, still as it was in a later world. -/
theorem kept2 {w w1 : World} {t : TypeId} {x y : Value} (hb : Below (w.heap.size + 1) (w.alloc (.cells #[x, y] t)) w1) :
    w1.cell? ⟨w.heap.size, 0, none⟩ = some x ∧ w1.cell? ⟨w.heap.size, 1, none⟩ = some y ∧ w1.frozen? ⟨w.heap.size, 0, none⟩ = false ∧ w1.frozen? ⟨w.heap.size, 1, none⟩ = false ∧ w.heap.size < w1.heap.size := by
  refine ⟨?_, ?_, ?_, ?_, ?_⟩
  · rw [hb.cell (by simp)]; simp
  · rw [hb.cell (by simp)]; simp
  · rw [hb.frozen (by simp)]; simp
  · rw [hb.frozen (by simp)]; simp
  · have := hb.size; simp at this; omega

/-- .. behind a change of what lies above them. -/
theorem two_keepB {w W W' : World} {n1 d1 n2 d2 : Int} (hb : Below (w.heap.size + 2) W W') (h : (W.cell? ⟨w.heap.size, 0, none⟩ = some (.int .i64 n1) ∧ W.cell? ⟨w.heap.size, 1, none⟩ = some (.int .i64 d1) ∧ W.cell? ⟨w.heap.size + 1, 0, none⟩ = some (.int .i64 n2) ∧ W.cell? ⟨w.heap.size + 1, 1, none⟩ = some (.int .i64 d2) ∧ w.heap.size + 1 < W.heap.size ∧ Hid (Below w.heap.size w W))) : (W'.cell? ⟨w.heap.size, 0, none⟩ = some (.int .i64 n1) ∧ W'.cell? ⟨w.heap.size, 1, none⟩ = some (.int .i64 d1) ∧ W'.cell? ⟨w.heap.size + 1, 0, none⟩ = some (.int .i64 n2) ∧ W'.cell? ⟨w.heap.size + 1, 1, none⟩ = some (.int .i64 d2) ∧ w.heap.size + 1 < W'.heap.size ∧ Hid (Below w.heap.size w W')) := by
  obtain ⟨c1, c2, c3, c4, hz, hB⟩ := h
  refine ⟨?_, ?_, ?_, ?_, ?_, ?_⟩
  · rw [hb.cell (by show w.heap.size < _; omega)]; exact c1
  · rw [hb.cell (by show w.heap.size < _; omega)]; exact c2
  · rw [hb.cell (by show w.heap.size + 1 < _; omega)]; exact c3
  · rw [hb.cell (by show w.heap.size + 1 < _; omega)]; exact c4
  · have := hb.size; omega
  · exact hB.out.trans (hb.mono (by omega))

theorem below_swap {B : Nat} {W : World} (o o' : Obj) (h : B ≤ W.heap.size) : Below B (W.alloc o) (W.alloc o') :=
  ⟨rfl, rfl, rfl, by simp, fun k hk => by rw [Below.heap_alloc _ _ _ (by omega), Below.heap_alloc _ _ _ (by omega)]⟩

theorem two_swap {w W : World} {n1 d1 n2 d2 : Int} {o o' : Obj} (hz : w.heap.size + 2 ≤ W.heap.size) (h : ((W.alloc o).cell? ⟨w.heap.size, 0, none⟩ = some (.int .i64 n1) ∧ (W.alloc o).cell? ⟨w.heap.size, 1, none⟩ = some (.int .i64 d1) ∧ (W.alloc o).cell? ⟨w.heap.size + 1, 0, none⟩ = some (.int .i64 n2) ∧ (W.alloc o).cell? ⟨w.heap.size + 1, 1, none⟩ = some (.int .i64 d2) ∧ w.heap.size + 1 < (W.alloc o).heap.size ∧ Hid (Below w.heap.size w (W.alloc o)))) : ((W.alloc o').cell? ⟨w.heap.size, 0, none⟩ = some (.int .i64 n1) ∧ (W.alloc o').cell? ⟨w.heap.size, 1, none⟩ = some (.int .i64 d1) ∧ (W.alloc o').cell? ⟨w.heap.size + 1, 0, none⟩ = some (.int .i64 n2) ∧ (W.alloc o').cell? ⟨w.heap.size + 1, 1, none⟩ = some (.int .i64 d2) ∧ w.heap.size + 1 < (W.alloc o').heap.size ∧ Hid (Below w.heap.size w (W.alloc o'))) :=
  two_keepB (below_swap o o' hz) h

theorem two_sets {w W : World} {n1 d1 n2 d2 : Int} {b : Nat} {x y z : Value} (hz : w.heap.size + 2 ≤ b) (h : (W.cell? ⟨w.heap.size, 0, none⟩ = some (.int .i64 n1) ∧ W.cell? ⟨w.heap.size, 1, none⟩ = some (.int .i64 d1) ∧ W.cell? ⟨w.heap.size + 1, 0, none⟩ = some (.int .i64 n2) ∧ W.cell? ⟨w.heap.size + 1, 1, none⟩ = some (.int .i64 d2) ∧ w.heap.size + 1 < W.heap.size ∧ Hid (Below w.heap.size w W))) : ((((W.setCell ⟨b, 0, none⟩ x).setCell ⟨b, 1, none⟩ y).setCell ⟨b, 2, none⟩ z).cell? ⟨w.heap.size, 0, none⟩ = some (.int .i64 n1) ∧ (((W.setCell ⟨b, 0, none⟩ x).setCell ⟨b, 1, none⟩ y).setCell ⟨b, 2, none⟩ z).cell? ⟨w.heap.size, 1, none⟩ = some (.int .i64 d1) ∧ (((W.setCell ⟨b, 0, none⟩ x).setCell ⟨b, 1, none⟩ y).setCell ⟨b, 2, none⟩ z).cell? ⟨w.heap.size + 1, 0, none⟩ = some (.int .i64 n2) ∧ (((W.setCell ⟨b, 0, none⟩ x).setCell ⟨b, 1, none⟩ y).setCell ⟨b, 2, none⟩ z).cell? ⟨w.heap.size + 1, 1, none⟩ = some (.int .i64 d2) ∧ w.heap.size + 1 < (((W.setCell ⟨b, 0, none⟩ x).setCell ⟨b, 1, none⟩ y).setCell ⟨b, 2, none⟩ z).heap.size ∧ Hid (Below w.heap.size w (((W.setCell ⟨b, 0, none⟩ x).setCell ⟨b, 1, none⟩ y).setCell ⟨b, 2, none⟩ z))) :=
  two_keepB (below_set3 (Below.refl _ _) hz x y z) h

theorem and6 {A B C D E F P : Prop} (h : A ∧ B ∧ C ∧ D ∧ E ∧ F) (k : A → B → C → D → E → F → P) : P := k h.1 h.2.1 h.2.2.1 h.2.2.2.1 h.2.2.2.2.1 h.2.2.2.2.2
theorem and6_of {A B C D E F : Prop} (a : A) (b : B) (c : C) (d : D) (e : E) (f : F) : A ∧ B ∧ C ∧ D ∧ E ∧ F := ⟨a, b, c, d, e, f⟩

/-- A slot of an answer that was made ahead of a call: it is there behind it. -/
theorem slot_keep {w W : World} {b : Nat} (hb : Below W.heap.size W w) (h : W.cell? ⟨b, 0, none⟩ = some (.int .i64 0) ∧ W.cell? ⟨b, 1, none⟩ = some (.int .i64 0) ∧ W.cell? ⟨b, 2, none⟩ = some (.int .i64 0) ∧ W.frozen? ⟨b, 0, none⟩ = false ∧ W.frozen? ⟨b, 1, none⟩ = false ∧ W.frozen? ⟨b, 2, none⟩ = false) :
    w.cell? ⟨b, 0, none⟩ = some (.int .i64 0) ∧ w.cell? ⟨b, 1, none⟩ = some (.int .i64 0) ∧ w.cell? ⟨b, 2, none⟩ = some (.int .i64 0) ∧ w.frozen? ⟨b, 0, none⟩ = false ∧ w.frozen? ⟨b, 1, none⟩ = false ∧ w.frozen? ⟨b, 2, none⟩ = false := by
  obtain ⟨c0, c1, c2, f0, f1, f2⟩ := h
  have hl : b < W.heap.size := World.block_lt_of_cell? _ _ c0
  exact ⟨(hb.cell (p := ⟨b, 0, none⟩) hl).trans c0, (hb.cell (p := ⟨b, 1, none⟩) hl).trans c1, (hb.cell (p := ⟨b, 2, none⟩) hl).trans c2, (hb.frozen (p := ⟨b, 0, none⟩) hl).trans f0, (hb.frozen (p := ⟨b, 1, none⟩) hl).trans f1, (hb.frozen (p := ⟨b, 2, none⟩) hl).trans f2⟩

theorem slot_new {w W : World} {t : TypeId} (hb : Below (W.alloc (.cells #[.int .i64 0, .int .i64 0, .int .i64 0] t)).heap.size (W.alloc (.cells #[.int .i64 0, .int .i64 0, .int .i64 0] t)) w) :
    w.cell? ⟨W.heap.size, 0, none⟩ = some (.int .i64 0) ∧ w.cell? ⟨W.heap.size, 1, none⟩ = some (.int .i64 0) ∧ w.cell? ⟨W.heap.size, 2, none⟩ = some (.int .i64 0) ∧ w.frozen? ⟨W.heap.size, 0, none⟩ = false ∧ w.frozen? ⟨W.heap.size, 1, none⟩ = false ∧ w.frozen? ⟨W.heap.size, 2, none⟩ = false := by
  obtain ⟨c0, c1, c2, f0, f1, f2, _, _⟩ := kept3 (hb.mono (by simp))
  exact ⟨c0, c1, c2, f0, f1, f2⟩

theorem slot_newD {w W : World} {t : TypeId} (hb : Below (W.alloc (.cells #[.int .i64 0, .int .i64 0, .int .i64 0] t)).drew.heap.size (W.alloc (.cells #[.int .i64 0, .int .i64 0, .int .i64 0] t)).drew w) :
    w.cell? ⟨W.heap.size, 0, none⟩ = some (.int .i64 0) ∧ w.cell? ⟨W.heap.size, 1, none⟩ = some (.int .i64 0) ∧ w.cell? ⟨W.heap.size, 2, none⟩ = some (.int .i64 0) ∧ w.frozen? ⟨W.heap.size, 0, none⟩ = false ∧ w.frozen? ⟨W.heap.size, 1, none⟩ = false ∧ w.frozen? ⟨W.heap.size, 2, none⟩ = false :=
  slot_new ⟨hb.os, hb.tape, hb.output, hb.size, hb.block⟩

theorem read_set3 {W : World} {b : Nat} {u0 u1 u2 : Value} (s0 : W.cell? ⟨b, 0, none⟩ = some u0) (s1 : W.cell? ⟨b, 1, none⟩ = some u1) (s2 : W.cell? ⟨b, 2, none⟩ = some u2) (x y z : Value) :
    (((W.setCell ⟨b, 0, none⟩ x).setCell ⟨b, 1, none⟩ y).setCell ⟨b, 2, none⟩ z).cell? ⟨b, 0, none⟩ = some x ∧ (((W.setCell ⟨b, 0, none⟩ x).setCell ⟨b, 1, none⟩ y).setCell ⟨b, 2, none⟩ z).cell? ⟨b, 1, none⟩ = some y ∧ (((W.setCell ⟨b, 0, none⟩ x).setCell ⟨b, 1, none⟩ y).setCell ⟨b, 2, none⟩ z).cell? ⟨b, 2, none⟩ = some z := by
  refine ⟨?_, ?_, ?_⟩
  · rw [World.cell?_setCell_other _ _ _ _ (by simp), World.cell?_setCell_other _ _ _ _ (by simp)]
    exact World.cell?_setCell_same _ _ _ s0
  · rw [World.cell?_setCell_other _ _ _ _ (by simp)]
    exact World.cell?_setCell_same _ _ _ (by rw [World.cell?_setCell_other _ _ _ _ (by simp)]; exact s1)
  · exact World.cell?_setCell_same _ _ _ (by rw [World.cell?_setCell_other _ _ _ _ (by simp), World.cell?_setCell_other _ _ _ _ (by simp)]; exact s2)

/-- The two fractions in a world V, and in every later one in which what V has is as it was. -/
theorem fromC {w V W : World} {n1 d1 n2 d2 : Int} (hS : Hid (V.cell? ⟨w.heap.size, 0, none⟩ = some (.int .i64 n1) ∧ V.cell? ⟨w.heap.size, 1, none⟩ = some (.int .i64 d1) ∧ V.cell? ⟨w.heap.size + 1, 0, none⟩ = some (.int .i64 n2) ∧ V.cell? ⟨w.heap.size + 1, 1, none⟩ = some (.int .i64 d2) ∧ w.heap.size + 1 < V.heap.size ∧ Hid (Below w.heap.size w V))) (hB : Below V.heap.size V W) : (W.cell? ⟨w.heap.size, 0, none⟩ = some (.int .i64 n1) ∧ W.cell? ⟨w.heap.size, 1, none⟩ = some (.int .i64 d1) ∧ W.cell? ⟨w.heap.size + 1, 0, none⟩ = some (.int .i64 n2) ∧ W.cell? ⟨w.heap.size + 1, 1, none⟩ = some (.int .i64 d2) ∧ V.heap.size ≤ W.heap.size ∧ Hid (Below V.heap.size V W)) := by
  obtain ⟨c1, c2, c3, c4, hz, _⟩ := hS.out
  refine ⟨?_, ?_, ?_, ?_, hB.size, hB⟩
  · exact (hB.cell (p := ⟨w.heap.size, 0, none⟩) (by show w.heap.size < _; omega)).trans c1
  · exact (hB.cell (p := ⟨w.heap.size, 1, none⟩) (by show w.heap.size < _; omega)).trans c2
  · exact (hB.cell (p := ⟨w.heap.size + 1, 0, none⟩) hz).trans c3
  · exact (hB.cell (p := ⟨w.heap.size + 1, 1, none⟩) hz).trans c4
theorem keepC {w V W W' : World} {n1 d1 n2 d2 : Int} (hS : Hid (V.cell? ⟨w.heap.size, 0, none⟩ = some (.int .i64 n1) ∧ V.cell? ⟨w.heap.size, 1, none⟩ = some (.int .i64 d1) ∧ V.cell? ⟨w.heap.size + 1, 0, none⟩ = some (.int .i64 n2) ∧ V.cell? ⟨w.heap.size + 1, 1, none⟩ = some (.int .i64 d2) ∧ w.heap.size + 1 < V.heap.size ∧ Hid (Below w.heap.size w V))) (hb : Below W.heap.size W W') (h : (W.cell? ⟨w.heap.size, 0, none⟩ = some (.int .i64 n1) ∧ W.cell? ⟨w.heap.size, 1, none⟩ = some (.int .i64 d1) ∧ W.cell? ⟨w.heap.size + 1, 0, none⟩ = some (.int .i64 n2) ∧ W.cell? ⟨w.heap.size + 1, 1, none⟩ = some (.int .i64 d2) ∧ V.heap.size ≤ W.heap.size ∧ Hid (Below V.heap.size V W))) : (W'.cell? ⟨w.heap.size, 0, none⟩ = some (.int .i64 n1) ∧ W'.cell? ⟨w.heap.size, 1, none⟩ = some (.int .i64 d1) ∧ W'.cell? ⟨w.heap.size + 1, 0, none⟩ = some (.int .i64 n2) ∧ W'.cell? ⟨w.heap.size + 1, 1, none⟩ = some (.int .i64 d2) ∧ V.heap.size ≤ W'.heap.size ∧ Hid (Below V.heap.size V W')) := fromC hS (h.2.2.2.2.2.out.trans (hb.mono h.2.2.2.2.1))
theorem swapC {w V W : World} {n1 d1 n2 d2 : Int} {o o' : Obj} (hS : Hid (V.cell? ⟨w.heap.size, 0, none⟩ = some (.int .i64 n1) ∧ V.cell? ⟨w.heap.size, 1, none⟩ = some (.int .i64 d1) ∧ V.cell? ⟨w.heap.size + 1, 0, none⟩ = some (.int .i64 n2) ∧ V.cell? ⟨w.heap.size + 1, 1, none⟩ = some (.int .i64 d2) ∧ w.heap.size + 1 < V.heap.size ∧ Hid (Below w.heap.size w V))) (hz : V.heap.size ≤ W.heap.size) (h : ((W.alloc o).cell? ⟨w.heap.size, 0, none⟩ = some (.int .i64 n1) ∧ (W.alloc o).cell? ⟨w.heap.size, 1, none⟩ = some (.int .i64 d1) ∧ (W.alloc o).cell? ⟨w.heap.size + 1, 0, none⟩ = some (.int .i64 n2) ∧ (W.alloc o).cell? ⟨w.heap.size + 1, 1, none⟩ = some (.int .i64 d2) ∧ V.heap.size ≤ (W.alloc o).heap.size ∧ Hid (Below V.heap.size V (W.alloc o)))) : ((W.alloc o').cell? ⟨w.heap.size, 0, none⟩ = some (.int .i64 n1) ∧ (W.alloc o').cell? ⟨w.heap.size, 1, none⟩ = some (.int .i64 d1) ∧ (W.alloc o').cell? ⟨w.heap.size + 1, 0, none⟩ = some (.int .i64 n2) ∧ (W.alloc o').cell? ⟨w.heap.size + 1, 1, none⟩ = some (.int .i64 d2) ∧ V.heap.size ≤ (W.alloc o').heap.size ∧ Hid (Below V.heap.size V (W.alloc o'))) := fromC hS (h.2.2.2.2.2.out.trans (below_swap o o' hz))
theorem setsC {w V W : World} {n1 d1 n2 d2 : Int} {b : Nat} {x y z : Value} (hS : Hid (V.cell? ⟨w.heap.size, 0, none⟩ = some (.int .i64 n1) ∧ V.cell? ⟨w.heap.size, 1, none⟩ = some (.int .i64 d1) ∧ V.cell? ⟨w.heap.size + 1, 0, none⟩ = some (.int .i64 n2) ∧ V.cell? ⟨w.heap.size + 1, 1, none⟩ = some (.int .i64 d2) ∧ w.heap.size + 1 < V.heap.size ∧ Hid (Below w.heap.size w V))) (hz : V.heap.size ≤ b) (h : (W.cell? ⟨w.heap.size, 0, none⟩ = some (.int .i64 n1) ∧ W.cell? ⟨w.heap.size, 1, none⟩ = some (.int .i64 d1) ∧ W.cell? ⟨w.heap.size + 1, 0, none⟩ = some (.int .i64 n2) ∧ W.cell? ⟨w.heap.size + 1, 1, none⟩ = some (.int .i64 d2) ∧ V.heap.size ≤ W.heap.size ∧ Hid (Below V.heap.size V W))) : ((((W.setCell ⟨b, 0, none⟩ x).setCell ⟨b, 1, none⟩ y).setCell ⟨b, 2, none⟩ z).cell? ⟨w.heap.size, 0, none⟩ = some (.int .i64 n1) ∧ (((W.setCell ⟨b, 0, none⟩ x).setCell ⟨b, 1, none⟩ y).setCell ⟨b, 2, none⟩ z).cell? ⟨w.heap.size, 1, none⟩ = some (.int .i64 d1) ∧ (((W.setCell ⟨b, 0, none⟩ x).setCell ⟨b, 1, none⟩ y).setCell ⟨b, 2, none⟩ z).cell? ⟨w.heap.size + 1, 0, none⟩ = some (.int .i64 n2) ∧ (((W.setCell ⟨b, 0, none⟩ x).setCell ⟨b, 1, none⟩ y).setCell ⟨b, 2, none⟩ z).cell? ⟨w.heap.size + 1, 1, none⟩ = some (.int .i64 d2) ∧ V.heap.size ≤ (((W.setCell ⟨b, 0, none⟩ x).setCell ⟨b, 1, none⟩ y).setCell ⟨b, 2, none⟩ z).heap.size ∧ Hid (Below V.heap.size V (((W.setCell ⟨b, 0, none⟩ x).setCell ⟨b, 1, none⟩ y).setCell ⟨b, 2, none⟩ z))) := fromC hS (below_set3 h.2.2.2.2.2.out hz x y z)

/-- Two fractions and a slot of a fraction in three new blocks. -/
theorem three2_later {w w' : World} {n1 d1 n2 d2 : Int} {t s : TypeId} {x y : Value} (h : Below (w.heap.size + 3) (((w.alloc (.cells #[.int .i64 n1, .int .i64 d1] t)).alloc (.cells #[.int .i64 n2, .int .i64 d2] t)).alloc (.cells #[x, y] s)) w') :
    (w'.cell? ⟨w.heap.size, 0, none⟩ = some (.int .i64 n1) ∧ w'.cell? ⟨w.heap.size, 1, none⟩ = some (.int .i64 d1) ∧ w'.cell? ⟨w.heap.size + 1, 0, none⟩ = some (.int .i64 n2) ∧ w'.cell? ⟨w.heap.size + 1, 1, none⟩ = some (.int .i64 d2) ∧ w.heap.size + 1 < w'.heap.size ∧ Hid (Below w.heap.size w w')) ∧
    (w'.cell? ⟨w.heap.size + 1 + 1, 0, none⟩ = some x ∧ w'.cell? ⟨w.heap.size + 1 + 1, 1, none⟩ = some y ∧ w'.frozen? ⟨w.heap.size + 1 + 1, 0, none⟩ = false ∧ w'.frozen? ⟨w.heap.size + 1 + 1, 1, none⟩ = false ∧ w.heap.size + 1 + 1 < w'.heap.size) := by
  have h2 : Below (w.heap.size + 2) ((w.alloc (.cells #[.int .i64 n1, .int .i64 d1] t)).alloc (.cells #[.int .i64 n2, .int .i64 d2] t)) w' :=
    ((Below.refl _ _).alloc (by simp) _).trans (h.mono (by omega))
  refine ⟨two_later h2, ?_⟩
  obtain ⟨a, b, c, d, e⟩ := kept2 (w := (w.alloc (.cells #[.int .i64 n1, .int .i64 d1] t)).alloc (.cells #[.int .i64 n2, .int .i64 d2] t)) (h.mono (by simp))
  simp only [World.size_alloc] at a b c d e
  exact ⟨a, b, c, d, e⟩

theorem read_set2 {w4 : World} {b : Nat} {u v : Value} (s0 : w4.cell? ⟨b, 0, none⟩ = some u) (s1 : w4.cell? ⟨b, 1, none⟩ = some v) (x y : Value) (o : Obj) :
    (((w4.setCell ⟨b, 0, none⟩ x).setCell ⟨b, 1, none⟩ y).alloc o).cell? ⟨b, 0, none⟩ = some x ∧ (((w4.setCell ⟨b, 0, none⟩ x).setCell ⟨b, 1, none⟩ y).alloc o).cell? ⟨b, 1, none⟩ = some y := by
  have hl : b < w4.heap.size := World.block_lt_of_cell? _ _ s0
  constructor
  · rw [World.cell?_alloc_lt _ _ ⟨b, 0, none⟩ (by simpa using hl)]
    rw [World.cell?_setCell_other _ _ _ _ (by simp)]
    exact World.cell?_setCell_same _ _ _ s0
  · rw [World.cell?_alloc_lt _ _ ⟨b, 1, none⟩ (by simpa using hl)]
    exact World.cell?_setCell_same _ _ _ (by rw [World.cell?_setCell_other _ _ _ _ (by simp)]; exact s1)

theorem below_set2 {w w1 : World} {B b : Nat} (h : Below B w w1) (hp : B ≤ b) (x y : Value) : Below B w ((w1.setCell ⟨b, 0, none⟩ x).setCell ⟨b, 1, none⟩ y) :=
  (h.setCell (p := ⟨b, 0, none⟩) hp x).setCell (p := ⟨b, 1, none⟩) hp y

end Go.Proofs.YtkaokfmaecdkiaaGreatDoor
