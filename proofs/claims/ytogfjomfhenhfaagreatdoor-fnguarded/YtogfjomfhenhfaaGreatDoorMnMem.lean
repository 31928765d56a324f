/-
  Mains as they lie in memory: pipes of five numbers, loops that are lists of lists, wants.
-/
import Derived.Test.YtogfjomfhenhfaaGreatDoorNtMem
namespace Go.Proofs.YtogfjomfhenhfaaGreatDoor
open Go.RowKit Go.Deep

namespace Mn
/-- Mains: nodes, the head, the pipes (five numbers each), the loops (each with its length), the wants. -/
structure Mains where
  nodes : Int
  head : Int
  pn : Nat
  P : Nat → Int
  ln : Nat
  LN : Nat → Nat
  L : Nat → Nat → Int
  wn : Nat
  W : Nat → Int
/-- How many numbers the first lists have together. -/
def tot (f : Nat → Nat) : Nat → Nat
  | 0 => 0
  | i + 1 => tot f i + f i
theorem tot_le (f : Nat → Nat) (n : Nat) : ∀ i, i ≤ n → tot f i ≤ tot f n := by
  induction n with
  | zero =>
    intro i hi
    have e : i = 0 := by omega
    rw [e]; exact Nat.le_refl _
  | succ k ih =>
    intro i hi
    by_cases e : i = k + 1
    · subst e; exact Nat.le_refl _
    · have := ih i (by omega)
      simp only [tot]; omega
theorem le_tot (f : Nat → Nat) {i n : Nat} (h : i < n) : f i ≤ tot f n := by
  have := tot_le f n (i + 1) h
  simp only [tot] at this
  omega
end Mn
/-- A list of lists of numbers, from the beginning of a block on. -/
def LsAt (a : Option Addr) (n : Nat) (LN : Nat → Nat) (L : Nat → Nat → Int) (w : World) : Prop := n = 0 ∨ ∃ b, a = some ⟨b, 0, none⟩ ∧ ∀ i, i < n → ∃ ai ci, w.cell? ⟨b, i, none⟩ = some (.slice ai (LN i) ci) ∧ IsAt ai (LN i) (L i) w
theorem LsAt.below {a : Option Addr} {n : Nat} {LN : Nat → Nat} {L : Nat → Nat → Int} {w w' : World} (h : LsAt a n LN L w) (hb : Below w.heap.size w w') : LsAt a n LN L w' := by
  rcases h with h | ⟨b, e, h⟩
  · exact Or.inl h
  · refine Or.inr ⟨b, e, fun i hi => ?_⟩
    obtain ⟨ai, ci, h1, h2⟩ := h i hi
    exact ⟨ai, ci, (hb.cell (World.block_lt_of_cell? _ _ h1)).trans h1, h2.below hb⟩
theorem LsAt.one {a : Option Addr} {n i : Nat} {LN : Nat → Nat} {L : Nat → Nat → Int} {w : World} (h : LsAt a n LN L w) (hi : i < n) : ∃ b, a = some ⟨b, 0, none⟩ ∧ ∃ ai ci, w.cell? ⟨b, i, none⟩ = some (.slice ai (LN i) ci) ∧ IsAt ai (LN i) (L i) w := by
  rcases h with h | ⟨b, e, h⟩
  · omega
  · exact ⟨b, e, h i hi⟩
/-- A list of lists that was handed in. -/
def LsIn (a : Option Addr) (n : Nat) (LN : Nat → Nat) (L : Nat → Nat → Int) (w : World) : Prop := n = 0 ∨ ∃ b o, a = some ⟨b, o, none⟩ ∧ ∀ i, i < n → ∃ ai ci, w.cell? ⟨b, o + i, none⟩ = some (.slice ai (LN i) ci) ∧ IsIn ai (LN i) (L i) w
theorem LsIn.below {a : Option Addr} {n : Nat} {LN : Nat → Nat} {L : Nat → Nat → Int} {w w' : World} (h : LsIn a n LN L w) (hb : Below w.heap.size w w') : LsIn a n LN L w' := by
  rcases h with h | ⟨b, o, e, h⟩
  · exact Or.inl h
  · refine Or.inr ⟨b, o, e, fun i hi => ?_⟩
    obtain ⟨ai, ci, h1, h2⟩ := h i hi
    exact ⟨ai, ci, (hb.cell (World.block_lt_of_cell? _ _ h1)).trans h1, h2.below hb⟩
theorem LsIn.one {a : Option Addr} {n i : Nat} {LN : Nat → Nat} {L : Nat → Nat → Int} {w : World} (h : LsIn a n LN L w) (hi : i < n) : ∃ b o, a = some ⟨b, o, none⟩ ∧ ∃ ai ci, w.cell? ⟨b, o + i, none⟩ = some (.slice ai (LN i) ci) ∧ IsIn ai (LN i) (L i) w := by
  rcases h with h | ⟨b, o, e, h⟩
  · omega
  · exact ⟨b, o, e, h i hi⟩
/-- The value of mains. -/
abbrev mnV (m : Mn.Mains) (pa : Option Addr) (pk : Nat) (la : Option Addr) (lk : Nat) (wa : Option Addr) (wk : Nat) : Value := .agg #[.int .i64 m.nodes, .int .i64 m.head, .slice pa m.pn pk, .slice la m.ln lk, .slice wa m.wn wk]
abbrev mnL (m : Mn.Mains) (pa : Option Addr) (pk : Nat) (la : Option Addr) (lk : Nat) (wa : Option Addr) (wk : Nat) : List Value := [.int .i64 m.nodes, .int .i64 m.head, .slice pa m.pn pk, .slice la m.ln lk, .slice wa m.wn wk]
structure MnAt (m : Mn.Mains) (pa la wa : Option Addr) (w : World) : Prop where
  p : IsAt pa (m.pn * 5) m.P w
  l : LsAt la m.ln m.LN m.L w
  w : IsAt wa m.wn m.W w
theorem MnAt.below {m : Mn.Mains} {pa la wa : Option Addr} {w w' : World} (h : MnAt m pa la wa w) (hb : Below w.heap.size w w') : MnAt m pa la wa w' := ⟨h.p.below hb, h.l.below hb, h.w.below hb⟩
structure MnIn (m : Mn.Mains) (pa la wa : Option Addr) (w : World) : Prop where
  p : IsIn pa (m.pn * 5) m.P w
  l : LsIn la m.ln m.LN m.L w
  w : IsIn wa m.wn m.W w
theorem MnIn.below {m : Mn.Mains} {pa la wa : Option Addr} {w w' : World} (h : MnIn m pa la wa w) (hb : Below w.heap.size w w') : MnIn m pa la wa w' := ⟨h.p.below hb, h.l.below hb, h.w.below hb⟩
/-- No list is longer than a list can be. -/
def MnLens (m : Mn.Mains) : Prop := m.pn ≤ 9223372036854775807 ∧ m.ln ≤ 9223372036854775807 ∧ (∀ i, i < m.ln → m.LN i ≤ 9223372036854775807) ∧ m.wn ≤ 9223372036854775807
/-- What a test of the sizes tells. -/
def MnSmall (m : Mn.Mains) : Prop := m.pn ≤ 1048576 ∧ m.ln ≤ 1048576 ∧ Mn.tot m.LN m.ln ≤ 1048576 ∧ m.wn ≤ 1048576
theorem MnSmall.one {m : Mn.Mains} (h : MnSmall m) {i : Nat} (hi : i < m.ln) : m.LN i ≤ 1048576 := Nat.le_trans (Mn.le_tot m.LN hi) h.2.2.1
/-- What stands in a call that was handed mains: their block, the lists, the old memory. -/
structure MnS (T : TypeId) (m : Mn.Mains) (pa : Option Addr) (pk : Nat) (la : Option Addr) (lk : Nat) (wa : Option Addr) (wk : Nat) (w W : World) : Prop where
  row : W.rowIs w.heap.size T 5 (rowN (mnL m pa pk la lk wa wk))
  at_ : MnAt m pa la wa W
  old : Below w.heap.size w W
theorem MnS.below {T : TypeId} {m : Mn.Mains} {pa : Option Addr} {pk : Nat} {la : Option Addr} {lk : Nat} {wa : Option Addr} {wk : Nat} {w W W' : World} (h : MnS T m pa pk la lk wa wk w W) (hb : Below W.heap.size W W') : MnS T m pa pk la lk wa wk w W' := ⟨nrow_below h.row hb, h.at_.below hb, h.old.trans (hb.mono h.old.size)⟩
theorem MnS.alloc {T : TypeId} {m : Mn.Mains} {pa : Option Addr} {pk : Nat} {la : Option Addr} {lk : Nat} {wa : Option Addr} {wk : Nat} {w W : World} (h : MnS T m pa pk la lk wa wk w W) (o : Obj) : MnS T m pa pk la lk wa wk w (W.alloc o) := h.below (nbel_alloc W o)
theorem MnS.drewN {T : TypeId} {m : Mn.Mains} {pa : Option Addr} {pk : Nat} {la : Option Addr} {lk : Nat} {wa : Option Addr} {wk : Nat} {w W : World} (h : MnS T m pa pk la lk wa wk w W) (k : Nat) : MnS T m pa pk la lk wa wk w (W.drewN k) := h.below (ndrewN (Below.refl _ _) k)
theorem MnS.drew {T : TypeId} {m : Mn.Mains} {pa : Option Addr} {pk : Nat} {la : Option Addr} {lk : Nat} {wa : Option Addr} {wk : Nat} {w W : World} (h : MnS T m pa pk la lk wa wk w W) : MnS T m pa pk la lk wa wk w W.drew := h.below (Below.refl _ _).drew
theorem MnS.new (T : TypeId) {m : Mn.Mains} {pa : Option Addr} {pk : Nat} {la : Option Addr} {lk : Nat} {wa : Option Addr} {wk : Nat} {w : World} (h : MnAt m pa la wa w) : MnS T m pa pk la lk wa wk w (w.alloc (.cells #[.int .i64 m.nodes, .int .i64 m.head, .slice pa m.pn pk, .slice la m.ln lk, .slice wa m.wn wk] T)) :=
  ⟨rowN_alloc w (mnL m pa pk la lk wa wk) T, h.below (nbel_alloc _ _), nbel_alloc _ _⟩
theorem rowN5 {w : World} {g : Nat} {t : TypeId} {a b c d e : Value} (h : w.rowIs g t 5 (rowN [a, b, c, d, e])) : (w.cell? ⟨g, 0, none⟩ = some a ∧ w.cell? ⟨g, 1, none⟩ = some b ∧ w.cell? ⟨g, 2, none⟩ = some c ∧ w.cell? ⟨g, 3, none⟩ = some d ∧ w.cell? ⟨g, 4, none⟩ = some e) ∧ (w.frozen? ⟨g, 0, none⟩ = false ∧ w.frozen? ⟨g, 1, none⟩ = false ∧ w.frozen? ⟨g, 2, none⟩ = false ∧ w.frozen? ⟨g, 3, none⟩ = false ∧ w.frozen? ⟨g, 4, none⟩ = false) :=
  ⟨⟨h.cell (by omega), h.cell (by omega), h.cell (by omega), h.cell (by omega), h.cell (by omega)⟩, h.frozen 0, h.frozen 1, h.frozen 2, h.frozen 3, h.frozen 4⟩
theorem rowN6 {w : World} {g : Nat} {t : TypeId} {a b c d e f : Value} (h : w.rowIs g t 6 (rowN [a, b, c, d, e, f])) : (w.cell? ⟨g, 0, none⟩ = some a ∧ w.cell? ⟨g, 1, none⟩ = some b ∧ w.cell? ⟨g, 2, none⟩ = some c ∧ w.cell? ⟨g, 3, none⟩ = some d ∧ w.cell? ⟨g, 4, none⟩ = some e ∧ w.cell? ⟨g, 5, none⟩ = some f) ∧ (w.frozen? ⟨g, 0, none⟩ = false ∧ w.frozen? ⟨g, 1, none⟩ = false ∧ w.frozen? ⟨g, 2, none⟩ = false ∧ w.frozen? ⟨g, 3, none⟩ = false ∧ w.frozen? ⟨g, 4, none⟩ = false ∧ w.frozen? ⟨g, 5, none⟩ = false) :=
  ⟨⟨h.cell (by omega), h.cell (by omega), h.cell (by omega), h.cell (by omega), h.cell (by omega), h.cell (by omega)⟩, h.frozen 0, h.frozen 1, h.frozen 2, h.frozen 3, h.frozen 4, h.frozen 5⟩
end Go.Proofs.YtogfjomfhenhfaaGreatDoor
