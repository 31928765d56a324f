/-
  Numbers that lie in memory, cell by cell (lists of links, of fixed heads, of fractions and of numbers alike), and nets.
-/
import Derived.Test.YtogfjomfhenhfaaGreatDoorNums
import Derived.Laws.AppendOwn
import Derived.OwnWalk
import Derived.Deep.OwnRows
import Derived.Deep.Heap
import Derived.WalkMore
import Derived.Lib.Hide
import Derived.Lib.SliceRun
import Derived.Deep.RegionWith
namespace Go.Proofs.YtogfjomfhenhfaaGreatDoor
open Go.RowKit Go.Deep

/-- A Boolean that tells this. -/
def BoolEnd (P : Prop) (e : Ending) : Prop := ∃ b : Bool, e = .returned (.bool b) ∧ (b = true ↔ P)
theorem BoolEnd.tt {P : Prop} (h : P) : BoolEnd P (.returned (.bool true)) := ⟨true, rfl, by simp [h]⟩
theorem BoolEnd.ff {P : Prop} (h : ¬ P) : BoolEnd P (.returned (.bool false)) := ⟨false, rfl, by simp [h]⟩

/-- Numbers from the beginning of a block on. -/
def IsAt (a : Option Addr) (N : Nat) (f : Nat → Int) (w : World) : Prop := N = 0 ∨ ∃ b, a = some ⟨b, 0, none⟩ ∧ ∀ j, j < N → w.cell? ⟨b, j, none⟩ = some (.int .i64 (f j))
theorem IsAt.same {a : Option Addr} {N : Nat} {f : Nat → Int} {w w' : World} (h : IsAt a N f w) (hb : ∀ b, a = some ⟨b, 0, none⟩ → b < w.heap.size → w'.heap[b]? = w.heap[b]?) : IsAt a N f w' := by
  rcases h with h | ⟨b, e, h⟩
  · exact Or.inl h
  · exact Or.inr ⟨b, e, fun i hi => (World.cell?_of_block (a := ⟨b, i, none⟩) (hb b e (World.block_lt_of_cell? _ _ (h i hi)))).trans (h i hi)⟩
theorem IsAt.below {a : Option Addr} {N : Nat} {f : Nat → Int} {w w' : World} (h : IsAt a N f w) (hb : Below w.heap.size w w') : IsAt a N f w' := h.same (fun b _ hl => hb.block b hl)
theorem IsAt.congr {a : Option Addr} {N : Nat} {f g : Nat → Int} {w : World} (h : IsAt a N f w) (e : ∀ i, i < N → f i = g i) : IsAt a N g w := by
  rcases h with h | ⟨b, e1, h⟩
  · exact Or.inl h
  · exact Or.inr ⟨b, e1, fun i hi => by rw [← e i hi]; exact h i hi⟩
theorem IsAt.pos {a : Option Addr} {N : Nat} {f : Nat → Int} {w : World} (h : IsAt a N f w) (hN : 0 < N) : ∃ b, a = some ⟨b, 0, none⟩ ∧ ∀ j, j < N → w.cell? ⟨b, j, none⟩ = some (.int .i64 (f j)) := by
  rcases h with h | h
  · omega
  · exact h
theorem IsAt.at1 {a : Option Addr} {n i : Nat} {f : Nat → Int} {w : World} (h : IsAt a n f w) (hi : i < n) : ∃ b, a = some ⟨b, 0, none⟩ ∧ w.cell? ⟨b, i, none⟩ = some (.int .i64 (f i)) := by
  obtain ⟨b, e, k⟩ := h.pos (by omega)
  exact ⟨b, e, k i hi⟩
theorem IsAt.at2 {a : Option Addr} {n i : Nat} {f : Nat → Int} {w : World} (h : IsAt a (n * 2) f w) (hi : i < n) : ∃ b, a = some ⟨b, 0, none⟩ ∧ w.cell? ⟨b, i * 2, none⟩ = some (.int .i64 (f (i * 2))) ∧ w.cell? ⟨b, i * 2 + 1, none⟩ = some (.int .i64 (f (i * 2 + 1))) := by
  obtain ⟨b, e, k⟩ := h.pos (by omega)
  exact ⟨b, e, k _ (by omega), k _ (by omega)⟩
theorem IsAt.at3 {a : Option Addr} {n i : Nat} {f : Nat → Int} {w : World} (h : IsAt a (n * 3) f w) (hi : i < n) : ∃ b, a = some ⟨b, 0, none⟩ ∧ w.cell? ⟨b, i * 3, none⟩ = some (.int .i64 (f (i * 3))) ∧ w.cell? ⟨b, i * 3 + 1, none⟩ = some (.int .i64 (f (i * 3 + 1))) ∧ w.cell? ⟨b, i * 3 + 2, none⟩ = some (.int .i64 (f (i * 3 + 2))) := by
  obtain ⟨b, e, k⟩ := h.pos (by omega)
  exact ⟨b, e, k _ (by omega), k _ (by omega), k _ (by omega)⟩

/-- Numbers that were handed in: anywhere in memory. -/
def IsIn (a : Option Addr) (N : Nat) (f : Nat → Int) (w : World) : Prop := N = 0 ∨ ∃ b o, a = some ⟨b, o, none⟩ ∧ ∀ j, j < N → w.cell? ⟨b, o + j, none⟩ = some (.int .i64 (f j))
theorem IsIn.below {a : Option Addr} {N : Nat} {f : Nat → Int} {w w' : World} (h : IsIn a N f w) (hb : Below w.heap.size w w') : IsIn a N f w' := by
  rcases h with h | ⟨b, o, e, h⟩
  · exact Or.inl h
  · exact Or.inr ⟨b, o, e, fun i hi => (hb.cell (World.block_lt_of_cell? _ _ (h i hi))).trans (h i hi)⟩
theorem IsIn.pos {a : Option Addr} {N : Nat} {f : Nat → Int} {w : World} (h : IsIn a N f w) (hN : 0 < N) : ∃ b o, a = some ⟨b, o, none⟩ ∧ ∀ j, j < N → w.cell? ⟨b, o + j, none⟩ = some (.int .i64 (f j)) := by
  rcases h with h | h
  · omega
  · exact h
theorem IsIn.at1 {a : Option Addr} {n i : Nat} {f : Nat → Int} {w : World} (h : IsIn a n f w) (hi : i < n) : ∃ b o, a = some ⟨b, o, none⟩ ∧ w.cell? ⟨b, o + i, none⟩ = some (.int .i64 (f i)) := by
  obtain ⟨b, o, e, k⟩ := h.pos (by omega)
  exact ⟨b, o, e, k i hi⟩
theorem IsIn.at2 {a : Option Addr} {n i : Nat} {f : Nat → Int} {w : World} (h : IsIn a (n * 2) f w) (hi : i < n) : ∃ b o, a = some ⟨b, o, none⟩ ∧ w.cell? ⟨b, o + i * 2, none⟩ = some (.int .i64 (f (i * 2))) ∧ w.cell? ⟨b, o + i * 2 + 1, none⟩ = some (.int .i64 (f (i * 2 + 1))) := by
  obtain ⟨b, o, e, k⟩ := h.pos (by omega)
  exact ⟨b, o, e, k _ (by omega), k (i * 2 + 1) (by omega)⟩
theorem IsIn.at3 {a : Option Addr} {n i : Nat} {f : Nat → Int} {w : World} (h : IsIn a (n * 3) f w) (hi : i < n) : ∃ b o, a = some ⟨b, o, none⟩ ∧ w.cell? ⟨b, o + i * 3, none⟩ = some (.int .i64 (f (i * 3))) ∧ w.cell? ⟨b, o + i * 3 + 1, none⟩ = some (.int .i64 (f (i * 3 + 1))) ∧ w.cell? ⟨b, o + i * 3 + 2, none⟩ = some (.int .i64 (f (i * 3 + 2))) := by
  obtain ⟨b, o, e, k⟩ := h.pos (by omega)
  exact ⟨b, o, e, k _ (by omega), k (i * 3 + 1) (by omega), k (i * 3 + 2) (by omega)⟩

theorem IsAt.at5 {a : Option Addr} {n i : Nat} {f : Nat → Int} {w : World} (h : IsAt a (n * 5) f w) (hi : i < n) : ∃ b, a = some ⟨b, 0, none⟩ ∧ w.cell? ⟨b, i * 5, none⟩ = some (.int .i64 (f (i * 5))) ∧ w.cell? ⟨b, i * 5 + 1, none⟩ = some (.int .i64 (f (i * 5 + 1))) ∧ w.cell? ⟨b, i * 5 + 2, none⟩ = some (.int .i64 (f (i * 5 + 2))) ∧ w.cell? ⟨b, i * 5 + 3, none⟩ = some (.int .i64 (f (i * 5 + 3))) ∧ w.cell? ⟨b, i * 5 + 4, none⟩ = some (.int .i64 (f (i * 5 + 4))) := by
  obtain ⟨b, e, k⟩ := h.pos (by omega)
  exact ⟨b, e, k _ (by omega), k _ (by omega), k _ (by omega), k _ (by omega), k _ (by omega)⟩
theorem IsIn.at5 {a : Option Addr} {n i : Nat} {f : Nat → Int} {w : World} (h : IsIn a (n * 5) f w) (hi : i < n) : ∃ b o, a = some ⟨b, o, none⟩ ∧ w.cell? ⟨b, o + i * 5, none⟩ = some (.int .i64 (f (i * 5))) ∧ w.cell? ⟨b, o + i * 5 + 1, none⟩ = some (.int .i64 (f (i * 5 + 1))) ∧ w.cell? ⟨b, o + i * 5 + 2, none⟩ = some (.int .i64 (f (i * 5 + 2))) ∧ w.cell? ⟨b, o + i * 5 + 3, none⟩ = some (.int .i64 (f (i * 5 + 3))) ∧ w.cell? ⟨b, o + i * 5 + 4, none⟩ = some (.int .i64 (f (i * 5 + 4))) := by
  obtain ⟨b, o, e, k⟩ := h.pos (by omega)
  exact ⟨b, o, e, k (i * 5) (by omega), k (i * 5 + 1) (by omega), k (i * 5 + 2) (by omega), k (i * 5 + 3) (by omega), k (i * 5 + 4) (by omega)⟩
/-- A block of numbers of a type, of the call's own. -/
def IsBlk (T : TypeId) (g N : Nat) (f : Nat → Int) (w : World) : Prop := ∃ m F, N ≤ m ∧ w.rowIs g T m F ∧ ∀ j, j < N → F j = .int .i64 (f j)
theorem IsBlk.lt {T : TypeId} {g N : Nat} {f : Nat → Int} {w : World} (h : IsBlk T g N f w) : g < w.heap.size := by obtain ⟨m, F, _, h, _⟩ := h; exact h.lt
theorem IsBlk.block {T : TypeId} {g N : Nat} {f : Nat → Int} {w w' : World} (h : IsBlk T g N f w) (e : w'.heap[g]? = w.heap[g]?) : IsBlk T g N f w' := by obtain ⟨m, F, h1, h2, h3⟩ := h; exact ⟨m, F, h1, h2.of_block e, h3⟩
theorem IsBlk.below {T : TypeId} {g N : Nat} {f : Nat → Int} {w w' : World} (h : IsBlk T g N f w) (hb : Below w.heap.size w w') : IsBlk T g N f w' := h.block (hb.block _ h.lt)
theorem IsBlk.cell {T : TypeId} {g N i : Nat} {f : Nat → Int} {w : World} (h : IsBlk T g N f w) (hi : i < N) : w.cell? ⟨g, i, none⟩ = some (.int .i64 (f i)) := by
  obtain ⟨m, F, h1, h2, h3⟩ := h
  rw [h2.cell (i := i) (by omega), h3 _ hi]
theorem IsBlk.frozen {T : TypeId} {g N : Nat} {f : Nat → Int} {w : World} (h : IsBlk T g N f w) (i : Nat) : w.frozen? ⟨g, i, none⟩ = false := by obtain ⟨m, F, _, h, _⟩ := h; exact h.frozen i
theorem IsBlk.at_ {T : TypeId} {g N : Nat} {f : Nat → Int} {w : World} (h : IsBlk T g N f w) : IsAt (some ⟨g, 0, none⟩) N f w := Or.inr ⟨g, rfl, fun _ hi => h.cell hi⟩
theorem IsBlk.congr {T : TypeId} {g N : Nat} {f f' : Nat → Int} {w : World} (h : IsBlk T g N f w) (e : ∀ j, j < N → f j = f' j) : IsBlk T g N f' w := by
  obtain ⟨m, F, h1, h2, h3⟩ := h
  exact ⟨m, F, h1, h2, fun j hj => by rw [h3 j hj, e j hj]⟩
def updI (f : Nat → Int) (i : Nat) (x : Int) : Nat → Int := fun j => if j = i then x else f j
theorem IsBlk.set {T : TypeId} {g N : Nat} {f : Nat → Int} {w : World} (h : IsBlk T g N f w) (i : Nat) (x : Int) : IsBlk T g N (updI f i x) (w.setCell ⟨g, i, none⟩ (.int .i64 x)) := by
  obtain ⟨m, F, h1, h2, h3⟩ := h
  refine ⟨m, _, h1, h2.set i _, fun j hj => ?_⟩
  unfold updI
  by_cases e : j = i
  · subst e; simp
  · simp only [e, if_false]; exact h3 j hj

/-- The first numbers of a block are there. -/
def IsPart (T : TypeId) (g M N : Nat) (f : Nat → Int) (w : World) : Prop := ∃ F, w.rowIs g T M F ∧ ∀ j, j < N → F j = .int .i64 (f j)
theorem IsPart.block {T : TypeId} {g M N : Nat} {f : Nat → Int} {w w' : World} (h : IsPart T g M N f w) (e : w'.heap[g]? = w.heap[g]?) : IsPart T g M N f w' := by obtain ⟨F, h1, h2⟩ := h; exact ⟨F, h1.of_block e, h2⟩
theorem IsPart.lt {T : TypeId} {g M N : Nat} {f : Nat → Int} {w : World} (h : IsPart T g M N f w) : g < w.heap.size := by obtain ⟨F, h1, _⟩ := h; exact h1.lt
theorem IsPart.cell {T : TypeId} {g M N j : Nat} {f : Nat → Int} {w : World} (h : IsPart T g M N f w) (hj : j < M) : ∃ v, w.cell? ⟨g, j, none⟩ = some v := by obtain ⟨F, h1, _⟩ := h; exact ⟨_, h1.cell hj⟩
theorem IsPart.frozen {T : TypeId} {g M N : Nat} {f : Nat → Int} {w : World} (h : IsPart T g M N f w) (j : Nat) : w.frozen? ⟨g, j, none⟩ = false := by obtain ⟨F, h1, _⟩ := h; exact h1.frozen j
theorem IsPart.put {T : TypeId} {g M N : Nat} {f : Nat → Int} {w : World} (h : IsPart T g M N f w) (z : Int) (hz : z = f N) : IsPart T g M (N + 1) f (w.setCell ⟨g, N, none⟩ (.int .i64 z)) := by
  obtain ⟨F, h1, h2⟩ := h
  subst hz
  refine ⟨_, h1.set N _, fun j hj => ?_⟩
  by_cases e : j = N
  · subst e; simp
  · simp only [e, if_false]; exact h2 j (by omega)
theorem IsPart.full {T : TypeId} {g M N : Nat} {f : Nat → Int} {w : World} (h : IsPart T g M N f w) (hN : N ≤ M) : IsBlk T g N f w := by obtain ⟨F, h1, h2⟩ := h; exact ⟨M, F, hN, h1, h2⟩
theorem made_is (T : TypeId) (z : Array Value) (w : World) (N : Nat) (hz : ∀ i, i < z.size → z[i]? = some (.int .i64 0)) (h0 : 0 < z.size) : (w.alloc (.cells (madeCells z N) T)).rowIs w.heap.size T N (fun _ => .int .i64 0) := by
  refine ⟨_, blk_alloc_new _ _, size_madeCells _ _, fun i hi => ?_⟩
  have h5 : i % z.size < z.size := Nat.mod_lt _ h0
  have := hz _ h5
  simp [madeCells, hi]
  rw [Array.getElem?_eq_getElem h5] at this
  simp at this
  first | exact this | simp [this, h5]

/-- One block alone may have changed. -/
structure Only (g : Nat) (w w' : World) : Prop where
  os : w'.os = w.os
  tape : w'.tape = w.tape
  output : w'.output = w.output
  size : w.heap.size ≤ w'.heap.size
  block : ∀ k, k < w.heap.size → k ≠ g → w'.heap[k]? = w.heap[k]?
theorem Only.refl (g : Nat) (w : World) : Only g w w := ⟨rfl, rfl, rfl, Nat.le_refl _, fun _ _ _ => rfl⟩
theorem Only.set {g : Nat} {w w' : World} (h : Only g w w') (i : Nat) (x : Value) : Only g w (w'.setCell ⟨g, i, none⟩ x) :=
  ⟨h.os, h.tape, h.output, by simpa using h.size, fun k hk hne => (blk_setCell_other _ _ _ _ (by show k ≠ g; exact hne)).trans (h.block k hk hne)⟩
theorem Only.of_below {g : Nat} {w w' : World} (h : Below w.heap.size w w') : Only g w w' := ⟨h.os, h.tape, h.output, h.size, fun k hk _ => h.block k hk⟩
theorem Only.below {B g : Nat} {w w' : World} (h : Only g w w') (h1 : B ≤ g) (h2 : B ≤ w.heap.size) : Below B w w' := ⟨h.os, h.tape, h.output, h.size, fun k hk => h.block k (by omega) (by omega)⟩
/-- Marks, from k on. -/
def mk1 (k : Nat) (j : Nat) : Int := ((k + j : Nat) : Int)

/-- Rows of cells as a list. -/
theorem nrow_below {w w' : World} {g : Nat} {t : TypeId} {m : Nat} {F : Nat → Value} (h : w.rowIs g t m F) (hb : Below w.heap.size w w') : w'.rowIs g t m F := h.of_block (hb.block _ h.lt)
theorem nrow_set {w : World} {g : Nat} {t : TypeId} {m : Nat} {F : Nat → Value} (h : w.rowIs g t m F) {p : Addr} (hp : g ≠ p.block) (u : Value) : (w.setCell p u).rowIs g t m F := h.of_block (Below.heap_setCell _ _ _ _ hp)
def rowN (l : List Value) (i : Nat) : Value := l.getD i undef
theorem rowN_alloc (w : World) (l : List Value) (t : TypeId) : (w.alloc (.cells ⟨l⟩ t)).rowIs w.heap.size t l.length (rowN l) := by
  refine ⟨_, blk_alloc_new _ _, by simp, fun i hi => ?_⟩
  simp [rowN, hi]
theorem rowN_alloc' {w : World} {g : Nat} (e : w.heap.size = g) (l : List Value) (t : TypeId) : (w.alloc (.cells ⟨l⟩ t)).rowIs g t l.length (rowN l) := by subst e; exact rowN_alloc w l t
theorem rowN_put {w : World} {g : Nat} {t : TypeId} {n : Nat} {l : List Value} (h : w.rowIs g t n (rowN l)) (i : Nat) (x : Value) (hi : i < l.length) : (w.setCell ⟨g, i, none⟩ x).rowIs g t n (rowN (l.set i x)) := by
  have h2 := h.set i x
  have e : (fun j => if j = i then x else rowN l j) = rowN (l.set i x) := by
    funext j
    unfold rowN
    by_cases ej : j = i
    · subst ej; simp [hi]
    · simp [ej, Ne.symm ej]
  rw [e] at h2
  exact h2
theorem rowN4 {w : World} {g : Nat} {t : TypeId} {a b c d : Value} (h : w.rowIs g t 4 (rowN [a, b, c, d])) : (w.cell? ⟨g, 0, none⟩ = some a ∧ w.cell? ⟨g, 1, none⟩ = some b ∧ w.cell? ⟨g, 2, none⟩ = some c ∧ w.cell? ⟨g, 3, none⟩ = some d) ∧ (w.frozen? ⟨g, 0, none⟩ = false ∧ w.frozen? ⟨g, 1, none⟩ = false ∧ w.frozen? ⟨g, 2, none⟩ = false ∧ w.frozen? ⟨g, 3, none⟩ = false) :=
  ⟨⟨h.cell (by omega), h.cell (by omega), h.cell (by omega), h.cell (by omega)⟩, h.frozen 0, h.frozen 1, h.frozen 2, h.frozen 3⟩
theorem rowN3 {w : World} {g : Nat} {t : TypeId} {a b c : Value} (h : w.rowIs g t 3 (rowN [a, b, c])) : (w.cell? ⟨g, 0, none⟩ = some a ∧ w.cell? ⟨g, 1, none⟩ = some b ∧ w.cell? ⟨g, 2, none⟩ = some c) ∧ (w.frozen? ⟨g, 0, none⟩ = false ∧ w.frozen? ⟨g, 1, none⟩ = false ∧ w.frozen? ⟨g, 2, none⟩ = false) :=
  ⟨⟨h.cell (by omega), h.cell (by omega), h.cell (by omega)⟩, h.frozen 0, h.frozen 1, h.frozen 2⟩
theorem rowN2 {w : World} {g : Nat} {t : TypeId} {a b : Value} (h : w.rowIs g t 2 (rowN [a, b])) : (w.cell? ⟨g, 0, none⟩ = some a ∧ w.cell? ⟨g, 1, none⟩ = some b) ∧ (w.frozen? ⟨g, 0, none⟩ = false ∧ w.frozen? ⟨g, 1, none⟩ = false) :=
  ⟨⟨h.cell (by omega), h.cell (by omega)⟩, h.frozen 0, h.frozen 1⟩

namespace Nt
/-- A net: its nodes, its links (three numbers each), its fixed heads (two each), its wants. -/
structure Net where
  nodes : Int
  ln : Nat
  L : Nat → Int
  fn : Nat
  F : Nat → Int
  wn : Nat
  W : Nat → Int
end Nt
/-- The value of a net. -/
abbrev ntV (n : Nt.Net) (la : Option Addr) (lk : Nat) (fa : Option Addr) (fk : Nat) (wa : Option Addr) (wk : Nat) : Value := .agg #[.int .i64 n.nodes, .slice la n.ln lk, .slice fa n.fn fk, .slice wa n.wn wk]
abbrev ntL (n : Nt.Net) (la : Option Addr) (lk : Nat) (fa : Option Addr) (fk : Nat) (wa : Option Addr) (wk : Nat) : List Value := [.int .i64 n.nodes, .slice la n.ln lk, .slice fa n.fn fk, .slice wa n.wn wk]
structure NtAt (n : Nt.Net) (la fa wa : Option Addr) (w : World) : Prop where
  l : IsAt la (n.ln * 3) n.L w
  f : IsAt fa (n.fn * 2) n.F w
  w : IsAt wa n.wn n.W w
theorem NtAt.below {n : Nt.Net} {la fa wa : Option Addr} {w w' : World} (h : NtAt n la fa wa w) (hb : Below w.heap.size w w') : NtAt n la fa wa w' := ⟨h.l.below hb, h.f.below hb, h.w.below hb⟩
structure NtIn (n : Nt.Net) (la fa wa : Option Addr) (w : World) : Prop where
  l : IsIn la (n.ln * 3) n.L w
  f : IsIn fa (n.fn * 2) n.F w
  w : IsIn wa n.wn n.W w
theorem NtIn.below {n : Nt.Net} {la fa wa : Option Addr} {w w' : World} (h : NtIn n la fa wa w) (hb : Below w.heap.size w w') : NtIn n la fa wa w' := ⟨h.l.below hb, h.f.below hb, h.w.below hb⟩
theorem nbel_alloc (w : World) (o : Obj) : Below w.heap.size w (w.alloc o) := (Below.refl _ _).alloc (Nat.le_refl _) o
/-- What stands in a call that was handed a net: its block, the lists, the old memory. -/
structure NtS (T : TypeId) (n : Nt.Net) (la : Option Addr) (lk : Nat) (fa : Option Addr) (fk : Nat) (wa : Option Addr) (wk : Nat) (w W : World) : Prop where
  row : W.rowIs w.heap.size T 4 (rowN (ntL n la lk fa fk wa wk))
  at_ : NtAt n la fa wa W
  old : Below w.heap.size w W
theorem NtS.below {T : TypeId} {n : Nt.Net} {la : Option Addr} {lk : Nat} {fa : Option Addr} {fk : Nat} {wa : Option Addr} {wk : Nat} {w W W' : World} (h : NtS T n la lk fa fk wa wk w W) (hb : Below W.heap.size W W') : NtS T n la lk fa fk wa wk w W' := ⟨nrow_below h.row hb, h.at_.below hb, h.old.trans (hb.mono h.old.size)⟩
theorem NtS.alloc {T : TypeId} {n : Nt.Net} {la : Option Addr} {lk : Nat} {fa : Option Addr} {fk : Nat} {wa : Option Addr} {wk : Nat} {w W : World} (h : NtS T n la lk fa fk wa wk w W) (o : Obj) : NtS T n la lk fa fk wa wk w (W.alloc o) := h.below (nbel_alloc W o)
theorem NtS.drew {T : TypeId} {n : Nt.Net} {la : Option Addr} {lk : Nat} {fa : Option Addr} {fk : Nat} {wa : Option Addr} {wk : Nat} {w W : World} (h : NtS T n la lk fa fk wa wk w W) : NtS T n la lk fa fk wa wk w W.drew := h.below (Below.refl _ _).drew
theorem ndrewN {B : Nat} {w w1 : World} (h : Below B w w1) (m : Nat) : Below B w (w1.drewN m) := h.trans ⟨rfl, rfl, rfl, Nat.le_refl _, fun _ _ => rfl⟩
theorem NtS.drewN {T : TypeId} {n : Nt.Net} {la : Option Addr} {lk : Nat} {fa : Option Addr} {fk : Nat} {wa : Option Addr} {wk : Nat} {w W : World} (h : NtS T n la lk fa fk wa wk w W) (m : Nat) : NtS T n la lk fa fk wa wk w (W.drewN m) := h.below (ndrewN (Below.refl _ _) m)
theorem NtS.new (T : TypeId) {n : Nt.Net} {la : Option Addr} {lk : Nat} {fa : Option Addr} {fk : Nat} {wa : Option Addr} {wk : Nat} {w : World} (h : NtAt n la fa wa w) : NtS T n la lk fa fk wa wk w (w.alloc (.cells #[.int .i64 n.nodes, .slice la n.ln lk, .slice fa n.fn fk, .slice wa n.wn wk] T)) :=
  ⟨rowN_alloc w (ntL n la lk fa fk wa wk) T, h.below (nbel_alloc _ _), nbel_alloc _ _⟩
/-- What a test of the sizes tells. -/
def NtSmall (n : Nt.Net) : Prop := n.ln ≤ 1048576 ∧ n.fn ≤ 1048576 ∧ n.wn ≤ 1048576
end Go.Proofs.YtogfjomfhenhfaaGreatDoor
