/-
  Rows of memory: what a new one holds, and that it stands while what lies below does.
-/
import Derived.Test.YtlipgnjknfmikaaReg
import Derived.Laws.AppendOwn
import Derived.OwnWalk
import Derived.Deep.OwnRows
import Derived.Deep.Heap
import Derived.WalkMore
import Derived.Lib.Hide
import Derived.Lib.SliceRun
import Derived.Deep.DeepCutAuto
namespace Go.Proofs.Ytlipgnjknfmikaa
open Go.RowKit Go.Deep

theorem wrow_below {w w' : World} {g : Nat} {t : TypeId} {m : Nat} {F : Nat → Value} (h : w.rowIs g t m F) (hb : Below w.heap.size w w') : w'.rowIs g t m F := h.of_block (hb.block _ h.lt)
theorem bel_alloc (w : World) (o : Obj) : Below w.heap.size w (w.alloc o) := (Below.refl _ _).alloc (Nat.le_refl _) o
def rowL (l : List Value) (i : Nat) : Value := l.getD i undef
theorem rowL_alloc (w : World) (l : List Value) (t : TypeId) : (w.alloc (.cells ⟨l⟩ t)).rowIs w.heap.size t l.length (rowL l) := by
  refine ⟨_, blk_alloc_new _ _, rfl, fun i hi => ?_⟩
  simp [rowL, hi]
theorem rowL_alloc' {w : World} {g : Nat} (e : w.heap.size = g) (l : List Value) (t : TypeId) : (w.alloc (.cells ⟨l⟩ t)).rowIs g t l.length (rowL l) := by subst e; exact rowL_alloc w l t
theorem row2_cells {w : World} {g : Nat} {t : TypeId} {a b : Value} (h : w.rowIs g t 2 (rowL [a, b])) : (w.cell? ⟨g, 0, none⟩ = some a ∧ w.cell? ⟨g, 1, none⟩ = some b) ∧ (w.frozen? ⟨g, 0, none⟩ = false ∧ w.frozen? ⟨g, 1, none⟩ = false) :=
  ⟨⟨h.cell (i := 0) (by omega), h.cell (i := 1) (by omega)⟩, h.frozen 0, h.frozen 1⟩
theorem row3_cells {w : World} {g : Nat} {t : TypeId} {a b c : Value} (h : w.rowIs g t 3 (rowL [a, b, c])) : (w.cell? ⟨g, 0, none⟩ = some a ∧ w.cell? ⟨g, 1, none⟩ = some b ∧ w.cell? ⟨g, 2, none⟩ = some c) ∧ (w.frozen? ⟨g, 0, none⟩ = false ∧ w.frozen? ⟨g, 1, none⟩ = false ∧ w.frozen? ⟨g, 2, none⟩ = false) :=
  ⟨⟨h.cell (i := 0) (by omega), h.cell (i := 1) (by omega), h.cell (i := 2) (by omega)⟩, h.frozen 0, h.frozen 1, h.frozen 2⟩
theorem rowL_set {w : World} {g : Nat} {t : TypeId} {n : Nat} {l : List Value} (h : w.rowIs g t n (rowL l)) (i : Nat) (x : Value) (hi : i < l.length) : (w.setCell ⟨g, i, none⟩ x).rowIs g t n (rowL (l.set i x)) :=
  (h.set i x).congr (fun j _ => by
    unfold rowL
    by_cases e : j = i
    · subst e; simp [hi]
    · rw [if_neg e]
      have e2 : i ≠ j := fun h => e h.symm
      simp [e2])
/-- A float is stored as any value of one cell. -/
theorem lrun_store_float {P : Program} {w : World} {a : Addr} {m : Mode} (k : FloatKind) (x : Nat) : (store a (.float k x) m).run P w = stored P w a (.float k x) m := run_store P w a _ m rfl
theorem lrun_store_complex {P : Program} {w : World} {a : Addr} {m : Mode} (k : FloatKind) (x y : Nat) : (store a (.complex k x y) m).run P w = stored P w a (.complex k x y) m := run_store P w a _ m rfl
/-- A Cnum, as a value. -/
abbrev cnV (a b : Nat) : Value := .agg #[.float .f64 a, .float .f64 b]
abbrev cnL (a b : Nat) : List Value := [.float .f64 a, .float .f64 b]
theorem lbelow_set2 {w W : World} {g : Nat} (h : Below w.heap.size w W) (hg : w.heap.size ≤ g) (x y : Value) : Below w.heap.size w ((W.setCell ⟨g, 0, none⟩ x).setCell ⟨g, 1, none⟩ y) := (h.setCell (p := ⟨g, 0, none⟩) hg x).setCell (p := ⟨g, 1, none⟩) hg y
/-- A row of two cells, and what may be written into it. -/
theorem told2 {W : World} {g : Nat} {x y : Value} {t : TypeId} (h : W.rowIs g t 2 (rowL [x, y])) : W.cell? ⟨g, 0, none⟩ = some x ∧ W.cell? ⟨g, 1, none⟩ = some y ∧ W.frozen? ⟨g, 0, none⟩ = false ∧ W.frozen? ⟨g, 1, none⟩ = false ∧ g < W.heap.size := by
  have r := row2_cells h
  exact ⟨r.1.1, r.1.2, r.2.1, r.2.2, h.lt⟩
/-- Three new blocks of two cells: two that are read, one that is written. -/
theorem cm_later {w w' : World} {a b c d x y : Value} {t t' : TypeId} (h : Below (w.heap.size + 3) (((w.alloc (.cells #[a, b] t)).alloc (.cells #[c, d] t)).alloc (.cells #[x, y] t')) w') :
    w'.cell? ⟨w.heap.size, 0, none⟩ = some a ∧ w'.cell? ⟨w.heap.size, 1, none⟩ = some b ∧ w'.cell? ⟨w.heap.size + 1, 0, none⟩ = some c ∧ w'.cell? ⟨w.heap.size + 1, 1, none⟩ = some d ∧ w.heap.size + 1 < w'.heap.size ∧ Hid (w'.rowIs (w.heap.size + 2) t' 2 (rowL [x, y]) ∧ Below w.heap.size w w') := by
  have h' : Below (((w.alloc (.cells #[a, b] t)).alloc (.cells #[c, d] t)).alloc (.cells #[x, y] t')).heap.size (((w.alloc (.cells #[a, b] t)).alloc (.cells #[c, d] t)).alloc (.cells #[x, y] t')) w' := h.mono (by simp)
  have r1 := row2_cells (wrow_below (wrow_below (wrow_below (rowL_alloc w [a, b] t) (bel_alloc _ _)) (bel_alloc _ _)) h')
  have r2 := row2_cells (wrow_below (wrow_below (rowL_alloc' (g := w.heap.size + 1) (by simp) [c, d] t) (bel_alloc _ _)) h')
  have r3 := wrow_below (rowL_alloc' (g := w.heap.size + 2) (by simp) [x, y] t') h'
  refine ⟨r1.1.1, r1.1.2, r2.1.1, r2.1.2, ?_, r3, ?_⟩
  · have := r3.lt; omega
  · exact ((((Below.refl _ _).alloc (Nat.le_refl _) _).alloc (by simp) _).alloc (by simp; omega) _).trans (h.mono (by omega))
theorem cm_keep {w W W' : World} {a b c d x y : Value} {t' : TypeId} (hb : Below W.heap.size W W') (h : W.cell? ⟨w.heap.size, 0, none⟩ = some a ∧ W.cell? ⟨w.heap.size, 1, none⟩ = some b ∧ W.cell? ⟨w.heap.size + 1, 0, none⟩ = some c ∧ W.cell? ⟨w.heap.size + 1, 1, none⟩ = some d ∧ w.heap.size + 1 < W.heap.size ∧ Hid (W.rowIs (w.heap.size + 2) t' 2 (rowL [x, y]) ∧ Below w.heap.size w W)) :
    W'.cell? ⟨w.heap.size, 0, none⟩ = some a ∧ W'.cell? ⟨w.heap.size, 1, none⟩ = some b ∧ W'.cell? ⟨w.heap.size + 1, 0, none⟩ = some c ∧ W'.cell? ⟨w.heap.size + 1, 1, none⟩ = some d ∧ w.heap.size + 1 < W'.heap.size ∧ Hid (W'.rowIs (w.heap.size + 2) t' 2 (rowL [x, y]) ∧ Below w.heap.size w W') := by
  obtain ⟨c1, c2, c3, c4, hz, hR⟩ := h
  refine ⟨?_, ?_, ?_, ?_, ?_, wrow_below hR.out.1 hb, ?_⟩
  · rw [hb.cell (by show w.heap.size < _; omega)]; exact c1
  · rw [hb.cell (by show w.heap.size < _; omega)]; exact c2
  · rw [hb.cell (by show w.heap.size + 1 < _; omega)]; exact c3
  · rw [hb.cell (by show w.heap.size + 1 < _; omega)]; exact c4
  · have := hb.size; omega
  · exact hR.out.2.trans (hb.mono (by omega))
/-- Floats that came in. -/
def FlIn (a : Option Addr) (n : Nat) (f : Nat → Nat) (w : World) : Prop := n = 0 ∨ ∃ b off, a = some ⟨b, off, none⟩ ∧ ∀ i, i < n → w.cell? ⟨b, off + i, none⟩ = some (.float .f64 (f i))
theorem FlIn.below {a : Option Addr} {n : Nat} {f : Nat → Nat} {w w' : World} (h : FlIn a n f w) (hb : Below w.heap.size w w') : FlIn a n f w' := by
  rcases h with h | ⟨b, off, h1, h2⟩
  · exact Or.inl h
  · exact Or.inr ⟨b, off, h1, fun i hi => (hb.cell (World.block_lt_of_cell? _ _ (h2 i hi))).trans (h2 i hi)⟩
/-- Floats in a row of their own. -/
def FlBlk (g n : Nat) (f : Nat → Nat) (w : World) : Prop := ∃ M F, n ≤ M ∧ w.rowIs g 27 M F ∧ ∀ i, i < n → F i = .float .f64 (f i)
theorem FlBlk.lt {g n : Nat} {f : Nat → Nat} {w : World} (h : FlBlk g n f w) : g < w.heap.size := by obtain ⟨M, F, h1, h2, h3⟩ := h; exact h2.lt
theorem FlBlk.block {g n : Nat} {f : Nat → Nat} {w w' : World} (h : FlBlk g n f w) (e : w'.heap[g]? = w.heap[g]?) : FlBlk g n f w' := by obtain ⟨M, F, h1, h2, h3⟩ := h; exact ⟨M, F, h1, h2.of_block e, h3⟩
theorem FlBlk.below {g n : Nat} {f : Nat → Nat} {w w' : World} (h : FlBlk g n f w) (hb : Below w.heap.size w w') : FlBlk g n f w' := h.block (hb.block _ h.lt)
theorem FlBlk.cell {g n i : Nat} {f : Nat → Nat} {w : World} (h : FlBlk g n f w) (hi : i < n) : w.cell? ⟨g, i, none⟩ = some (.float .f64 (f i)) := by
  obtain ⟨M, F, h1, h2, h3⟩ := h
  rw [h2.cell (i := i) (by omega), h3 i hi]
/-- Floats that can be read. -/
def FlAt (a : Option Addr) (n : Nat) (f : Nat → Nat) (w : World) : Prop := n = 0 ∨ ∃ g, a = some ⟨g, 0, none⟩ ∧ ∀ i, i < n → w.cell? ⟨g, i, none⟩ = some (.float .f64 (f i))
theorem FlAt.below {a : Option Addr} {n : Nat} {f : Nat → Nat} {w w' : World} (h : FlAt a n f w) (hb : Below w.heap.size w w') : FlAt a n f w' := by
  rcases h with h | ⟨b, h1, h2⟩
  · exact Or.inl h
  · exact Or.inr ⟨b, h1, fun i hi => (hb.cell (World.block_lt_of_cell? _ _ (h2 i hi))).trans (h2 i hi)⟩
theorem FlAt.at_ {a : Option Addr} {n i : Nat} {f : Nat → Nat} {w : World} (h : FlAt a n f w) (hi : i < n) : ∃ g, a = some ⟨g, 0, none⟩ ∧ w.cell? ⟨g, i, none⟩ = some (.float .f64 (f i)) := by
  rcases h with h | ⟨g, h1, h2⟩
  · omega
  · exact ⟨g, h1, h2 i hi⟩
theorem FlBlk.at_ {g n : Nat} {f : Nat → Nat} {w : World} (h : FlBlk g n f w) : FlAt (some ⟨g, 0, none⟩) n f w := Or.inr ⟨g, rfl, fun _ hi => h.cell hi⟩
end Go.Proofs.Ytlipgnjknfmikaa
