/-
  Curves, rules and lists of numbers in memory.
-/
import Derived.Test.YtcjeieagpcphjaaDoorStMath
import Derived.Test.YtcjeieagpcphjaaDoorNums
import Derived.Laws.AppendOwn
import Derived.OwnWalk
import Derived.Deep.OwnRows
import Derived.Deep.Heap
import Derived.WalkMore
import Derived.Lib.Hide
import Derived.Lib.SliceRun
import Derived.Deep.RegionWith
import Derived.Shelf.SlSortCmp.QuietGrown
namespace Go.Proofs.YtcjeieagpcphjaaDoor
open Go.RowKit Go.Deep

/-- A Boolean that tells this. -/
def BoolEnd (P : Prop) (e : Ending) : Prop := ∃ b : Bool, e = .returned (.bool b) ∧ (b = true ↔ P)
theorem BoolEnd.tt {P : Prop} (h : P) : BoolEnd P (.returned (.bool true)) := ⟨true, rfl, by simp [h]⟩
theorem BoolEnd.ff {P : Prop} (h : ¬ P) : BoolEnd P (.returned (.bool false)) := ⟨false, rfl, by simp [h]⟩
theorem bool_of (P : Prop) : ∃ b : Bool, b = true ↔ P := by
  by_cases h : P
  · exact ⟨true, by simp [h]⟩
  · exact ⟨false, by simp [h]⟩

/-- Two numbers as a value. -/
abbrev prV (p : St.Pr) : Value := .agg #[.int .i64 p.a, .int .i64 p.b]
/-- The two cells. -/
def PrCells (b o : Nat) (p : St.Pr) (w : World) : Prop := w.cell? ⟨b, o, none⟩ = some (.int .i64 p.a) ∧ w.cell? ⟨b, o + 1, none⟩ = some (.int .i64 p.b)
theorem PrCells.lt {b o : Nat} {p : St.Pr} {w : World} (h : PrCells b o p w) : b < w.heap.size := World.block_lt_of_cell? _ _ h.1
theorem PrCells.block {b o : Nat} {p : St.Pr} {w w' : World} (h : PrCells b o p w) (hb : w'.heap[b]? = w.heap[b]?) : PrCells b o p w' :=
  ⟨(World.cell?_of_block (a := ⟨b, o, none⟩) hb).trans h.1, (World.cell?_of_block (a := ⟨b, o + 1, none⟩) hb).trans h.2⟩
/-- Pairs that lie in memory. -/
def PrsAt (a : Option Addr) (n : Nat) (ps : Nat → St.Pr) (w : World) : Prop := n = 0 ∨ ∃ b, a = some ⟨b, 0, none⟩ ∧ ∀ i, i < n → PrCells b (i * 2) (ps i) w
theorem PrsAt.at_ {a : Option Addr} {n : Nat} {ps : Nat → St.Pr} {w : World} (h : PrsAt a n ps w) {i : Nat} (hi : i < n) : ∃ b, a = some ⟨b, 0, none⟩ ∧ PrCells b (i * 2) (ps i) w := by
  rcases h with h | ⟨b, e, h⟩
  · omega
  · exact ⟨b, e, h i hi⟩
theorem PrsAt.all {a : Option Addr} {n : Nat} {ps : Nat → St.Pr} {w : World} (h : PrsAt a n ps w) (hn : 0 < n) : ∃ b, a = some ⟨b, 0, none⟩ ∧ ∀ i, i < n → PrCells b (i * 2) (ps i) w := by
  rcases h with h | h
  · omega
  · exact h
theorem PrsAt.same {a : Option Addr} {n : Nat} {ps : Nat → St.Pr} {w w' : World} (h : PrsAt a n ps w) (hb : ∀ b, a = some ⟨b, 0, none⟩ → b < w.heap.size → w'.heap[b]? = w.heap[b]?) : PrsAt a n ps w' := by
  rcases h with h | ⟨b, e, h⟩
  · exact Or.inl h
  · exact Or.inr ⟨b, e, fun i hi => (h i hi).block (hb b e (h i hi).lt)⟩
theorem PrsAt.below {a : Option Addr} {n : Nat} {ps : Nat → St.Pr} {w w' : World} (h : PrsAt a n ps w) (hb : Below w.heap.size w w') : PrsAt a n ps w' := h.same (fun b _ hl => hb.block b hl)
theorem PrsAt.congr {a : Option Addr} {n : Nat} {ps ps' : Nat → St.Pr} {w : World} (h : PrsAt a n ps w) (e : ∀ i, i < n → ps i = ps' i) : PrsAt a n ps' w := by
  rcases h with h | ⟨b, e1, h⟩
  · exact Or.inl h
  · exact Or.inr ⟨b, e1, fun i hi => by rw [← e i hi]; exact h i hi⟩

/-- Numbers that lie in memory. -/
def IntsAt (a : Option Addr) (n : Nat) (f : Nat → Int) (w : World) : Prop := n = 0 ∨ ∃ b, a = some ⟨b, 0, none⟩ ∧ ∀ i, i < n → w.cell? ⟨b, i, none⟩ = some (.int .i64 (f i))
theorem IntsAt.at_ {a : Option Addr} {n : Nat} {f : Nat → Int} {w : World} (h : IntsAt a n f w) {i : Nat} (hi : i < n) : ∃ b, a = some ⟨b, 0, none⟩ ∧ w.cell? ⟨b, i, none⟩ = some (.int .i64 (f i)) := by
  rcases h with h | ⟨b, e, h⟩
  · omega
  · exact ⟨b, e, h i hi⟩
theorem IntsAt.same {a : Option Addr} {n : Nat} {f : Nat → Int} {w w' : World} (h : IntsAt a n f w) (hb : ∀ b, a = some ⟨b, 0, none⟩ → b < w.heap.size → w'.heap[b]? = w.heap[b]?) : IntsAt a n f w' := by
  rcases h with h | ⟨b, e, h⟩
  · exact Or.inl h
  · exact Or.inr ⟨b, e, fun i hi => (World.cell?_of_block (a := ⟨b, i, none⟩) (hb b e (World.block_lt_of_cell? _ _ (h i hi)))).trans (h i hi)⟩
theorem IntsAt.below {a : Option Addr} {n : Nat} {f : Nat → Int} {w w' : World} (h : IntsAt a n f w) (hb : Below w.heap.size w w') : IntsAt a n f w' := h.same (fun b _ hl => hb.block b hl)
theorem IntsAt.congr {a : Option Addr} {n : Nat} {f g : Nat → Int} {w : World} (h : IntsAt a n f w) (e : ∀ i, i < n → f i = g i) : IntsAt a n g w := by
  rcases h with h | ⟨b, e1, h⟩
  · exact Or.inl h
  · exact Or.inr ⟨b, e1, fun i hi => by rw [← e i hi]; exact h i hi⟩

theorem mulmod2 (i k : Nat) (hk : k < 2) : (i * 2 + k) / 2 = i ∧ (i * 2 + k) % 2 = k := by omega
def prCell (p : St.Pr) (k : Nat) : Value := .int .i64 (if k = 0 then p.a else p.b)
/-- The cells of pairs, one behind the other. -/
def prRow (ps : Nat → St.Pr) (j : Nat) : Value := prCell (ps (j / 2)) (j % 2)
def inRow (f : Nat → Int) (j : Nat) : Value := .int .i64 (f j)
theorem prRow_at (ps : Nat → St.Pr) (i k : Nat) (hk : k < 2) : prRow ps (i * 2 + k) = prCell (ps i) k := by
  unfold prRow; rw [(mulmod2 i k hk).1, (mulmod2 i k hk).2]
/-- A block of pairs of a type, of the call's own. -/
def PrBlk (ty : TypeId) (g : Nat) (n : Nat) (ps : Nat → St.Pr) (w : World) : Prop := ∃ m F, n ≤ m ∧ w.rowIs g ty (m * 2) F ∧ ∀ j, j < n * 2 → F j = prRow ps j
def InBlk (g : Nat) (n : Nat) (f : Nat → Int) (w : World) : Prop := ∃ m F, n ≤ m ∧ w.rowIs g 2 m F ∧ ∀ j, j < n → F j = inRow f j
theorem PrBlk.lt {ty : TypeId} {g n : Nat} {ps : Nat → St.Pr} {w : World} (h : PrBlk ty g n ps w) : g < w.heap.size := by obtain ⟨m, F, _, h, _⟩ := h; exact h.lt
theorem InBlk.lt {g n : Nat} {f : Nat → Int} {w : World} (h : InBlk g n f w) : g < w.heap.size := by obtain ⟨m, F, _, h, _⟩ := h; exact h.lt
theorem PrBlk.block {ty : TypeId} {g n : Nat} {ps : Nat → St.Pr} {w w' : World} (h : PrBlk ty g n ps w) (e : w'.heap[g]? = w.heap[g]?) : PrBlk ty g n ps w' := by obtain ⟨m, F, h1, h2, h3⟩ := h; exact ⟨m, F, h1, h2.of_block e, h3⟩
theorem InBlk.block {g n : Nat} {f : Nat → Int} {w w' : World} (h : InBlk g n f w) (e : w'.heap[g]? = w.heap[g]?) : InBlk g n f w' := by obtain ⟨m, F, h1, h2, h3⟩ := h; exact ⟨m, F, h1, h2.of_block e, h3⟩
theorem PrBlk.below {ty : TypeId} {g n : Nat} {ps : Nat → St.Pr} {w w' : World} (h : PrBlk ty g n ps w) (hb : Below w.heap.size w w') : PrBlk ty g n ps w' := h.block (hb.block _ h.lt)
theorem InBlk.below {g n : Nat} {f : Nat → Int} {w w' : World} (h : InBlk g n f w) (hb : Below w.heap.size w w') : InBlk g n f w' := h.block (hb.block _ h.lt)
theorem PrBlk.cell {ty : TypeId} {g n : Nat} {ps : Nat → St.Pr} {w : World} (h : PrBlk ty g n ps w) {i k : Nat} (hi : i < n) (hk : k < 2) : w.cell? ⟨g, i * 2 + k, none⟩ = some (prCell (ps i) k) := by
  obtain ⟨m, F, h1, h2, h3⟩ := h
  rw [h2.cell (i := i * 2 + k) (by omega), h3 _ (by omega), prRow_at _ _ _ hk]
theorem PrBlk.frozen {ty : TypeId} {g n : Nat} {ps : Nat → St.Pr} {w : World} (h : PrBlk ty g n ps w) (i : Nat) : w.frozen? ⟨g, i, none⟩ = false := by obtain ⟨m, F, _, h, _⟩ := h; exact h.frozen i
theorem InBlk.cell {g n : Nat} {f : Nat → Int} {w : World} (h : InBlk g n f w) {i : Nat} (hi : i < n) : w.cell? ⟨g, i, none⟩ = some (.int .i64 (f i)) := by
  obtain ⟨m, F, h1, h2, h3⟩ := h
  rw [h2.cell (i := i) (by omega), h3 _ hi]; rfl
theorem InBlk.frozen {g n : Nat} {f : Nat → Int} {w : World} (h : InBlk g n f w) (i : Nat) : w.frozen? ⟨g, i, none⟩ = false := by obtain ⟨m, F, _, h, _⟩ := h; exact h.frozen i
theorem PrBlk.cells {ty : TypeId} {g n : Nat} {ps : Nat → St.Pr} {w : World} (h : PrBlk ty g n ps w) {i : Nat} (hi : i < n) : PrCells g (i * 2) (ps i) w :=
  ⟨h.cell (k := 0) hi (by omega), h.cell (k := 1) hi (by omega)⟩
theorem PrBlk.at_ {ty : TypeId} {g n : Nat} {ps : Nat → St.Pr} {w : World} (h : PrBlk ty g n ps w) : PrsAt (some ⟨g, 0, none⟩) n ps w := Or.inr ⟨g, rfl, fun _ hi => h.cells hi⟩
theorem InBlk.at_ {g n : Nat} {f : Nat → Int} {w : World} (h : InBlk g n f w) : IntsAt (some ⟨g, 0, none⟩) n f w := Or.inr ⟨g, rfl, fun _ hi => h.cell hi⟩
theorem InBlk.congr {g n : Nat} {f f' : Nat → Int} {w : World} (h : InBlk g n f w) (e : ∀ j, j < n → f j = f' j) : InBlk g n f' w := by
  obtain ⟨m, F, h1, h2, h3⟩ := h
  exact ⟨m, F, h1, h2, fun j hj => by rw [h3 j hj]; unfold inRow; rw [e j hj]⟩
theorem PrBlk.congr {ty : TypeId} {g n : Nat} {f f' : Nat → St.Pr} {w : World} (h : PrBlk ty g n f w) (e : ∀ j, j < n → f j = f' j) : PrBlk ty g n f' w := by
  obtain ⟨m, F, h1, h2, h3⟩ := h
  exact ⟨m, F, h1, h2, fun j hj => by rw [h3 j hj]; unfold prRow; rw [e (j / 2) (by omega)]⟩

/-- What is owned as a list of numbers is a block of them. -/
def inList (zs : List Int) : Nat → Int := fun j => zs.getD j 0
theorem own_ints {B : Nat} {v : Value} {zs : List Int} {w : World} (h : w.ownsRow B 2 1 v zs.length (zs.map (Value.int .i64))) :
    (v = .slice none 0 0 ∧ zs = []) ∨ ∃ g cap, v = .slice (some ⟨g, 0, none⟩) zs.length cap ∧ B ≤ g ∧ InBlk g zs.length (inList zs) w := by
  rcases h.2 with h2 | ⟨g, cap, cur, e1, e2, e3, e4, e5, e6, e7⟩
  · exact Or.inl ⟨h2.1, List.length_eq_zero_iff.1 h2.2⟩
  · refine Or.inr ⟨g, cap, e1, e2, cap, fun i => cur[i]?.getD undef, e4, ⟨cur, e3, by simpa using e6, fun i hi => ?_⟩, fun j hj => ?_⟩
    · show cur[i]? = some (cur[i]?.getD undef)
      rw [Array.getElem?_eq_getElem (by omega)]
      rfl
    · have h1 : (cur.toList.take (zs.length * 1))[j]? = (zs.map (Value.int .i64))[j]? := by rw [e7]
      rw [List.getElem?_take, if_pos (by omega), Array.getElem?_toList] at h1
      show cur[j]?.getD undef = inRow (inList zs) j
      rw [h1]
      unfold inRow inList
      simp [hj]
/-- The cells of a list of pairs. -/
def prCells (p : St.Pr) : List Value := [.int .i64 p.a, .int .i64 p.b]
def prList (zs : List St.Pr) : Nat → St.Pr := fun j => zs.getD j ⟨0, 0⟩
theorem prCells_len (zs : List St.Pr) : (zs.flatMap prCells).length = zs.length * 2 := by
  induction zs with
  | nil => rfl
  | cons a t ih => rw [List.flatMap_cons, List.length_append, ih]; simp [prCells]; omega
theorem prCells_get (zs : List St.Pr) : ∀ j, j < zs.length * 2 → (zs.flatMap prCells)[j]? = some (prRow (prList zs) j) := by
  induction zs with
  | nil => intro j hj; simp at hj
  | cons a t ih =>
    intro j hj
    rw [List.flatMap_cons]
    by_cases h : j < 2
    · rw [List.getElem?_append_left (by simpa [prCells] using h)]
      have hj5 : j = 0 ∨ j = 1 := by omega
      rcases hj5 with rfl | rfl <;> simp [prCells, prRow, prList, prCell]
    · have e5 : (prCells a).length = 2 := rfl
      rw [List.getElem?_append_right (by omega), e5, ih (j - 2) (by simp at hj; omega)]
      unfold prRow prList
      have e1 : j / 2 = (j - 2) / 2 + 1 := by omega
      have e2 : j % 2 = (j - 2) % 2 := by omega
      rw [e1, e2]
      simp
theorem own_prs {ty : TypeId} {B : Nat} {v : Value} {zs : List St.Pr} {w : World} (h : w.ownsRow B ty 2 v zs.length (zs.flatMap prCells)) :
    (v = .slice none 0 0 ∧ zs = []) ∨ ∃ g cap, v = .slice (some ⟨g, 0, none⟩) zs.length cap ∧ B ≤ g ∧ PrBlk ty g zs.length (prList zs) w := by
  rcases h.2 with h2 | ⟨g, cap, cur, e1, e2, e3, e4, e5, e6, e7⟩
  · exact Or.inl ⟨h2.1, List.length_eq_zero_iff.1 h2.2⟩
  · refine Or.inr ⟨g, cap, e1, e2, cap, fun i => cur[i]?.getD undef, e4, ⟨cur, e3, e6, fun i hi => ?_⟩, fun j hj => ?_⟩
    · show cur[i]? = some (cur[i]?.getD undef)
      rw [Array.getElem?_eq_getElem (by omega)]
      rfl
    · have h1 : (cur.toList.take (zs.length * 2))[j]? = (zs.flatMap prCells)[j]? := by rw [e7]
      rw [List.getElem?_take, if_pos (by omega), Array.getElem?_toList, prCells_get _ _ hj] at h1
      show cur[j]?.getD undef = _
      rw [h1]; rfl
/-- The list of what a function tells at the first places. -/
def listOf {α : Type} (f : Nat → α) (n : Nat) : List α := (List.range n).map f
theorem listOf_len {α : Type} (f : Nat → α) (n : Nat) : (listOf f n).length = n := by simp [listOf]
theorem listOf_succ {α : Type} (f : Nat → α) (n : Nat) : listOf f (n + 1) = listOf f n ++ [f n] := by simp [listOf, List.range_succ]
theorem inList_of (f : Nat → Int) {n j : Nat} (h : j < n) : inList (listOf f n) j = f j := by simp [inList, listOf, h]
theorem prList_of (f : Nat → St.Pr) {n j : Nat} (h : j < n) : prList (listOf f n) j = f j := by simp [prList, listOf, h]

/-- A world that lies behind another one: old blocks as they were, some draws, new blocks. -/
structure Gr (w w' : World) : Prop where
  bel : Below w.heap.size w w'
  dr : w.drawn ≤ w'.drawn
theorem Gr.refl (w : World) : Gr w w := ⟨Below.refl _ _, Nat.le_refl _⟩
theorem Gr.trans {a b c : World} (h : Gr a b) (k : Gr b c) : Gr a c := ⟨h.bel.trans (k.bel.mono h.bel.size), Nat.le_trans h.dr k.dr⟩
theorem Gr.alloc {a w : World} (h : Gr a w) (o : Obj) : Gr a (w.alloc o) := ⟨h.bel.alloc h.bel.size o, h.dr⟩
theorem Gr.drew {a w : World} (h : Gr a w) : Gr a w.drew := ⟨h.bel.drew, Nat.le_succ_of_le h.dr⟩
theorem Gr.drewN {a w : World} (h : Gr a w) (n : Nat) : Gr a (w.drewN n) := ⟨h.bel.trans ⟨rfl, rfl, rfl, Nat.le_refl _, fun _ _ => rfl⟩, Nat.le_trans h.dr (Nat.le_add_right _ _)⟩
theorem Gr.set {a w : World} (h : Gr a w) {p : Addr} (hp : a.heap.size ≤ p.block) (u : Value) : Gr a (w.setCell p u) := ⟨h.bel.setCell hp u, h.dr⟩
theorem Gr.eq {w w' : World} (h : Gr w w') : ∃ q os, w' = Go.Sort.grow (w.drewN q) os := by
  refine ⟨w'.drawn - w.drawn, w'.heap.extract w.heap.size w'.heap.size, ?_⟩
  obtain ⟨⟨h1, h2, h3, h4, h5⟩, h6⟩ := h
  have hh : w.heap ++ w'.heap.extract w.heap.size w'.heap.size = w'.heap := by
    apply Array.ext_getElem?
    intro k
    rw [Array.getElem?_append]
    by_cases hk : k < w.heap.size
    · rw [if_pos hk, h5 k hk]
    · rw [if_neg hk, Array.getElem?_extract]
      by_cases hk2 : k < w'.heap.size
      · rw [if_pos (by omega)]; congr 1; omega
      · rw [if_neg (by omega), Array.getElem?_eq_none (by omega)]
  cases w; cases w'
  simp only at *
  subst h1 h2 h3
  unfold Go.Sort.grow
  simp only [World.drewN]
  congr
  · exact hh.symm
  · omega
theorem gr_of {w : World} (q : Nat) (os : Array Obj) : Gr w (Go.Sort.grow (w.drewN q) os) := ⟨⟨rfl, rfl, rfl, by simp [Go.Sort.grow, World.drewN], fun k hk => by rw [Go.Sort.heap_grow_old]; rfl; exact hk⟩, by simp [Go.Sort.grow, World.drewN]⟩
end Go.Proofs.YtcjeieagpcphjaaDoor
