/-
  Rivers and lists of numbers in memory.
-/
import Derived.Test.YtdpghhmcibiplaaDoorRvMath
import Derived.Test.YtdpghhmcibiplaaDoorNums
import Derived.Laws.AppendOwn
import Derived.OwnWalk
import Derived.Deep.OwnRows
import Derived.Deep.Heap
import Derived.WalkMore
import Derived.Lib.Hide
import Derived.Deep.RegionWith
namespace Go.Proofs.YtdpghhmcibiplaaDoor
open Go.RowKit Go.Deep

/-- A Boolean that tells this. -/
def BoolEnd (P : Prop) (e : Ending) : Prop := ∃ b : Bool, e = .returned (.bool b) ∧ (b = true ↔ P)
theorem BoolEnd.tt {P : Prop} (h : P) : BoolEnd P (.returned (.bool true)) := ⟨true, rfl, by simp [h]⟩
theorem BoolEnd.ff {P : Prop} (h : ¬ P) : BoolEnd P (.returned (.bool false)) := ⟨false, rfl, by simp [h]⟩
theorem bool_of (P : Prop) : ∃ b : Bool, b = true ↔ P := by
  by_cases h : P
  · exact ⟨true, by simp [h]⟩
  · exact ⟨false, by simp [h]⟩

/-- A reach as a value. -/
abbrev rcV (r : Rv.Rc) : Value := .agg #[.int .i64 r.st, .int .i64 r.kp, .int .i64 r.dn, .int .i64 r.tk, .int .i64 r.ls]
/-- The five cells of a reach. -/
def RcCells (b o : Nat) (r : Rv.Rc) (w : World) : Prop := w.cell? ⟨b, o, none⟩ = some (.int .i64 r.st) ∧ w.cell? ⟨b, o + 1, none⟩ = some (.int .i64 r.kp) ∧ w.cell? ⟨b, o + 2, none⟩ = some (.int .i64 r.dn) ∧ w.cell? ⟨b, o + 3, none⟩ = some (.int .i64 r.tk) ∧ w.cell? ⟨b, o + 4, none⟩ = some (.int .i64 r.ls)
theorem RcCells.lt {b o : Nat} {r : Rv.Rc} {w : World} (h : RcCells b o r w) : b < w.heap.size := World.block_lt_of_cell? _ _ h.1
theorem RcCells.block {b o : Nat} {r : Rv.Rc} {w w' : World} (h : RcCells b o r w) (hb : w'.heap[b]? = w.heap[b]?) : RcCells b o r w' :=
  ⟨(World.cell?_of_block (a := ⟨b, o, none⟩) hb).trans h.1, (World.cell?_of_block (a := ⟨b, o + 1, none⟩) hb).trans h.2.1, (World.cell?_of_block (a := ⟨b, o + 2, none⟩) hb).trans h.2.2.1, (World.cell?_of_block (a := ⟨b, o + 3, none⟩) hb).trans h.2.2.2.1, (World.cell?_of_block (a := ⟨b, o + 4, none⟩) hb).trans h.2.2.2.2⟩
/-- A river that lies in memory. -/
def RcsAt (a : Option Addr) (n : Nat) (rs : Nat → Rv.Rc) (w : World) : Prop := n = 0 ∨ ∃ b, a = some ⟨b, 0, none⟩ ∧ ∀ i, i < n → RcCells b (i * 5) (rs i) w
/-- Numbers that lie in memory. -/
def IntsAt (a : Option Addr) (n : Nat) (f : Nat → Int) (w : World) : Prop := n = 0 ∨ ∃ b, a = some ⟨b, 0, none⟩ ∧ ∀ i, i < n → w.cell? ⟨b, i, none⟩ = some (.int .i64 (f i))

theorem RcsAt.at_ {a : Option Addr} {n : Nat} {rs : Nat → Rv.Rc} {w : World} (h : RcsAt a n rs w) {i : Nat} (hi : i < n) : ∃ b, a = some ⟨b, 0, none⟩ ∧ RcCells b (i * 5) (rs i) w := by
  rcases h with h | ⟨b, e, h⟩
  · omega
  · exact ⟨b, e, h i hi⟩
theorem IntsAt.at_ {a : Option Addr} {n : Nat} {f : Nat → Int} {w : World} (h : IntsAt a n f w) {i : Nat} (hi : i < n) : ∃ b, a = some ⟨b, 0, none⟩ ∧ w.cell? ⟨b, i, none⟩ = some (.int .i64 (f i)) := by
  rcases h with h | ⟨b, e, h⟩
  · omega
  · exact ⟨b, e, h i hi⟩
/-- It stays where its block does. -/
theorem RcsAt.same {a : Option Addr} {n : Nat} {rs : Nat → Rv.Rc} {w w' : World} (h : RcsAt a n rs w) (hb : ∀ b, a = some ⟨b, 0, none⟩ → b < w.heap.size → w'.heap[b]? = w.heap[b]?) : RcsAt a n rs w' := by
  rcases h with h | ⟨b, e, h⟩
  · exact Or.inl h
  · exact Or.inr ⟨b, e, fun i hi => (h i hi).block (hb b e (h i hi).lt)⟩
theorem IntsAt.same {a : Option Addr} {n : Nat} {f : Nat → Int} {w w' : World} (h : IntsAt a n f w) (hb : ∀ b, a = some ⟨b, 0, none⟩ → b < w.heap.size → w'.heap[b]? = w.heap[b]?) : IntsAt a n f w' := by
  rcases h with h | ⟨b, e, h⟩
  · exact Or.inl h
  · exact Or.inr ⟨b, e, fun i hi => (World.cell?_of_block (a := ⟨b, i, none⟩) (hb b e (World.block_lt_of_cell? _ _ (h i hi)))).trans (h i hi)⟩
theorem RcsAt.below {a : Option Addr} {n : Nat} {rs : Nat → Rv.Rc} {w w' : World} (h : RcsAt a n rs w) (hb : Below w.heap.size w w') : RcsAt a n rs w' := h.same (fun b _ hl => hb.block b hl)
theorem IntsAt.below {a : Option Addr} {n : Nat} {f : Nat → Int} {w w' : World} (h : IntsAt a n f w) (hb : Below w.heap.size w w') : IntsAt a n f w' := h.same (fun b _ hl => hb.block b hl)
theorem RcsAt.congr {a : Option Addr} {n : Nat} {rs rs' : Nat → Rv.Rc} {w : World} (h : RcsAt a n rs w) (e : ∀ i, i < n → rs i = rs' i) : RcsAt a n rs' w := by
  rcases h with h | ⟨b, e1, h⟩
  · exact Or.inl h
  · exact Or.inr ⟨b, e1, fun i hi => by rw [← e i hi]; exact h i hi⟩
theorem IntsAt.congr {a : Option Addr} {n : Nat} {f g : Nat → Int} {w : World} (h : IntsAt a n f w) (e : ∀ i, i < n → f i = g i) : IntsAt a n g w := by
  rcases h with h | ⟨b, e1, h⟩
  · exact Or.inl h
  · exact Or.inr ⟨b, e1, fun i hi => by rw [← e i hi]; exact h i hi⟩

theorem mulmod (i k : Nat) (hk : k < 5) : (i * 5 + k) / 5 = i ∧ (i * 5 + k) % 5 = k := by omega
/-- A reach's cell by its place. -/
def rcCell (r : Rv.Rc) (k : Nat) : Value := .int .i64 (if k = 0 then r.st else if k = 1 then r.kp else if k = 2 then r.dn else if k = 3 then r.tk else r.ls)
/-- The cells of a river, one behind the other. -/
def rcRow (rs : Nat → Rv.Rc) (j : Nat) : Value := rcCell (rs (j / 5)) (j % 5)
/-- The cells of numbers. -/
def inRow (f : Nat → Int) (j : Nat) : Value := .int .i64 (f j)
theorem rcRow_at (rs : Nat → Rv.Rc) (i k : Nat) (hk : k < 5) : rcRow rs (i * 5 + k) = rcCell (rs i) k := by
  unfold rcRow; rw [(mulmod i k hk).1, (mulmod i k hk).2]
/-- A block of a river, of the call's own. -/
def RcBlk (g : Nat) (n : Nat) (rs : Nat → Rv.Rc) (w : World) : Prop := ∃ m F, n ≤ m ∧ w.rowIs g 43 (m * 5) F ∧ ∀ j, j < n * 5 → F j = rcRow rs j
/-- A block of numbers, of the call's own. -/
def InBlk (g : Nat) (n : Nat) (f : Nat → Int) (w : World) : Prop := ∃ m F, n ≤ m ∧ w.rowIs g 2 m F ∧ ∀ j, j < n → F j = inRow f j
theorem RcBlk.lt {g n : Nat} {rs : Nat → Rv.Rc} {w : World} (h : RcBlk g n rs w) : g < w.heap.size := by obtain ⟨m, F, _, h, _⟩ := h; exact h.lt
theorem InBlk.lt {g n : Nat} {f : Nat → Int} {w : World} (h : InBlk g n f w) : g < w.heap.size := by obtain ⟨m, F, _, h, _⟩ := h; exact h.lt
theorem RcBlk.block {g n : Nat} {rs : Nat → Rv.Rc} {w w' : World} (h : RcBlk g n rs w) (e : w'.heap[g]? = w.heap[g]?) : RcBlk g n rs w' := by obtain ⟨m, F, h1, h2, h3⟩ := h; exact ⟨m, F, h1, h2.of_block e, h3⟩
theorem InBlk.block {g n : Nat} {f : Nat → Int} {w w' : World} (h : InBlk g n f w) (e : w'.heap[g]? = w.heap[g]?) : InBlk g n f w' := by obtain ⟨m, F, h1, h2, h3⟩ := h; exact ⟨m, F, h1, h2.of_block e, h3⟩
theorem RcBlk.cell {g n : Nat} {rs : Nat → Rv.Rc} {w : World} (h : RcBlk g n rs w) {i k : Nat} (hi : i < n) (hk : k < 5) : w.cell? ⟨g, i * 5 + k, none⟩ = some (rcCell (rs i) k) := by
  obtain ⟨m, F, h1, h2, h3⟩ := h
  rw [h2.cell (i := i * 5 + k) (by omega), h3 _ (by omega), rcRow_at _ _ _ hk]
theorem RcBlk.frozen {g n : Nat} {rs : Nat → Rv.Rc} {w : World} (h : RcBlk g n rs w) (i : Nat) : w.frozen? ⟨g, i, none⟩ = false := by obtain ⟨m, F, _, h, _⟩ := h; exact h.frozen i
theorem InBlk.cell {g n : Nat} {f : Nat → Int} {w : World} (h : InBlk g n f w) {i : Nat} (hi : i < n) : w.cell? ⟨g, i, none⟩ = some (.int .i64 (f i)) := by
  obtain ⟨m, F, h1, h2, h3⟩ := h
  rw [h2.cell (i := i) (by omega), h3 _ hi]; rfl
theorem InBlk.frozen {g n : Nat} {f : Nat → Int} {w : World} (h : InBlk g n f w) (i : Nat) : w.frozen? ⟨g, i, none⟩ = false := by obtain ⟨m, F, _, h, _⟩ := h; exact h.frozen i
theorem RcBlk.cells {g n : Nat} {rs : Nat → Rv.Rc} {w : World} (h : RcBlk g n rs w) {i : Nat} (hi : i < n) : RcCells g (i * 5) (rs i) w :=
  ⟨h.cell (k := 0) hi (by omega), h.cell (k := 1) hi (by omega), h.cell (k := 2) hi (by omega), h.cell (k := 3) hi (by omega), h.cell (k := 4) hi (by omega)⟩
theorem RcBlk.at_ {g n : Nat} {rs : Nat → Rv.Rc} {w : World} (h : RcBlk g n rs w) : RcsAt (some ⟨g, 0, none⟩) n rs w := Or.inr ⟨g, rfl, fun _ hi => h.cells hi⟩
theorem InBlk.at_ {g n : Nat} {f : Nat → Int} {w : World} (h : InBlk g n f w) : IntsAt (some ⟨g, 0, none⟩) n f w := Or.inr ⟨g, rfl, fun _ hi => h.cell hi⟩
theorem InBlk.set {g n : Nat} {f : Nat → Int} {w : World} (h : InBlk g n f w) (i : Nat) (x : Int) : InBlk g n (Rv.upd f i x) (w.setCell ⟨g, i, none⟩ (.int .i64 x)) := by
  obtain ⟨m, F, h1, h2, h3⟩ := h
  refine ⟨m, _, h1, h2.set i _, fun j hj => ?_⟩
  show (if j = i then _ else F j) = .int .i64 (if j = i then x else f j)
  by_cases e : j = i
  · rw [if_pos e, if_pos e]
  · rw [if_neg e, if_neg e]; exact h3 j hj
theorem RcBlk.setSt {g n : Nat} {rs : Nat → Rv.Rc} {w : World} (h : RcBlk g n rs w) (i : Nat) (x : Int) : RcBlk g n (fun j => if j = i then { rs j with st := x } else rs j) (w.setCell ⟨g, i * 5, none⟩ (.int .i64 x)) := by
  obtain ⟨m, F, h1, h2, h3⟩ := h
  refine ⟨m, _, h1, h2.set (i * 5) _, fun j hj => ?_⟩
  show (if j = i * 5 then _ else F j) = rcCell (if j / 5 = i then _ else rs (j / 5)) (j % 5)
  by_cases e : j = i * 5
  · subst e
    rw [if_pos rfl, if_pos (by omega)]
    have : i * 5 % 5 = 0 := by omega
    rw [this]; rfl
  · rw [if_neg e, h3 j hj]
    unfold rcRow
    by_cases e2 : j / 5 = i
    · rw [if_pos e2]
      have : j % 5 ≠ 0 := by omega
      unfold rcCell
      rw [if_neg this, if_neg this]
    · rw [if_neg e2]
theorem InBlk.congr {g n : Nat} {f f' : Nat → Int} {w : World} (h : InBlk g n f w) (e : ∀ j, j < n → f j = f' j) : InBlk g n f' w := by
  obtain ⟨m, F, h1, h2, h3⟩ := h
  exact ⟨m, F, h1, h2, fun j hj => by rw [h3 j hj]; unfold inRow; rw [e j hj]⟩
theorem RcBlk.congr {g n : Nat} {f f' : Nat → Rv.Rc} {w : World} (h : RcBlk g n f w) (e : ∀ j, j < n → f j = f' j) : RcBlk g n f' w := by
  obtain ⟨m, F, h1, h2, h3⟩ := h
  exact ⟨m, F, h1, h2, fun j hj => by rw [h3 j hj]; unfold rcRow; rw [e (j / 5) (by omega)]⟩

/-- What is owned as a list of numbers is a block of them. -/
def inList (zs : List Int) : Nat → Int := fun j => zs.getD j 0
theorem own_ints {B : Nat} {v : Value} {zs : List Int} {w : World} (h : w.ownsRow B 2 1 v zs.length (zs.map (Value.int .i64))) :
    (v = .slice none 0 0 ∧ zs = []) ∨ ∃ g cap, v = .slice (some ⟨g, 0, none⟩) zs.length cap ∧ B ≤ g ∧ InBlk g zs.length (inList zs) w := by
  rcases h.2 with h2 | ⟨g, cap, cur, e1, e2, e3, e4, e5, e6, e7⟩
  · exact Or.inl ⟨h2.1, List.length_eq_zero_iff.1 h2.2⟩
  · refine Or.inr ⟨g, cap, e1, e2, cap, fun i => cur[i]?.getD undef, e4, ⟨cur, e3, by simpa using e6, fun i hi => ?_⟩, fun j hj => ?_⟩
    · show cur[i]? = some (cur[i]?.getD undef)
      rw [Array.getElem?_eq_getElem (by omega)]
      rfl
    · have h1 : (cur.toList.take (zs.length * 1))[j]? = (zs.map (Value.int .i64))[j]? := by rw [e7]
      rw [List.getElem?_take, if_pos (by omega), Array.getElem?_toList] at h1
      show cur[j]?.getD undef = inRow (inList zs) j
      rw [h1]
      unfold inRow inList
      simp [hj]
/-- The cells of a list of reaches. -/
def rcCells (r : Rv.Rc) : List Value := [.int .i64 r.st, .int .i64 r.kp, .int .i64 r.dn, .int .i64 r.tk, .int .i64 r.ls]
def rcList (zs : List Rv.Rc) : Nat → Rv.Rc := fun j => zs.getD j ⟨0, 0, 0, 0, 0⟩
theorem rcCells_len (zs : List Rv.Rc) : (zs.flatMap rcCells).length = zs.length * 5 := by
  induction zs with
  | nil => rfl
  | cons a t ih => rw [List.flatMap_cons, List.length_append, ih]; simp [rcCells]; omega
theorem rcCells_get (zs : List Rv.Rc) : ∀ j, j < zs.length * 5 → (zs.flatMap rcCells)[j]? = some (rcRow (rcList zs) j) := by
  induction zs with
  | nil => intro j hj; simp at hj
  | cons a t ih =>
    intro j hj
    rw [List.flatMap_cons]
    by_cases h : j < 5
    · rw [List.getElem?_append_left (by simpa [rcCells] using h)]
      have hj5 : j = 0 ∨ j = 1 ∨ j = 2 ∨ j = 3 ∨ j = 4 := by omega
      rcases hj5 with rfl | rfl | rfl | rfl | rfl <;> simp [rcCells, rcRow, rcList, rcCell]
    · have e5 : (rcCells a).length = 5 := rfl
      rw [List.getElem?_append_right (by omega), e5, ih (j - 5) (by simp at hj; omega)]
      unfold rcRow rcList
      have e1 : j / 5 = (j - 5) / 5 + 1 := by omega
      have e2 : j % 5 = (j - 5) % 5 := by omega
      rw [e1, e2]
      simp
theorem own_rcs {B : Nat} {v : Value} {zs : List Rv.Rc} {w : World} (h : w.ownsRow B 43 5 v zs.length (zs.flatMap rcCells)) :
    (v = .slice none 0 0 ∧ zs = []) ∨ ∃ g cap, v = .slice (some ⟨g, 0, none⟩) zs.length cap ∧ B ≤ g ∧ RcBlk g zs.length (rcList zs) w := by
  rcases h.2 with h2 | ⟨g, cap, cur, e1, e2, e3, e4, e5, e6, e7⟩
  · exact Or.inl ⟨h2.1, List.length_eq_zero_iff.1 h2.2⟩
  · refine Or.inr ⟨g, cap, e1, e2, cap, fun i => cur[i]?.getD undef, e4, ⟨cur, e3, e6, fun i hi => ?_⟩, fun j hj => ?_⟩
    · show cur[i]? = some (cur[i]?.getD undef)
      rw [Array.getElem?_eq_getElem (by omega)]
      rfl
    · have h1 : (cur.toList.take (zs.length * 5))[j]? = (zs.flatMap rcCells)[j]? := by rw [e7]
      rw [List.getElem?_take, if_pos (by omega), Array.getElem?_toList, rcCells_get _ _ hj] at h1
      show cur[j]?.getD undef = _
      rw [h1]; rfl
/-- The list of what a function tells at the first places. -/
def listOf {α : Type} (f : Nat → α) (n : Nat) : List α := (List.range n).map f
theorem listOf_len {α : Type} (f : Nat → α) (n : Nat) : (listOf f n).length = n := by simp [listOf]
theorem listOf_succ {α : Type} (f : Nat → α) (n : Nat) : listOf f (n + 1) = listOf f n ++ [f n] := by simp [listOf, List.range_succ]
theorem inList_of (f : Nat → Int) {n j : Nat} (h : j < n) : inList (listOf f n) j = f j := by simp [inList, listOf, h]
theorem rcList_of (f : Nat → Rv.Rc) {n j : Nat} (h : j < n) : rcList (listOf f n) j = f j := by simp [rcList, listOf, h]
end Go.Proofs.YtdpghhmcibiplaaDoor
