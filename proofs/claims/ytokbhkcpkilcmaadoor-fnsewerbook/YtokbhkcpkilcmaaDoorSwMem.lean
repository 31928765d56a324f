/-
  Sewers and lists of numbers in memory.
-/
import Derived.Test.YtokbhkcpkilcmaaDoorSwMath
import Derived.Test.YtokbhkcpkilcmaaDoorNtMem
namespace Go.Proofs.YtokbhkcpkilcmaaDoor
open Go.RowKit Go.Deep

theorem bool_of (P : Prop) : ∃ b : Bool, b = true ↔ P := by
  by_cases h : P
  · exact ⟨true, by simp [h]⟩
  · exact ⟨false, by simp [h]⟩

theorem IsAt.at6 {a : Option Addr} {n i : Nat} {f : Nat → Int} {w : World} (h : IsAt a (n * 6) f w) (hi : i < n) : ∃ b, a = some ⟨b, 0, none⟩ ∧ w.cell? ⟨b, i * 6, none⟩ = some (.int .i64 (f (i * 6))) ∧ w.cell? ⟨b, i * 6 + 1, none⟩ = some (.int .i64 (f (i * 6 + 1))) ∧ w.cell? ⟨b, i * 6 + 2, none⟩ = some (.int .i64 (f (i * 6 + 2))) ∧ w.cell? ⟨b, i * 6 + 3, none⟩ = some (.int .i64 (f (i * 6 + 3))) ∧ w.cell? ⟨b, i * 6 + 4, none⟩ = some (.int .i64 (f (i * 6 + 4))) ∧ w.cell? ⟨b, i * 6 + 5, none⟩ = some (.int .i64 (f (i * 6 + 5))) := by
  obtain ⟨b, e, k⟩ := h.pos (by omega)
  exact ⟨b, e, k (i * 6) (by omega), k (i * 6 + 1) (by omega), k (i * 6 + 2) (by omega), k (i * 6 + 3) (by omega), k (i * 6 + 4) (by omega), k (i * 6 + 5) (by omega)⟩
theorem IsIn.at6 {a : Option Addr} {n i : Nat} {f : Nat → Int} {w : World} (h : IsIn a (n * 6) f w) (hi : i < n) : ∃ b o, a = some ⟨b, o, none⟩ ∧ w.cell? ⟨b, o + i * 6, none⟩ = some (.int .i64 (f (i * 6))) ∧ w.cell? ⟨b, o + i * 6 + 1, none⟩ = some (.int .i64 (f (i * 6 + 1))) ∧ w.cell? ⟨b, o + i * 6 + 2, none⟩ = some (.int .i64 (f (i * 6 + 2))) ∧ w.cell? ⟨b, o + i * 6 + 3, none⟩ = some (.int .i64 (f (i * 6 + 3))) ∧ w.cell? ⟨b, o + i * 6 + 4, none⟩ = some (.int .i64 (f (i * 6 + 4))) ∧ w.cell? ⟨b, o + i * 6 + 5, none⟩ = some (.int .i64 (f (i * 6 + 5))) := by
  obtain ⟨b, o, e, k⟩ := h.pos (by omega)
  exact ⟨b, o, e, k (i * 6) (by omega), k (i * 6 + 1) (by omega), k (i * 6 + 2) (by omega), k (i * 6 + 3) (by omega), k (i * 6 + 4) (by omega), k (i * 6 + 5) (by omega)⟩
/-- A sewer as a value. -/
abbrev rcV (r : Sw.Rc) : Value := .agg #[.int .i64 r.kd, .int .i64 r.st, .int .i64 r.rm, .int .i64 r.fw, .int .i64 r.lp, .int .i64 r.dn]
/-- A sewer's number by its place. -/
def scN (r : Sw.Rc) (k : Nat) : Int := if k = 0 then r.kd else if k = 1 then r.st else if k = 2 then r.rm else if k = 3 then r.fw else if k = 4 then r.lp else r.dn
/-- The numbers of sewers, one behind the other. -/
def scF (rs : Nat → Sw.Rc) (j : Nat) : Int := scN (rs (j / 6)) (j % 6)
/-- Sewers out of numbers. -/
def scOf (f : Nat → Int) (i : Nat) : Sw.Rc := ⟨f (i * 6), f (i * 6 + 1), f (i * 6 + 2), f (i * 6 + 3), f (i * 6 + 4), f (i * 6 + 5)⟩
theorem scF_at (rs : Nat → Sw.Rc) (i k : Nat) (hk : k < 6) : scF rs (i * 6 + k) = scN (rs i) k := by
  unfold scF
  have e1 : (i * 6 + k) / 6 = i := by omega
  have e2 : (i * 6 + k) % 6 = k := by omega
  rw [e1, e2]
theorem scF_of (f : Nat → Int) (j : Nat) : scF (scOf f) j = f j := by
  have hk : j % 6 = 0 ∨ j % 6 = 1 ∨ j % 6 = 2 ∨ j % 6 = 3 ∨ j % 6 = 4 ∨ j % 6 = 5 := by omega
  unfold scF scOf scN
  rcases hk with e | e | e | e | e | e <;> rw [e] <;> simp <;> congr 1 <;> omega
theorem scF_ofE (f : Nat → Int) : scF (scOf f) = f := funext (scF_of f)

/-- The six cells of a sewer. -/
def RcCells (b o : Nat) (r : Sw.Rc) (w : World) : Prop := w.cell? ⟨b, o, none⟩ = some (.int .i64 r.kd) ∧ w.cell? ⟨b, o + 1, none⟩ = some (.int .i64 r.st) ∧ w.cell? ⟨b, o + 2, none⟩ = some (.int .i64 r.rm) ∧ w.cell? ⟨b, o + 3, none⟩ = some (.int .i64 r.fw) ∧ w.cell? ⟨b, o + 4, none⟩ = some (.int .i64 r.lp) ∧ w.cell? ⟨b, o + 5, none⟩ = some (.int .i64 r.dn)
theorem RcCells.lt {b o : Nat} {r : Sw.Rc} {w : World} (h : RcCells b o r w) : b < w.heap.size := World.block_lt_of_cell? _ _ h.1
theorem RcCells.block {b o : Nat} {r : Sw.Rc} {w w' : World} (h : RcCells b o r w) (hb : w'.heap[b]? = w.heap[b]?) : RcCells b o r w' :=
  ⟨(World.cell?_of_block (a := ⟨b, o, none⟩) hb).trans h.1, (World.cell?_of_block (a := ⟨b, o + 1, none⟩) hb).trans h.2.1, (World.cell?_of_block (a := ⟨b, o + 2, none⟩) hb).trans h.2.2.1, (World.cell?_of_block (a := ⟨b, o + 3, none⟩) hb).trans h.2.2.2.1, (World.cell?_of_block (a := ⟨b, o + 4, none⟩) hb).trans h.2.2.2.2.1, (World.cell?_of_block (a := ⟨b, o + 5, none⟩) hb).trans h.2.2.2.2.2⟩
/-- Sewers that lie in memory. -/
def RcsAt (a : Option Addr) (n : Nat) (rs : Nat → Sw.Rc) (w : World) : Prop := IsAt a (n * 6) (scF rs) w
/-- Numbers that lie in memory. -/
abbrev IntsAt (a : Option Addr) (n : Nat) (f : Nat → Int) (w : World) : Prop := IsAt a n f w
theorem rccells_of {b n i : Nat} {rs : Nat → Sw.Rc} {w : World} (h : ∀ j, j < n * 6 → w.cell? ⟨b, j, none⟩ = some (.int .i64 (scF rs j))) (hi : i < n) : RcCells b (i * 6) (rs i) w := by
  have h0 := h (i * 6 + 0) (by omega)
  have h1 := h (i * 6 + 1) (by omega)
  have h2 := h (i * 6 + 2) (by omega)
  have h3 := h (i * 6 + 3) (by omega)
  have h4 := h (i * 6 + 4) (by omega)
  have h5 := h (i * 6 + 5) (by omega)
  rw [scF_at _ _ _ (by omega)] at h0 h1 h2 h3 h4 h5
  exact ⟨h0, h1, h2, h3, h4, h5⟩
theorem rccells_to {b n : Nat} {rs : Nat → Sw.Rc} {w : World} (h : ∀ i, i < n → RcCells b (i * 6) (rs i) w) (j : Nat) (hj : j < n * 6) : w.cell? ⟨b, j, none⟩ = some (.int .i64 (scF rs j)) := by
  obtain ⟨c0, c1, c2, c3, c4, c5⟩ := h (j / 6) (by omega)
  have hk : j % 6 = 0 ∨ j % 6 = 1 ∨ j % 6 = 2 ∨ j % 6 = 3 ∨ j % 6 = 4 ∨ j % 6 = 5 := by omega
  unfold scF
  rcases hk with e | e | e | e | e | e
  · rw [e]; have : j = j / 6 * 6 := by omega
    rw [← this] at c0; exact c0
  · rw [e]; have : j = j / 6 * 6 + 1 := by omega
    rw [← this] at c1; exact c1
  · rw [e]; have : j = j / 6 * 6 + 2 := by omega
    rw [← this] at c2; exact c2
  · rw [e]; have : j = j / 6 * 6 + 3 := by omega
    rw [← this] at c3; exact c3
  · rw [e]; have : j = j / 6 * 6 + 4 := by omega
    rw [← this] at c4; exact c4
  · rw [e]; have : j = j / 6 * 6 + 5 := by omega
    rw [← this] at c5; exact c5
theorem RcsAt.at_ {a : Option Addr} {n : Nat} {rs : Nat → Sw.Rc} {w : World} (h : RcsAt a n rs w) {i : Nat} (hi : i < n) : ∃ b, a = some ⟨b, 0, none⟩ ∧ RcCells b (i * 6) (rs i) w := by
  obtain ⟨b, e, k⟩ := IsAt.pos h (by omega)
  exact ⟨b, e, rccells_of k hi⟩
theorem RcsAt.all {a : Option Addr} {n : Nat} {rs : Nat → Sw.Rc} {w : World} (h : RcsAt a n rs w) (hn : 0 < n) : ∃ b, a = some ⟨b, 0, none⟩ ∧ ∀ i, i < n → RcCells b (i * 6) (rs i) w := by
  obtain ⟨b, e, k⟩ := IsAt.pos h (by omega)
  exact ⟨b, e, fun i hi => rccells_of k hi⟩
theorem RcsAt.of {b n : Nat} {rs : Nat → Sw.Rc} {w : World} (h : ∀ i, i < n → RcCells b (i * 6) (rs i) w) : RcsAt (some ⟨b, 0, none⟩) n rs w := Or.inr ⟨b, rfl, rccells_to h⟩
theorem RcsAt.below {a : Option Addr} {n : Nat} {rs : Nat → Sw.Rc} {w w' : World} (h : RcsAt a n rs w) (hb : Below w.heap.size w w') : RcsAt a n rs w' := IsAt.below h hb

/-- A block of sewers, of the call's own. -/
def RcBlk (g : Nat) (n : Nat) (rs : Nat → Sw.Rc) (w : World) : Prop := IsBlk 55 g (n * 6) (scF rs) w
/-- A block of numbers, of the call's own. -/
abbrev InBlk (g : Nat) (n : Nat) (f : Nat → Int) (w : World) : Prop := IsBlk 2 g n f w
theorem RcBlk.lt {g n : Nat} {rs : Nat → Sw.Rc} {w : World} (h : RcBlk g n rs w) : g < w.heap.size := IsBlk.lt h
theorem RcBlk.block {g n : Nat} {rs : Nat → Sw.Rc} {w w' : World} (h : RcBlk g n rs w) (e : w'.heap[g]? = w.heap[g]?) : RcBlk g n rs w' := IsBlk.block h e
theorem RcBlk.frozen {g n : Nat} {rs : Nat → Sw.Rc} {w : World} (h : RcBlk g n rs w) (i : Nat) : w.frozen? ⟨g, i, none⟩ = false := IsBlk.frozen h i
theorem RcBlk.cells {g n : Nat} {rs : Nat → Sw.Rc} {w : World} (h : RcBlk g n rs w) {i : Nat} (hi : i < n) : RcCells g (i * 6) (rs i) w := rccells_of (fun _ hj => IsBlk.cell h hj) hi
theorem RcBlk.at_ {g n : Nat} {rs : Nat → Sw.Rc} {w : World} (h : RcBlk g n rs w) : RcsAt (some ⟨g, 0, none⟩) n rs w := IsBlk.at_ h
theorem RcBlk.congr {g n : Nat} {f f' : Nat → Sw.Rc} {w : World} (h : RcBlk g n f w) (e : ∀ j, j < n → f j = f' j) : RcBlk g n f' w :=
  IsBlk.congr h (fun j hj => by unfold scF; rw [e (j / 6) (by omega)])
theorem InBlk.setU {g n : Nat} {f : Nat → Int} {w : World} (h : InBlk g n f w) (i : Nat) (x : Int) : InBlk g n (Sw.upd f i x) (w.setCell ⟨g, i, none⟩ (.int .i64 x)) := IsBlk.set h i x
theorem RcBlk.setSt {g n : Nat} {rs : Nat → Sw.Rc} {w : World} (h : RcBlk g n rs w) (i : Nat) (x : Int) : RcBlk g n (fun j => if j = i then { rs j with st := x } else rs j) (w.setCell ⟨g, i * 6 + 1, none⟩ (.int .i64 x)) := by
  refine IsBlk.congr (IsBlk.set h (i * 6 + 1) x) (fun j hj => ?_)
  show (if j = i * 6 + 1 then x else scF rs j) = scN (if j / 6 = i then _ else rs (j / 6)) (j % 6)
  by_cases e : j = i * 6 + 1
  · subst e
    rw [if_pos rfl, if_pos (by omega)]
    have : (i * 6 + 1) % 6 = 1 := by omega
    rw [this]; rfl
  · rw [if_neg e]
    unfold scF
    by_cases e2 : j / 6 = i
    · rw [if_pos e2]
      have : j % 6 ≠ 1 := by omega
      unfold scN
      by_cases e3 : j % 6 = 0
      · rw [if_pos e3, if_pos e3]
      · rw [if_neg e3, if_neg this, if_neg e3, if_neg this]
    · rw [if_neg e2]
/-- The list of what a function tells at the first places. -/
def listOf {α : Type} (f : Nat → α) (n : Nat) : List α := (List.range n).map f
theorem listOf_len {α : Type} (f : Nat → α) (n : Nat) : (listOf f n).length = n := by simp [listOf]
theorem listOf_succ {α : Type} (f : Nat → α) (n : Nat) : listOf f (n + 1) = listOf f n ++ [f n] := by simp [listOf, List.range_succ]
theorem listOf_get {α : Type} (f : Nat → α) {n j : Nat} (h : j < n) : (listOf f n)[j]? = some (f j) := by simp [listOf, h]
/-- The cells of a list of numbers. -/
def inVs (f : Nat → Int) (n : Nat) : List Value := listOf (fun j => Value.int .i64 (f j)) n
theorem inVs_len (f : Nat → Int) (n : Nat) : (inVs f n).length = n := listOf_len _ _
theorem inVs_get (f : Nat → Int) {n j : Nat} (h : j < n) : (inVs f n)[j]? = some (.int .i64 (f j)) := listOf_get _ h
theorem inVs_succ (f : Nat → Int) (n : Nat) (x : Int) : inVs (Sw.upd f n x) (n + 1) = inVs f n ++ [.int .i64 x] := by
  unfold inVs
  rw [listOf_succ]
  show _ ++ [Value.int .i64 (Sw.upd f n x n)] = _
  rw [Sw.upd_same]
  congr 1
  unfold listOf
  refine List.map_congr_left (fun j hj => ?_)
  show Value.int .i64 (Sw.upd f n x j) = _
  rw [Sw.upd_ne _ _ (by have := List.mem_range.1 hj; omega)]
/-- What is owned as a list of numbers of a type is a block of them. -/
theorem own_flat {B size n : Nat} {T : TypeId} {v : Value} {f : Nat → Int} {w : World} (h : w.ownsRow B T size v n (inVs f (n * size))) :
    (v = .slice none 0 0 ∧ n = 0) ∨ ∃ g cap, v = .slice (some ⟨g, 0, none⟩) n cap ∧ B ≤ g ∧ IsBlk T g (n * size) f w := by
  rcases h.2 with h2 | ⟨g, cap, cur, e1, e2, e3, e4, e5, e6, e7⟩
  · exact Or.inl h2
  · refine Or.inr ⟨g, cap, e1, e2, cap * size, fun i => cur[i]?.getD undef, Nat.mul_le_mul_right _ e4, ⟨cur, e3, e6, fun i hi => ?_⟩, fun j hj => ?_⟩
    · show cur[i]? = some (cur[i]?.getD undef)
      rw [Array.getElem?_eq_getElem (by omega)]
      rfl
    · have h1 : (cur.toList.take (n * size))[j]? = (inVs f (n * size))[j]? := by rw [e7]
      rw [List.getElem?_take, if_pos hj, Array.getElem?_toList, inVs_get f hj] at h1
      show cur[j]?.getD undef = _
      rw [h1]; rfl
end Go.Proofs.YtokbhkcpkilcmaaDoor
