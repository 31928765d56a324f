/-
  Homes as they lie in memory: a name and an area.
-/
import Derived.Test.YtjfeipgeppegcaaPgMem
namespace Go.Proofs.Ytjfeipgeppegcaa
open Go.RowKit Go.Deep

namespace No
/-- A home. -/
structure Ho where
  name : ByteArray
  area : Int
def HoOk (h : Ho) : Prop := Pg.NameOk h.name ∧ 0 ≤ h.area ∧ h.area ≤ 99
/-- Homes that are right. -/
def Right (n : Nat) (H : Nat → Ho) : Prop := n ≤ 60 ∧ ∀ i, i < n → HoOk (H i) ∧ ∀ k, k < i → (H i).name ≠ (H k).name
/-- A home lives in the area. -/
def Lived (n : Nat) (H : Nat → Ho) (a : Nat) : Prop := ∃ i, i < n ∧ (H i).area = (a : Int)
end No
/-- The value of a home. -/
abbrev hoV (x : No.Ho) : Value := .agg #[.string x.name, .int .i64 x.area]
/-- The cells of homes, one by one. -/
def hoF (B : Nat → No.Ho) (j : Nat) : Value := match j % 2 with
  | 0 => .string (B (j / 2)).name
  | _ => .int .i64 (B (j / 2)).area
theorem hoF0 (B : Nat → No.Ho) (i : Nat) : hoF B (i * 2) = .string (B i).name := by
  have h1 : (i * 2) % 2 = 0 := by omega
  have h2 : (i * 2) / 2 = i := by omega
  simp [hoF, h2]
theorem hoF1 (B : Nat → No.Ho) (i : Nat) : hoF B (i * 2 + 1) = .int .i64 (B i).area := by
  have h1 : (i * 2 + 1) % 2 = 1 := by omega
  have h2 : (i * 2 + 1) / 2 = i := by omega
  simp [hoF, h1, h2]
/-- The cells of one home. -/
def HoC (b o : Nat) (x : No.Ho) (w : World) : Prop := w.cell? ⟨b, o, none⟩ = some (.string x.name) ∧ w.cell? ⟨b, o + 1, none⟩ = some (.int .i64 x.area)
theorem HoC.lt {b o : Nat} {x : No.Ho} {w : World} (h : HoC b o x w) : b < w.heap.size := World.block_lt_of_cell? _ _ h.1
theorem HoC.block {b o : Nat} {x : No.Ho} {w w' : World} (h : HoC b o x w) (hb : w'.heap[b]? = w.heap[b]?) : HoC b o x w' :=
  ⟨(World.cell?_of_block (a := ⟨b, o, none⟩) hb).trans h.1, (World.cell?_of_block (a := ⟨b, o + 1, none⟩) hb).trans h.2⟩
theorem HoC.below {b o : Nat} {x : No.Ho} {w w' : World} (h : HoC b o x w) (hb : Below w.heap.size w w') : HoC b o x w' := h.block (hb.block _ h.lt)
/-- A list of homes, from the beginning of a block of memory on; anywhere. -/
def HosAt (a : Option Addr) (n : Nat) (B : Nat → No.Ho) (w : World) : Prop := n = 0 ∨ ∃ b, a = some ⟨b, 0, none⟩ ∧ ∀ i, i < n → HoC b (i * 2) (B i) w
def HosIn (a : Option Addr) (n : Nat) (B : Nat → No.Ho) (w : World) : Prop := n = 0 ∨ ∃ b o, a = some ⟨b, o, none⟩ ∧ ∀ i, i < n → HoC b (o + i * 2) (B i) w
theorem HosAt.same {a : Option Addr} {n : Nat} {B : Nat → No.Ho} {w w' : World} (h : HosAt a n B w) (hb : ∀ b, a = some ⟨b, 0, none⟩ → b < w.heap.size → w'.heap[b]? = w.heap[b]?) : HosAt a n B w' := by
  rcases h with h | ⟨b, e, h⟩
  · exact Or.inl h
  · exact Or.inr ⟨b, e, fun i hi => (h i hi).block (hb b e (h i hi).lt)⟩
theorem HosAt.below {a : Option Addr} {n : Nat} {B : Nat → No.Ho} {w w' : World} (h : HosAt a n B w) (hb : Below w.heap.size w w') : HosAt a n B w' := h.same (fun b _ hl => hb.block b hl)
theorem HosAt.less {a : Option Addr} {n m : Nat} {B : Nat → No.Ho} {w : World} (h : HosAt a n B w) (hm : m ≤ n) : HosAt a m B w := by
  rcases h with h | ⟨b, e, h⟩
  · exact Or.inl (by omega)
  · exact Or.inr ⟨b, e, fun i hi => h i (by omega)⟩
theorem HosIn.below {a : Option Addr} {n : Nat} {B : Nat → No.Ho} {w w' : World} (h : HosIn a n B w) (hb : Below w.heap.size w w') : HosIn a n B w' := by
  rcases h with h | ⟨b, o, e, h⟩
  · exact Or.inl h
  · exact Or.inr ⟨b, o, e, fun i hi => (h i hi).below hb⟩
theorem HosAt.at_ {a : Option Addr} {n : Nat} {B : Nat → No.Ho} {w : World} (h : HosAt a n B w) {i : Nat} (hi : i < n) : ∃ b, a = some ⟨b, 0, none⟩ ∧ HoC b (i * 2) (B i) w := by
  rcases h with h | ⟨b, e, h⟩
  · omega
  · exact ⟨b, e, h i hi⟩
theorem HosAt.all {a : Option Addr} {n : Nat} {B : Nat → No.Ho} {w : World} (h : HosAt a n B w) (hn : 0 < n) : ∃ b, a = some ⟨b, 0, none⟩ ∧ ∀ i, i < n → HoC b (i * 2) (B i) w := by
  rcases h with h | h
  · omega
  · exact h
theorem HosIn.at_ {a : Option Addr} {n : Nat} {B : Nat → No.Ho} {w : World} (h : HosIn a n B w) {i : Nat} (hi : i < n) : ∃ b o, a = some ⟨b, o, none⟩ ∧ HoC b (o + i * 2) (B i) w := by
  rcases h with h | ⟨b, o, e, h⟩
  · omega
  · exact ⟨b, o, e, h i hi⟩
theorem VsBlk.ho {T : TypeId} {g n : Nat} {B : Nat → No.Ho} {w : World} (h : VsBlk T g (n * 2) (hoF B) w) {i : Nat} (hi : i < n) : HoC g (i * 2) (B i) w := by
  have c0 := h.cell (i := i * 2) (by omega)
  have c1 := h.cell (i := i * 2 + 1) (by omega)
  rw [hoF0] at c0
  rw [hoF1] at c1
  exact ⟨c0, c1⟩
theorem VsBlk.hos {T : TypeId} {g n : Nat} {B : Nat → No.Ho} {w : World} (h : VsBlk T g (n * 2) (hoF B) w) : HosAt (some ⟨g, 0, none⟩) n B w := Or.inr ⟨g, rfl, fun _ hi => h.ho hi⟩
/-- No name is longer than asked. -/
def HoNames (m n : Nat) (B : Nat → No.Ho) : Prop := ∀ i, i < n → (B i).name.size ≤ m
end Go.Proofs.Ytjfeipgeppegcaa
