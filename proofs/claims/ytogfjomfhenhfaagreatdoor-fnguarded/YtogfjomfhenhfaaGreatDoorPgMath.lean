/-
  Programs of blocks: names, words, right ones: mathematics.
-/
import Derived.Test.YtogfjomfhenhfaaGreatDoorPlMath
namespace Go.Proofs.YtogfjomfhenhfaaGreatDoor
open Go.RowKit Go.Deep

namespace Pg
/-- A block: its kind, its name, what it looks at. -/
structure Bk where
  kind : Int
  name : ByteArray
  a : Int
  b : Int
/-- A program: its blocks, its outs, its nevers (two numbers each). -/
structure Prog where
  bn : Nat
  B : Nat → Bk
  on : Nat
  O : Nat → Int
  nn : Nat
  N : Nat → Int
/-- A letter; a sign that may stand behind one. -/
def Let (c : UInt8) : Prop := 97 ≤ c.toNat ∧ c.toNat ≤ 122
def Beh (c : UInt8) : Prop := (48 ≤ c.toNat ∧ c.toNat ≤ 57) ∨ c.toNat = 45
/-- A name. -/
def NameOk (s : ByteArray) : Prop := 1 ≤ s.size ∧ s.size ≤ 20 ∧ ∀ i (h : i < s.size), Let (s[i]'h) ∨ (0 < i ∧ Beh (s[i]'h))
/-- The words of lines. -/
def wd : Nat → ByteArray
  | 1 => ⟨#[105, 110]⟩
  | 2 => ⟨#[97, 110, 100]⟩
  | 3 => ⟨#[111, 114]⟩
  | 4 => ⟨#[110, 111, 116]⟩
  | 5 => ⟨#[112, 114, 101, 118]⟩
  | 6 => ⟨#[108, 97, 116, 99, 104]⟩
  | 7 => ⟨#[100, 101, 108, 97, 121]⟩
  | 8 => ⟨#[111, 117, 116]⟩
  | 9 => ⟨#[110, 101, 118, 101, 114]⟩
  | _ => ⟨#[]⟩
def Word (s : ByteArray) : Prop := ∃ k, (1 ≤ k ∧ k ≤ 9) ∧ wd k = s
def Free (s : ByteArray) : Prop := NameOk s ∧ ¬ Word s
theorem wd_data (k : Nat) (h1 : 1 ≤ k) (h2 : k ≤ 9) : (wd k).data.toList = [[], [105, 110], [97, 110, 100], [111, 114], [110, 111, 116], [112, 114, 101, 118], [108, 97, 116, 99, 104], [100, 101, 108, 97, 121], [111, 117, 116], [110, 101, 118, 101, 114]].getD k [] := by
  have : k = 1 ∨ k = 2 ∨ k = 3 ∨ k = 4 ∨ k = 5 ∨ k = 6 ∨ k = 7 ∨ k = 8 ∨ k = 9 := by omega
  rcases this with rfl | rfl | rfl | rfl | rfl | rfl | rfl | rfl | rfl <;> rfl
theorem wd_inj {i j : Nat} (h1 : 1 ≤ i ∧ i ≤ 9) (h2 : 1 ≤ j ∧ j ≤ 9) (h : wd i = wd j) : i = j := by
  have e := congrArg (fun s : ByteArray => s.data.toList) h
  simp only [wd_data i h1.1 h1.2, wd_data j h2.1 h2.2] at e
  have a : i = 1 ∨ i = 2 ∨ i = 3 ∨ i = 4 ∨ i = 5 ∨ i = 6 ∨ i = 7 ∨ i = 8 ∨ i = 9 := by omega
  have b : j = 1 ∨ j = 2 ∨ j = 3 ∨ j = 4 ∨ j = 5 ∨ j = 6 ∨ j = 7 ∨ j = 8 ∨ j = 9 := by omega
  rcases a with rfl | rfl | rfl | rfl | rfl | rfl | rfl | rfl | rfl <;> rcases b with rfl | rfl | rfl | rfl | rfl | rfl | rfl | rfl | rfl <;> first | rfl | exact absurd e (by decide)
/-- The place of a word, or -1. -/
noncomputable def wordI (s : ByteArray) : Int := @dite Int (Word s) (Classical.propDecidable _) (fun h => (h.choose : Int)) (fun _ => -1)
theorem wordI_wd {k : Nat} (h : 1 ≤ k ∧ k ≤ 9) : wordI (wd k) = k := by
  have hw : Word (wd k) := ⟨k, h, rfl⟩
  unfold wordI
  rw [dif_pos hw]
  have := wd_inj hw.choose_spec.1 h hw.choose_spec.2
  omega
theorem wordI_no {s : ByteArray} (h : ¬ Word s) : wordI s = -1 := by
  unfold wordI
  rw [dif_neg h]
theorem wordI_lt {s : ByteArray} : wordI s < 0 ↔ ¬ Word s := by
  constructor
  · rintro h ⟨k, hk, rfl⟩
    rw [wordI_wd hk] at h; omega
  · intro h; rw [wordI_no h]; omega
/-- What A and B of a block may be, at this place of so many. -/
def Ahead (z : Int) (i : Nat) : Prop := 0 ≤ z ∧ z < i
def PartsOk (b : Bk) (i n : Nat) : Prop :=
  (b.kind = 1 ∧ b.a = 0 ∧ b.b = 0) ∨ ((b.kind = 2 ∨ b.kind = 3 ∨ b.kind = 6) ∧ Ahead b.a i ∧ Ahead b.b i) ∨ (b.kind = 4 ∧ Ahead b.a i ∧ b.b = 0) ∨ (b.kind = 5 ∧ Ahead b.a n ∧ b.b = 0) ∨ (b.kind = 7 ∧ Ahead b.a i ∧ 1 ≤ b.b ∧ b.b ≤ 100)
/-- No block ahead has this name. -/
def New (B : Nat → Bk) (i : Nat) (s : ByteArray) : Prop := ∀ k, k < i → (B k).name ≠ s
def BlockOk (p : Prog) (i : Nat) : Prop := Free (p.B i).name ∧ New p.B i (p.B i).name ∧ PartsOk (p.B i) i p.bn
/-- A never that may stand at this place. -/
def NevOk (p : Prog) (i : Nat) : Prop := Pl.Has p.on p.O (p.N (i * 2)) ∧ Pl.Has p.on p.O (p.N (i * 2 + 1)) ∧ p.N (i * 2) < p.N (i * 2 + 1) ∧ (0 < i → p.N ((i - 1) * 2) < p.N (i * 2) ∨ (p.N ((i - 1) * 2) = p.N (i * 2) ∧ p.N ((i - 1) * 2 + 1) < p.N (i * 2 + 1)))
structure Right (p : Prog) : Prop where
  n : p.bn ≤ 100
  b : ∀ i, i < p.bn → BlockOk p i
  o : Pl.Rising p.on p.O p.bn
  m : p.nn ≤ 100
  v : ∀ i, i < p.nn → NevOk p i
theorem Right.on {p : Prog} (h : Right p) : p.on ≤ 100 := Nat.le_trans h.o.le h.n
/-- The kind of a block of a right program. -/
theorem PartsOk.kind {b : Bk} {i n : Nat} (h : PartsOk b i n) : 1 ≤ b.kind ∧ b.kind ≤ 7 := by
  rcases h with ⟨h, _⟩ | ⟨h | h | h, _⟩ | ⟨h, _⟩ | ⟨h, _⟩ | ⟨h, _⟩ <;> omega
end Pg
end Go.Proofs.YtogfjomfhenhfaaGreatDoor
