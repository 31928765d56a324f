/-
  An answer that is a list of lists of numbers: its own memory; the laws' comparison and marks of it.
-/
import Derived.Test.YtbkpedcabbppbaaDoorRnEx
import Derived.Test.YtbkpedcabbppbaaDoorMnMem
namespace Go.Proofs.YtbkpedcabbppbaaDoor
open Go.RowKit Go.Deep

/-- Blocks of a range alone may have changed. -/
structure OnlyR (lo hi : Nat) (w w' : World) : Prop where
  os : w'.os = w.os
  tape : w'.tape = w.tape
  output : w'.output = w.output
  size : w.heap.size ≤ w'.heap.size
  block : ∀ k, k < w.heap.size → ¬ (lo ≤ k ∧ k < hi) → w'.heap[k]? = w.heap[k]?
theorem OnlyR.refl (lo hi : Nat) (w : World) : OnlyR lo hi w w := ⟨rfl, rfl, rfl, Nat.le_refl _, fun _ _ _ => rfl⟩
theorem OnlyR.only {lo hi g : Nat} {w w' w2 : World} (h : OnlyR lo hi w w') (h2 : Only g w' w2) (hg : lo ≤ g ∧ g < hi) : OnlyR lo hi w w2 :=
  ⟨h2.os.trans h.os, h2.tape.trans h.tape, h2.output.trans h.output, Nat.le_trans h.size h2.size, fun k hk hn => (h2.block k (Nat.lt_of_lt_of_le hk h.size) (fun e => hn (by omega))).trans (h.block k hk hn)⟩
theorem OnlyR.below {B lo hi : Nat} {w w' : World} (h : OnlyR lo hi w w') (h1 : B ≤ lo) (h2 : B ≤ w.heap.size) : Below B w w' := ⟨h.os, h.tape, h.output, h.size, fun k hk => h.block k (by omega) (by omega)⟩
theorem isBlk_type {T : TypeId} {g N : Nat} {f : Nat → Int} {W : World} (h : IsBlk T g N f W) : ∃ cur, W.heap[g]? = some (.cells cur T (0, 0)) := by
  obtain ⟨m, F, _, ⟨cur, h1, _⟩, _⟩ := h
  exact ⟨cur, h1⟩
theorem typ_ne {g k : Nat} {t t' : TypeId} {W : World} (h1 : ∃ cur, W.heap[g]? = some (.cells cur t (0, 0))) (h2 : ∃ cur, W.heap[k]? = some (.cells cur t' (0, 0))) (hne : t ≠ t') : g ≠ k := by
  rintro rfl
  obtain ⟨c1, h1⟩ := h1
  obtain ⟨c2, h2⟩ := h2
  rw [h1] at h2
  injection h2 with h2
  injection h2 with _ h2
  exact hne h2
/-- One row of its own. -/
def RwO (B hi N : Nat) (a : Option Addr) (c : Nat) (f : Nat → Int) (W : World) : Prop := (a = none ∧ N = 0 ∧ c = 0) ∨ ∃ b, a = some ⟨b, 0, none⟩ ∧ (B ≤ b ∧ b < hi) ∧ IsBlk 2 b N f W
theorem RwO.same {B hi N c : Nat} {a : Option Addr} {f : Nat → Int} {W W' : World} (h : RwO B hi N a c f W) (hb : ∀ q, B ≤ q → q < hi → q < W.heap.size → W'.heap[q]? = W.heap[q]?) : RwO B hi N a c f W' := by
  rcases h with h | ⟨b, e, h1, h2⟩
  · exact Or.inl h
  · exact Or.inr ⟨b, e, h1, h2.block (hb b h1.1 h1.2 h2.lt)⟩
theorem RwO.at_ {B hi N c : Nat} {a : Option Addr} {f : Nat → Int} {W : World} (h : RwO B hi N a c f W) : IsAt a N f W := by
  rcases h with h | ⟨b, e, h1, h2⟩
  · exact Or.inl h.2.1
  · rw [e]; exact h2.at_
/-- A list of lists of its own. -/
def SsO (B hi n : Nat) (a : Option Addr) (k : Nat) (LN : Nat → Nat) (L : Nat → Nat → Int) (W : World) : Prop :=
  (a = none ∧ n = 0 ∧ k = 0) ∨ ∃ (g : Nat) (aj : Nat → Option Addr) (cj : Nat → Nat), a = some ⟨g, 0, none⟩ ∧ (B ≤ g ∧ g < hi) ∧ (∃ M F, n ≤ M ∧ W.rowIs g 24 M F ∧ ∀ j, j < n → F j = .slice (aj j) (LN j) (cj j)) ∧ (∀ j, j < n → RwO B hi (LN j) (aj j) (cj j) (L j) W) ∧ ∀ i j b, i < n → j < n → aj i = some b → aj j = some b → i = j
theorem SsO.same {B hi n k : Nat} {a : Option Addr} {LN : Nat → Nat} {L : Nat → Nat → Int} {W W' : World} (h : SsO B hi n a k LN L W) (hb : ∀ q, B ≤ q → q < hi → q < W.heap.size → W'.heap[q]? = W.heap[q]?) : SsO B hi n a k LN L W' := by
  rcases h with h | ⟨g, aj, cj, e, h1, ⟨M, F, f1, f2, f3⟩, h3, h4⟩
  · exact Or.inl h
  · exact Or.inr ⟨g, aj, cj, e, h1, ⟨M, F, f1, f2.of_block (hb g h1.1 h1.2 f2.lt), f3⟩, fun j hj => (h3 j hj).same hb, h4⟩
theorem SsO.below {B hi n k : Nat} {a : Option Addr} {LN : Nat → Nat} {L : Nat → Nat → Int} {W W' : World} (h : SsO B hi n a k LN L W) (hb : Below W.heap.size W W') : SsO B hi n a k LN L W' := h.same (fun q _ _ hl => hb.block q hl)
theorem SsO.at_ {B hi n k : Nat} {a : Option Addr} {LN : Nat → Nat} {L : Nat → Nat → Int} {W : World} (h : SsO B hi n a k LN L W) : LsAt a n LN L W := by
  rcases h with h | ⟨g, aj, cj, e, h1, ⟨M, F, f1, f2, f3⟩, h3, h4⟩
  · exact Or.inl h.2.1
  · exact Or.inr ⟨g, e, fun i hi => ⟨_, _, (f2.cell (by omega)).trans (by rw [f3 i hi]), (h3 i hi).at_⟩⟩
/-- Marks of such a list. -/
def mkS (LN : Nat → Nat) (j c : Nat) : Int := ((1 + Mn.tot LN j + c : Nat) : Int)
end Go.Proofs.YtbkpedcabbppbaaDoor
