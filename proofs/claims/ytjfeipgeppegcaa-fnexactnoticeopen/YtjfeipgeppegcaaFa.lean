/-
  Facts of a range of blocks, which last while other ranges change.
-/
import Derived.Test.YtjfeipgeppegcaaNtMem
namespace Go.Proofs.Ytjfeipgeppegcaa
open Go.RowKit Go.Deep

/-- It hangs on the blocks of a range alone. -/
def Stab (lo hi : Nat) (P : World → Prop) : Prop := ∀ W W', P W → (∀ k, lo ≤ k → k < hi → k < W.heap.size → W'.heap[k]? = W.heap[k]?) → P W'
structure Fact (lo hi : Nat) (P : World → Prop) (W : World) : Prop where
  p : P W
  st : Stab lo hi P
  le : lo ≤ hi ∧ hi ≤ W.heap.size
theorem Fact.below {lo hi : Nat} {P : World → Prop} {W W' : World} (h : Fact lo hi P W) (hb : Below W.heap.size W W') : Fact lo hi P W' := ⟨h.st _ _ h.p (fun k _ _ hk => hb.block k hk), h.st, h.le.1, Nat.le_trans h.le.2 hb.size⟩
/-- What changed lies within a range (or is new). -/
structure Rng (lo hi : Nat) (W W' : World) : Prop where
  os : W'.os = W.os
  tape : W'.tape = W.tape
  output : W'.output = W.output
  size : W.heap.size ≤ W'.heap.size
  block : ∀ k, k < W.heap.size → ¬ (lo ≤ k ∧ k < hi) → W'.heap[k]? = W.heap[k]?
theorem Fact.out {lo hi a b : Nat} {P : World → Prop} {W W' : World} (h : Fact lo hi P W) (r : Rng a b W W') (hd : hi ≤ a ∨ b ≤ lo) : Fact lo hi P W' :=
  ⟨h.st _ _ h.p (fun k h1 h2 hk => r.block k hk (fun q => by omega)), h.st, h.le.1, Nat.le_trans h.le.2 r.size⟩
theorem Rng.old {B a b : Nat} {w W W' : World} (r : Rng a b W W') (h : Below B w W) (hB : B ≤ a) (hw : B ≤ W.heap.size) : Below B w W' :=
  h.trans ⟨r.os, r.tape, r.output, r.size, fun k hk => r.block k (Nat.lt_of_lt_of_le hk hw) (fun q => by omega)⟩
theorem Rng.of_only {g lo hi : Nat} {W W' : World} (h : Only g W W') (hg : lo ≤ g ∧ g < hi) : Rng lo hi W W' := ⟨h.os, h.tape, h.output, h.size, fun k hk hn => h.block k hk (fun e => hn (by omega))⟩
/-- A row is such a fact. -/
theorem stab_row {lo hi s n : Nat} {T : TypeId} {F : Nat → Value} (h : lo ≤ s ∧ s < hi) : Stab lo hi (fun V => V.rowIs s T n F) := fun _ _ a hk => a.of_block (hk _ h.1 h.2 a.lt)
theorem fact_row {W : World} {lo s n : Nat} {T : TypeId} {F : Nat → Value} (h : W.rowIs s T n F) (hl : lo ≤ s) : Fact lo W.heap.size (fun V => V.rowIs s T n F) W := ⟨h, stab_row ⟨hl, h.lt⟩, Nat.le_trans hl (Nat.le_of_lt h.lt), Nat.le_refl _⟩
theorem Stab.and {lo hi : Nat} {P Q : World → Prop} (h : Stab lo hi P) (k : Stab lo hi Q) : Stab lo hi (fun V => P V ∧ Q V) := fun W W' a hk => ⟨h W W' a.1 hk, k W W' a.2 hk⟩
theorem stab_blk {lo hi g n : Nat} {T : TypeId} {f : Nat → Int} (h : lo ≤ g ∧ g < hi) : Stab lo hi (fun V => IsBlk T g n f V) := fun _ _ a hk => a.block (hk _ h.1 h.2 a.lt)
theorem fact_blk {W : World} {lo g n : Nat} {T : TypeId} {f : Nat → Int} (h : IsBlk T g n f W) (hl : lo ≤ g) : Fact lo W.heap.size (fun V => IsBlk T g n f V) W := ⟨h, stab_blk ⟨hl, h.lt⟩, Nat.le_trans hl (Nat.le_of_lt h.lt), Nat.le_refl _⟩
theorem Fact.with {lo hi : Nat} {P Q : World → Prop} {W : World} (h : Fact lo hi P W) (k : Fact lo hi Q W) : Fact lo hi (fun V => P V ∧ Q V) W := ⟨⟨h.p, k.p⟩, h.st.and k.st, h.le⟩
/-- Counted marks are no negative number. -/
theorem mark_pos (M : Nat) : ¬ (M : Int) < 0 := by omega
end Go.Proofs.Ytjfeipgeppegcaa
