/-
  Plans: right ones, right sets of rows, wet places: mathematics.
-/
import Derived.Test.YtogfjomfhenhfaaGreatDoorPlMem
namespace Go.Proofs.YtogfjomfhenhfaaGreatDoor
open Go.RowKit Go.Deep

/-- A statement as a Bool. -/
noncomputable def dB (P : Prop) : Bool := @decide P (Classical.propDecidable P)
theorem dB_tt {P : Prop} (h : P) : dB P = true := by unfold dB; simp [h]
theorem dB_ff {P : Prop} (h : ¬ P) : dB P = false := by unfold dB; simp [h]
theorem dB_iff {P : Prop} : dB P = true ↔ P := by unfold dB; simp
theorem dB_congr {P Q : Prop} (h : P ↔ Q) : dB P = dB Q := by
  by_cases p : P
  · rw [dB_tt p, dB_tt (h.1 p)]
  · rw [dB_ff p, dB_ff (fun q => p (h.2 q))]

namespace Pl
/-- Numbers that rise, from 0 on, below a top. -/
def Rising (n : Nat) (f : Nat → Int) (top : Nat) : Prop := ∀ i, i < n → (0 ≤ f i ∧ f i < top) ∧ (0 < i → f (i - 1) < f i)
def RowOk (p : Plan) (i : Nat) : Prop := (0 ≤ p.R (i * 3) ∧ p.R (i * 3) < p.hn) ∧ (0 ≤ p.R (i * 3 + 1) ∧ p.R (i * 3 + 1) < p.hn) ∧ p.R (i * 3) ≠ p.R (i * 3 + 1) ∧ (0 ≤ p.R (i * 3 + 2) ∧ p.R (i * 3 + 2) ≤ 2)
def FlowsOk (n : Nat) (f : Nat → Int) : Prop := ∀ i, i < n → 0 ≤ f i ∧ f i ≤ 1000000
structure Right (p : Plan) : Prop where
  h1 : 1 ≤ p.hn
  h2 : p.hn ≤ 40
  hs : FlowsOk p.hn p.H
  r : p.rn ≤ 100
  s : Rising p.sn p.S p.hn
  rows : ∀ i, i < p.rn → RowOk p i
theorem Rising.le {n : Nat} {f : Nat → Int} {top : Nat} (h : Rising n f top) : n ≤ top := by
  have key : ∀ i, i < n → (i : Int) ≤ f i := by
    intro i
    induction i with
    | zero => intro hi; have := (h 0 hi).1; omega
    | succ i ih =>
      intro hi
      have h1 := ih (by omega)
      have h2 := (h (i + 1) hi).2 (by omega)
      simp at h2
      omega
  by_cases h0 : n = 0
  · omega
  · have h1 := key (n - 1) (by omega)
    have h2 := (h (n - 1) (by omega)).1
    omega
theorem Right.sn40 {p : Plan} (h : Right p) : p.sn ≤ 40 := Nat.le_trans h.s.le h.h2
/-- A right set of rows. -/
structure SetOk (p : Plan) (n : Nat) (f : Nat → Int) : Prop where
  rise : Rising n f p.rn
  good : ∀ i, i < n → p.R ((f i).toNat * 3 + 2) = 1
/-- In the set. -/
def Has (n : Nat) (f : Nat → Int) (x : Int) : Prop := ∃ i, i < n ∧ f i = x
/-- The ends of a row. -/
def Plan.from_ (p : Plan) (i : Nat) : Nat := (p.R (i * 3)).toNat
def Plan.to_ (p : Plan) (i : Nat) : Nat := (p.R (i * 3 + 1)).toNat
theorem Right.from_lt {p : Plan} (h : Right p) {i : Nat} (hi : i < p.rn) : p.from_ i < p.hn := by have := (h.rows i hi).1; unfold Plan.from_; omega
theorem Right.to_lt {p : Plan} (h : Right p) {i : Nat} (hi : i < p.rn) : p.to_ i < p.hn := by have := (h.rows i hi).2.1; unfold Plan.to_; omega
theorem Right.from_eq {p : Plan} (h : Right p) {i : Nat} (hi : i < p.rn) : p.R (i * 3) = (p.from_ i : Int) := by have := (h.rows i hi).1; unfold Plan.from_; omega
theorem Right.to_eq {p : Plan} (h : Right p) {i : Nat} (hi : i < p.rn) : p.R (i * 3 + 1) = (p.to_ i : Int) := by have := (h.rows i hi).2.1; unfold Plan.to_; omega
theorem Right.ne {p : Plan} (h : Right p) {i : Nat} (hi : i < p.rn) : p.from_ i ≠ p.to_ i := by
  have h1 := (h.rows i hi).2.2.1
  rw [h.from_eq hi, h.to_eq hi] at h1
  omega
/-- A place that water comes to, over the rows of which sh does not hold. -/
inductive Wet (p : Plan) (sh : Nat → Prop) : Nat → Prop
  | src (i : Nat) (h : i < p.sn) : Wet p sh (p.S i).toNat
  | fwd (i : Nat) (h : i < p.rn) (hs : ¬ sh i) : Wet p sh (p.from_ i) → Wet p sh (p.to_ i)
  | bwd (i : Nat) (h : i < p.rn) (hs : ¬ sh i) : Wet p sh (p.to_ i) → Wet p sh (p.from_ i)
theorem Wet.mono {p : Plan} {sh sh' : Nat → Prop} (h : ∀ i, sh' i → sh i) {v : Nat} (k : Wet p sh v) : Wet p sh' v := by
  induction k with
  | src i h => exact .src i h
  | fwd i hi hs _ ih => exact .fwd i hi (fun x => hs (h _ x)) ih
  | bwd i hi hs _ ih => exact .bwd i hi (fun x => hs (h _ x)) ih
theorem Wet.sub {p : Plan} {sh : Nat → Prop} {A : Nat → Prop} (h1 : ∀ i, i < p.sn → A (p.S i).toNat) (h2 : ∀ i, i < p.rn → ¬ sh i → (A (p.from_ i) ↔ A (p.to_ i))) {v : Nat} (k : Wet p sh v) : A v := by
  induction k with
  | src i h => exact h1 i h
  | fwd i hi hs _ ih => exact (h2 i hi hs).1 ih
  | bwd i hi hs _ ih => exact (h2 i hi hs).2 ih
/-- The rows of a set. -/
def In (n : Nat) (f : Nat → Int) (i : Nat) : Prop := Has n f (i : Int)
/-- The rows with good valves. -/
def Good (p : Plan) (i : Nat) : Prop := i < p.rn ∧ p.R (i * 3 + 2) = 1
end Pl
end Go.Proofs.YtogfjomfhenhfaaGreatDoor
