/-
  Mains that are right.
-/
import Derived.Test.YtnfdamkjkclnmaaMnMem
namespace Go.Proofs.Ytnfdamkjkclnmaa
theorem mwrap_id {x : Int} (h1 : -9223372036854775808 ≤ x) (h2 : x ≤ 9223372036854775807) : IntKind.i64.wrap x = x := by simp [IntKind.wrap, IntKind.bits, IntKind.signed]; omega
namespace Mn

def kind (m : Mains) (i : Nat) : Int := m.P (i * 5)
def fr (m : Mains) (i : Nat) : Int := m.P (i * 5 + 1)
def tt (m : Mains) (i : Nat) : Int := m.P (i * 5 + 2)
def drag (m : Mains) (i : Nat) : Int := m.P (i * 5 + 3)
def mark (m : Mains) (i : Nat) : Int := m.P (i * 5 + 4)
structure PipeOk (m : Mains) (i : Nat) : Prop where
  k1 : 1 ≤ m.P (i * 5)
  k2 : m.P (i * 5) ≤ 6
  ne : m.P (i * 5 + 1) ≠ m.P (i * 5 + 2)
  f0 : 0 ≤ m.P (i * 5 + 1)
  f1 : m.P (i * 5 + 1) < m.nodes
  t0 : 0 ≤ m.P (i * 5 + 2)
  t1 : m.P (i * 5 + 2) < m.nodes
  d0 : 0 ≤ m.P (i * 5 + 3)
  d1 : m.P (i * 5 + 3) ≤ 1000
  m0 : 0 ≤ m.P (i * 5 + 4)
  m1 : m.P (i * 5 + 4) ≤ 100000
/-- The pipe that a number of a loop names, and where it begins and ends, gone through so. -/
def place (z : Int) : Nat := z.natAbs - 1
def begins (m : Mains) (z : Int) : Int := if z < 0 then tt m (place z) else fr m (place z)
def ends (m : Mains) (z : Int) : Int := if z < 0 then fr m (place z) else tt m (place z)
def NumOk (m : Mains) (z : Int) : Prop := z ≠ 0 ∧ -(m.pn : Int) ≤ z ∧ z ≤ (m.pn : Int)
theorem NumOk.lt {m : Mains} {z : Int} (h : NumOk m z) : place z < m.pn := by
  obtain ⟨h1, h2, h3⟩ := h
  unfold place; omega
/-- The number ahead of one in a ring. -/
def prev (n k : Nat) : Nat := if k = 0 then n - 1 else k - 1
def nextN (n k : Nat) : Nat := (k + 1) % n
theorem prev_nextN {n k : Nat} (h : k < n) : prev n (nextN n k) = k := by
  unfold prev nextN
  by_cases e : k + 1 = n
  · subst e; simp
  · rw [Nat.mod_eq_of_lt (by omega)]; simp
theorem nextN_prev {n k : Nat} (h : k < n) : nextN n (prev n k) = k := by
  unfold prev nextN
  by_cases e : k = 0
  · subst e
    simp only [if_true]
    rw [Nat.sub_add_cancel (by omega)]; simp
  · simp only [e, if_false]
    rw [Nat.sub_add_cancel (by omega), Nat.mod_eq_of_lt h]
theorem nextN_lt {n k : Nat} (h : k < n) : nextN n k < n := Nat.mod_lt _ (by omega)
theorem prev_lt {n k : Nat} (h : k < n) : prev n k < n := by unfold prev; split <;> omega
structure LoopOk (m : Mains) (n : Nat) (f : Nat → Int) : Prop where
  n1 : 1 ≤ n
  n2 : n ≤ 40
  num : ∀ k, k < n → NumOk m (f k)
  one : ∀ k, k < n → ∀ j, j < k → place (f j) ≠ place (f k)
  ring : ∀ k, k < n → begins m (f k) = ends m (f (prev n k))
theorem ring_next {m : Mains} {n : Nat} {f : Nat → Int} : (∀ k, k < n → begins m (f k) = ends m (f (prev n k))) ↔ ∀ k, k < n → ends m (f k) = begins m (f (nextN n k)) := by
  constructor
  · intro h k hk
    have := h (nextN n k) (nextN_lt hk)
    rw [prev_nextN hk] at this
    exact this.symm
  · intro h k hk
    have := h (prev n k) (prev_lt hk)
    rw [nextN_prev hk] at this
    exact this.symm
structure Right (m : Mains) : Prop where
  n1 : 1 ≤ m.nodes
  n2 : m.nodes ≤ 12
  h1 : -100000 ≤ m.head
  h2 : m.head ≤ 100000
  pn : m.pn ≤ 40
  p : ∀ i, i < m.pn → PipeOk m i
  wn : (m.wn : Int) = m.nodes
  w : ∀ i, i < m.wn → 0 ≤ m.W i ∧ m.W i ≤ 1000
  ln : m.ln ≤ 12
  l : ∀ i, i < m.ln → LoopOk m (m.LN i) (m.L i)
/-- Which pipes the first numbers of a loop have used. -/
def usedTo (f : Nat → Int) (k : Nat) (p : Nat) : Bool := (List.range k).any (fun j => place (f j) == p)
theorem usedTo_iff (f : Nat → Int) (k p : Nat) : usedTo f k p = true ↔ ∃ j, j < k ∧ place (f j) = p := by
  simp [usedTo]
end Mn
end Go.Proofs.Ytnfdamkjkclnmaa
