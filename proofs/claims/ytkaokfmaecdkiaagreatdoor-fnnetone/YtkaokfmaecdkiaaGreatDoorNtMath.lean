/-
  Nets that are right, and which of their nodes are held.
-/
import Derived.Test.YtkaokfmaecdkiaaGreatDoorNtMem
namespace Go.Proofs.YtkaokfmaecdkiaaGreatDoor
namespace Nt

def linkOk (n : Net) (i : Nat) : Prop := (0 ≤ n.L (i * 3) ∧ n.L (i * 3) < n.nodes) ∧ (0 ≤ n.L (i * 3 + 1) ∧ n.L (i * 3 + 1) < n.nodes) ∧ n.L (i * 3) ≠ n.L (i * 3 + 1) ∧ 1 ≤ n.L (i * 3 + 2) ∧ n.L (i * 3 + 2) ≤ 1000
def fixOk (n : Net) (i : Nat) : Prop := (0 ≤ n.F (i * 2) ∧ n.F (i * 2) < n.nodes) ∧ (-100000 ≤ n.F (i * 2 + 1) ∧ n.F (i * 2 + 1) ≤ 100000) ∧ (0 < i → n.F ((i - 1) * 2) < n.F (i * 2))
def wantOk (n : Net) (i : Nat) : Prop := -1000000 ≤ n.W i ∧ n.W i ≤ 1000000
structure Right (n : Net) : Prop where
  n1 : 1 ≤ n.nodes
  n2 : n.nodes ≤ 12
  ln : n.ln ≤ 40
  wn : (n.wn : Int) = n.nodes
  l : ∀ i, i < n.ln → linkOk n i
  f : ∀ i, i < n.fn → fixOk n i
  w : ∀ i, i < n.wn → wantOk n i
theorem fix_up (n : Net) (h : ∀ i, i < n.fn → fixOk n i) : ∀ i, i < n.fn → (i : Int) ≤ n.F (i * 2) := by
  intro i
  induction i with
  | zero => intro hi; exact (h 0 hi).1.1
  | succ k ih =>
    intro hi
    have h1 := ih (by omega)
    have h2 := (h (k + 1) hi).2.2 (by omega)
    simp only [Nat.add_sub_cancel] at h2
    have : ((k + 1 : Nat) : Int) = (k : Int) + 1 := by omega
    omega
theorem fn_le (n : Net) (h : ∀ i, i < n.fn → fixOk n i) (h0 : 0 ≤ n.nodes) : (n.fn : Int) ≤ n.nodes := by
  by_cases e : n.fn = 0
  · omega
  · have h1 := fix_up n h (n.fn - 1) (by omega)
    have h2 := (h (n.fn - 1) (by omega)).1.2
    omega
theorem Right.fn {n : Net} (h : Right n) : n.fn ≤ 12 := by
  have := fn_le n h.f (by have := h.n1; omega)
  have := h.n2
  omega
/-- What stands ahead of a fixed head. -/
def ahead (n : Net) (i : Nat) : Int := if i = 0 then -1 else n.F ((i - 1) * 2)
theorem ahead_succ (n : Net) (i : Nat) : ahead n (i + 1) = n.F (i * 2) := by simp [ahead]
theorem fix_ahead (n : Net) (i : Nat) (hp : ∀ j, j < i → fixOk n j) : fixOk n i ↔ (ahead n i < n.F (i * 2) ∧ n.F (i * 2) < n.nodes ∧ (-100000 ≤ n.F (i * 2 + 1) ∧ n.F (i * 2 + 1) ≤ 100000)) := by
  unfold fixOk ahead
  by_cases e : i = 0
  · subst e; simp; omega
  · have h1 := (hp (i - 1) (by omega)).1.1
    simp only [e, if_false]
    constructor
    · rintro ⟨⟨a, b⟩, c, d⟩; exact ⟨d (by omega), b, c⟩
    · rintro ⟨a, b, c⟩; exact ⟨⟨by omega, b⟩, c, fun _ => a⟩

/-- The ends of a link, a fixed node. -/
def fr (n : Net) (i : Nat) : Nat := (n.L (i * 3)).toNat
def tt (n : Net) (i : Nat) : Nat := (n.L (i * 3 + 1)).toNat
def fx (n : Net) (i : Nat) : Nat := (n.F (i * 2)).toNat
def nn (n : Net) : Nat := n.nodes.toNat
theorem Right.fr {n : Net} (h : Right n) {i : Nat} (hi : i < n.ln) : n.L (i * 3) = (fr n i : Nat) ∧ fr n i < nn n := by
  have := (h.l i hi).1
  unfold Nt.fr nn; omega
theorem Right.tt {n : Net} (h : Right n) {i : Nat} (hi : i < n.ln) : n.L (i * 3 + 1) = (tt n i : Nat) ∧ tt n i < nn n := by
  have := (h.l i hi).2.1
  unfold Nt.tt nn; omega
theorem Right.fx {n : Net} (h : Right n) {i : Nat} (hi : i < n.fn) : n.F (i * 2) = (fx n i : Nat) ∧ fx n i < nn n := by
  have := (h.f i hi).1
  unfold Nt.fx nn; omega
theorem Right.nn {n : Net} (h : Right n) : n.nodes = (nn n : Nat) ∧ 1 ≤ nn n ∧ nn n ≤ 12 := by
  have := h.n1; have := h.n2
  unfold Nt.nn; omega
theorem Right.frtt {n : Net} (h : Right n) {i : Nat} (hi : i < n.ln) : Nt.fr n i ≠ Nt.tt n i := by
  have h1 := h.fr hi; have h2 := h.tt hi; have h3 := (h.l i hi).2.2.1
  omega

/-- Which nodes are held. -/
def updB (h : Nat → Bool) (a : Nat) (x : Bool) : Nat → Bool := fun j => if j = a then x else h j
def stepH (h : Nat → Bool) (a b : Nat) : Nat → Bool := updB (updB h a (h a || h b)) b (h a || h b)
theorem stepH_true {h : Nat → Bool} {a b : Nat} (e : (h a || h b) = true) : updB (updB h a true) b true = stepH h a b := by unfold stepH; rw [e]
theorem stepH_false {h : Nat → Bool} {a b : Nat} (e : (h a || h b) = false) : h = stepH h a b := by
  funext j
  unfold stepH updB
  rw [e]
  simp at e
  by_cases e1 : j = b
  · subst e1; simp [e.2]
  · by_cases e2 : j = a
    · subst e2; simp [e1, e.1]
    · simp [e1, e2]
def passH (n : Net) (h : Nat → Bool) : Nat → Nat → Bool
  | 0 => h
  | i + 1 => stepH (passH n h i) (fr n i) (tt n i)
def roundsH (n : Net) (h : Nat → Bool) : Nat → Nat → Bool
  | 0 => h
  | k + 1 => passH n (roundsH n h k) n.ln
def startH (n : Net) : Nat → Nat → Bool
  | 0 => fun _ => false
  | i + 1 => updB (startH n i) (fx n i) true
def held (n : Net) : Nat → Bool := roundsH n (startH n n.fn) (nn n)
def looseTo (n : Net) : Nat → List Int
  | 0 => []
  | k + 1 => looseTo n k ++ (if held n k then [] else [(k : Int)])
def loose (n : Net) : List Int := looseTo n (nn n)
theorem looseTo_len (n : Net) : ∀ k, (looseTo n k).length ≤ k
  | 0 => Nat.le_refl _
  | k + 1 => by
    have := looseTo_len n k
    simp only [looseTo, List.length_append]
    split <;> simp <;> omega
theorem looseTo_yes {n : Net} {k : Nat} (h : held n k = true) : looseTo n (k + 1) = looseTo n k := by simp [looseTo, h]
theorem looseTo_no {n : Net} {k : Nat} (h : held n k = false) : looseTo n (k + 1) = looseTo n k ++ [(k : Int)] := by simp [looseTo, h]
end Nt
end Go.Proofs.YtkaokfmaecdkiaaGreatDoor
