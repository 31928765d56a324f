/-
  Stations of links: what they note and what they have been heard of (no program in this text).
-/
import Derived.Test.YtogfjomfhenhfaaGreatDoorMath
namespace Go.Proofs.YtogfjomfhenhfaaGreatDoor
namespace Ln
/-- A note: its number and its value. -/
abbrev Nt := Int × Int
/-- Notes, number by number. -/
def fl (l : List Nt) (j : Nat) : Int := if j % 2 = 0 then (l.getD (j / 2) (0, 0)).1 else (l.getD (j / 2) (0, 0)).2
theorem fl_even (l : List Nt) (i : Nat) : fl l (i * 2) = (l.getD i (0, 0)).1 := by
  unfold fl; rw [if_pos (by omega), show i * 2 / 2 = i by omega]
theorem fl_odd (l : List Nt) (i : Nat) : fl l (i * 2 + 1) = (l.getD i (0, 0)).2 := by
  unfold fl; rw [if_neg (by omega), show (i * 2 + 1) / 2 = i by omega]
theorem fl_app (l m : List Nt) (j : Nat) (h : j < l.length * 2) : fl (l ++ m) j = fl l j := by
  have e : (l ++ m).getD (j / 2) (0, 0) = l.getD (j / 2) (0, 0) := by
    rw [List.getD_eq_getElem?_getD, List.getD_eq_getElem?_getD, List.getElem?_append_left (by omega)]
  unfold fl; rw [e]
theorem fl_app2 (l m : List Nt) (j : Nat) : fl (l ++ m) (l.length * 2 + j) = fl m j := by
  have e : (l ++ m).getD ((l.length * 2 + j) / 2) (0, 0) = m.getD (j / 2) (0, 0) := by
    rw [List.getD_eq_getElem?_getD, List.getD_eq_getElem?_getD, List.getElem?_append_right (by omega), show (l.length * 2 + j) / 2 - l.length = j / 2 by omega]
  unfold fl; rw [e, show (l.length * 2 + j) % 2 = j % 2 by omega]
theorem fl_tail (l : List Nt) (j : Nat) : fl l.tail j = fl l (2 + j) := by
  have e : l.tail.getD (j / 2) (0, 0) = l.getD ((2 + j) / 2) (0, 0) := by
    rw [show (2 + j) / 2 = j / 2 + 1 by omega]
    cases l <;> simp
  unfold fl; rw [e, show (2 + j) % 2 = j % 2 by omega]
/-- Numbers as notes. -/
def nof (n : Nat) (f : Nat → Int) : List Nt := (List.range n).map fun i => (f (i * 2), f (i * 2 + 1))
theorem nof_len (n : Nat) (f : Nat → Int) : (nof n f).length = n := by simp [nof]
theorem nof_fl (n : Nat) (f : Nat → Int) (j : Nat) (h : j < n * 2) : fl (nof n f) j = f j := by
  have e : (nof n f).getD (j / 2) (0, 0) = (f (j / 2 * 2), f (j / 2 * 2 + 1)) := by
    rw [List.getD_eq_getElem?_getD]; simp [nof, show j / 2 < n by omega]
  unfold fl
  rw [e]
  by_cases k : j % 2 = 0
  · rw [if_pos k, show j / 2 * 2 = j by omega]
  · rw [if_neg k, show j / 2 * 2 + 1 = j by omega]

/-- A station. -/
structure S where
  unit : Int
  band : Int
  seen : Bool
  last : Int
  next : Int
  wait : List Nt
  drops : Int
/-- The number ahead of a note's. -/
def ah (f : Nat → Int) (i : Nat) : Int := if i = 0 then 0 else f ((i - 1) * 2)
/-- The first notes rise, below a number, and their values may be. -/
def Wt (next : Int) (f : Nat → Int) (n : Nat) : Prop := ∀ i, i < n → ah f i < f (i * 2) ∧ f (i * 2) < next ∧ -1000000 ≤ f (i * 2 + 1) ∧ f (i * 2 + 1) ≤ 1000000
theorem ah_succ (f : Nat → Int) (i : Nat) : ah f (i + 1) = f (i * 2) := by unfold ah; rw [if_neg (by omega), show i + 1 - 1 = i by omega]
theorem Wt.zero (next : Int) (f : Nat → Int) : Wt next f 0 := fun _ h => absurd h (Nat.not_lt_zero _)
theorem Wt.step {next : Int} {f : Nat → Int} {n : Nat} (h : Wt next f n) (h1 : ah f n < f (n * 2)) (h2 : f (n * 2) < next) (h3 : -1000000 ≤ f (n * 2 + 1)) (h4 : f (n * 2 + 1) ≤ 1000000) : Wt next f (n + 1) := fun i hi => by
  by_cases e : i = n
  · subst e; exact ⟨h1, h2, h3, h4⟩
  · exact h i (by omega)
theorem Wt.ah_nn {next : Int} {f : Nat → Int} {n : Nat} (h : Wt next f n) : 0 ≤ ah f n := by
  induction n with
  | zero => simp [ah]
  | succ n ih =>
    have h1 := h n (by omega)
    have h2 := ih (fun i hi => h i (by omega))
    rw [ah_succ]; omega
/-- What of a station stands but for its notes. -/
def S.Head (s : S) : Prop := (0 ≤ s.unit ∧ s.unit ≤ 250) ∧ (0 ≤ s.band ∧ s.band ≤ 1000000) ∧ (-1000000 ≤ s.last ∧ s.last ≤ 1000000) ∧ (s.seen = false → s.last = 0) ∧ (1 ≤ s.next ∧ s.next ≤ 60000) ∧ (0 ≤ s.drops ∧ s.drops ≤ 60000)
def S.Right (s : S) : Prop := s.Head ∧ s.wait.length ≤ 40 ∧ Wt s.next (fl s.wait) s.wait.length
/-- Is there anything to note of a value? -/
def S.Takes (s : S) (v : Int) : Prop := s.Right ∧ (-1000000 ≤ v ∧ v ≤ 1000000) ∧ s.next ≠ 60000 ∧ ¬ (s.seen = true ∧ -s.band ≤ v - s.last ∧ v - s.last ≤ s.band)
/-- The station behind a note. -/
def S.put (s : S) (v : Int) : S :=
  if s.wait.length < 40 then ⟨s.unit, s.band, true, v, s.next + 1, s.wait ++ [(s.next, v)], s.drops⟩
  else ⟨s.unit, s.band, true, v, s.next + 1, (s.wait ++ [(s.next, v)]).tail, s.drops + 1⟩
open Classical in
noncomputable def S.note (s : S) (v : Int) : S := if s.Takes v then s.put v else s
theorem S.note_yes {s : S} {v : Int} (h : s.Takes v) : s.note v = s.put v := if_pos h
theorem S.note_no {s : S} {v : Int} (h : ¬ s.Takes v) : s.note v = s := if_neg h
/-- The notes that are not heard yet. -/
def left (q : Int) (l : List Nt) : List Nt := l.filter fun n => decide (q < n.1)
open Classical in
noncomputable def S.heard (s : S) (q : Int) : S := if s.Right then { s with wait := left q s.wait } else s
theorem S.heard_yes {s : S} {q : Int} (h : s.Right) : s.heard q = { s with wait := left q s.wait } := if_pos h
theorem S.heard_no {s : S} {q : Int} (h : ¬ s.Right) : s.heard q = s := if_neg h
theorem note_len1 (s : S) (v : Int) (h : s.wait.length ≤ 1048576) : (s.note v).wait.length ≤ 1048576 := by
  by_cases k : s.Takes v
  · have h40 := k.1.2.1
    rw [S.note_yes k]; unfold S.put
    by_cases e : s.wait.length < 40
    · rw [if_pos e]; simp; omega
    · rw [if_neg e]; simp; omega
  · rw [S.note_no k]; exact h
theorem left_len (q : Int) (l : List Nt) : (left q l).length ≤ l.length := List.length_filter_le _ _
theorem heard_len1 (s : S) (q : Int) (h : s.wait.length ≤ 1048576) : (s.heard q).wait.length ≤ 1048576 := by
  by_cases k : s.Right
  · rw [S.heard_yes k]; have := left_len q s.wait; simp only; omega
  · rw [S.heard_no k]; exact h
end Ln
end Go.Proofs.YtogfjomfhenhfaaGreatDoor
