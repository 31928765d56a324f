/-
  The tree of mains, the flows along it, which flows may be: mathematics.
-/
import Derived.Test.YtfgmalnkpgloiaaGreatDoorMnI1
namespace Go.Proofs.YtfgmalnkpgloiaaGreatDoor
open Go.RowKit Go.Deep
namespace Mn

def fN (m : Mains) (i : Nat) : Nat := (fr m i).toNat
def tN (m : Mains) (i : Nat) : Nat := (tt m i).toNat
def nn (m : Mains) : Nat := m.nodes.toNat
theorem Right.nn {m : Mains} (h : Right m) : m.nodes = (Mn.nn m : Nat) ∧ 1 ≤ Mn.nn m ∧ Mn.nn m ≤ 12 ∧ m.wn = Mn.nn m := by
  have := h.n1; have := h.n2; have := h.wn
  unfold Mn.nn; omega
theorem Right.fN {m : Mains} (h : Right m) {i : Nat} (hi : i < m.pn) : m.P (i * 5 + 1) = (fN m i : Nat) ∧ fN m i < Mn.nn m := by
  have h1 := (h.p i hi).f0; have h2 := (h.p i hi).f1
  unfold Mn.fN Mn.nn fr; omega
theorem Right.tN {m : Mains} (h : Right m) {i : Nat} (hi : i < m.pn) : m.P (i * 5 + 2) = (tN m i : Nat) ∧ tN m i < Mn.nn m := by
  have h1 := (h.p i hi).t0; have h2 := (h.p i hi).t1
  unfold Mn.tN Mn.nn tt; omega
theorem Right.ftne {m : Mains} (h : Right m) {i : Nat} (hi : i < m.pn) : Mn.fN m i ≠ Mn.tN m i := by
  have h1 := h.fN hi; have h2 := h.tN hi; have h3 := (h.p i hi).ne
  intro e; rw [h1.1, h2.1, e] at h3; exact h3 rfl
def oneWay (m : Mains) (i : Nat) : Bool := m.P (i * 5) == 2 || m.P (i * 5) == 3
def takes (m : Mains) (s : Nat → Bool) (i : Nat) : Bool := (s (fN m i) != s (tN m i)) && !(m.P (i * 5) == 5) && (s (fN m i) || !(oneWay m i))
def nextP (m : Mains) (s : Nat → Bool) : Option Nat := (List.range m.pn).find? (takes m s)
theorem nextP_some {m : Mains} {s : Nat → Bool} {i : Nat} (h1 : i < m.pn) (h2 : takes m s i = true) (h3 : ∀ j, j < i → takes m s j = false) : nextP m s = some i := by
  unfold nextP
  rw [List.find?_range_eq_some]
  exact ⟨h2, by simp [h1], fun j hj => by simp [h3 j hj]⟩
theorem nextP_none {m : Mains} {s : Nat → Bool} (h : ∀ j, j < m.pn → takes m s j = false) : nextP m s = none := by
  unfold nextP
  rw [List.find?_eq_none]
  intro x hx
  simp [h x (List.mem_range.1 hx)]
theorem nextP_spec {m : Mains} {s : Nat → Bool} {i : Nat} (h : nextP m s = some i) : i < m.pn ∧ takes m s i = true := by
  unfold nextP at h
  exact ⟨List.mem_range.1 (List.mem_of_find?_eq_some h), List.find?_some h⟩
abbrev St := (Nat → Bool) × List (Nat × Bool)
def stepAt (m : Mains) (st : St) (i : Nat) : St := (updB (updB st.1 (fN m i) true) (tN m i) true, st.2 ++ [(i, st.1 (fN m i))])
def stepT (m : Mains) (st : St) : St := match nextP m st.1 with
  | none => st
  | some i => stepAt m st i
def iter (m : Mains) : Nat → St
  | 0 => (fun j => j == 0, [])
  | t + 1 => stepT m (iter m t)
def Real (m : Mains) (t : Nat) : Prop := ∀ k, k < t → nextP m (iter m k).1 ≠ none
def cnt (s : Nat → Bool) : Nat → Nat
  | 0 => 0
  | k + 1 => cnt s k + (if s k then 1 else 0)
theorem cnt_le (s : Nat → Bool) : ∀ n, cnt s n ≤ n
  | 0 => Nat.le_refl _
  | k + 1 => by have := cnt_le s k; simp only [cnt]; split <;> omega
theorem cnt_upd {s : Nat → Bool} {a : Nat} (h : s a = false) : ∀ n, cnt (updB s a true) n = cnt s n + (if a < n then 1 else 0)
  | 0 => by simp [cnt]
  | k + 1 => by
    have ih := cnt_upd h k
    simp only [cnt, ih]
    unfold updB
    by_cases e : k = a
    · subst e; simp [h]
    · by_cases e2 : a < k
      · have : a < k + 1 := by omega
        simp only [e, e2, this, if_false, if_true]; omega
      · have : ¬ a < k + 1 := by omega
        simp only [e, e2, this, if_false]; omega
theorem takes_one {m : Mains} {s : Nat → Bool} {i : Nat} (h : takes m s i = true) : s (tN m i) = !(s (fN m i)) := by
  unfold takes at h
  simp at h
  cases h1 : s (fN m i) <;> cases h2 : s (tN m i) <;> simp_all
theorem step_set {m : Mains} {s : Nat → Bool} {i : Nat} (h : takes m s i = true) : updB (updB s (fN m i) true) (tN m i) true = if s (fN m i) then updB s (tN m i) true else updB s (fN m i) true := by
  have h1 := takes_one h
  cases h2 : s (fN m i) with
  | true =>
    simp only [if_true]
    funext j
    unfold updB
    by_cases e : j = tN m i
    · simp [e]
    · by_cases e2 : j = fN m i
      · subst e2; simp [e, h2]
      · simp [e, e2]
  | false =>
    rw [h2] at h1
    simp
    funext j
    unfold updB
    by_cases e : j = tN m i
    · subst e
      by_cases e2 : tN m i = fN m i
      · simp [e2]
      · simp [e2]; simpa using h1
    · simp [e]
structure ItOk (m : Mains) (t : Nat) : Prop where
  len : (iter m t).2.length = t
  cnt : cnt (iter m t).1 (Mn.nn m) = t + 1
  el : ∀ e, e ∈ (iter m t).2 → e.1 < m.pn
theorem it_ok {m : Mains} (hr : Right m) : ∀ t, Real m t → ItOk m t
  | 0, _ => by
    refine ⟨rfl, ?_, fun e he => absurd he (by simp [iter])⟩
    have h := hr.nn
    have : ∀ n, 1 ≤ n → Mn.cnt (fun j => j == 0) n = 1 := by
      intro n
      induction n with
      | zero => intro h; omega
      | succ k ih =>
        intro _
        by_cases e : k = 0
        · subst e; rfl
        · have := ih (by omega)
          simp only [Mn.cnt, this]
          simp [e]
    exact this _ h.2.1
  | t + 1, hR => by
    have ih := it_ok hr t (fun k hk => hR k (by omega))
    have hn := hR t (by omega)
    cases e : nextP m (iter m t).1 with
    | none => exact absurd e hn
    | some i =>
      have hs := nextP_spec e
      have e1 : iter m (t + 1) = stepAt m (iter m t) i := by simp [iter, stepT, e]
      have hf := hr.fN hs.1
      have ht := hr.tN hs.1
      refine ⟨by rw [e1]; simp [stepAt, ih.len], ?_, ?_⟩
      · rw [e1]
        unfold stepAt
        simp only
        rw [step_set hs.2]
        have h1 := takes_one hs.2
        cases h2 : (iter m t).1 (Mn.fN m i) with
        | true =>
          rw [h2] at h1
          simp only [if_true]
          rw [cnt_upd (by simpa using h1), ih.cnt, if_pos ht.2]
        | false =>
          simp
          rw [cnt_upd h2, ih.cnt, if_pos hf.2]
      · rw [e1]
        intro x hx
        unfold stepAt at hx
        simp at hx
        rcases hx with hx | rfl
        · exact ih.el x hx
        · exact hs.1
theorem real_lt {m : Mains} (hr : Right m) {t : Nat} (h : Real m t) : t < Mn.nn m := by
  have h1 := (it_ok hr t h).cnt
  have h2 := cnt_le (iter m t).1 (Mn.nn m)
  omega
theorem real_succ {m : Mains} {t i : Nat} (h : Real m t) (hn : nextP m (iter m t).1 = some i) : Real m (t + 1) := by
  intro k hk
  by_cases e : k = t
  · subst e; rw [hn]; simp
  · exact h k (by omega)
theorem iter_succ {m : Mains} {t i : Nat} (hn : nextP m (iter m t).1 = some i) : iter m (t + 1) = stepAt m (iter m t) i := by simp [iter, stepT, hn]
theorem iter_stay {m : Mains} {t : Nat} (hn : nextP m (iter m t).1 = none) : ∀ k, iter m (t + k) = iter m t
  | 0 => rfl
  | k + 1 => by
    have ih := iter_stay hn k
    show stepT m (iter m (t + k)) = _
    rw [ih]
    simp [stepT, hn]
def fin (m : Mains) : St := iter m 12
theorem fin_eq {m : Mains} (hr : Right m) {t : Nat} (h : Real m t) (hn : nextP m (iter m t).1 = none) : fin m = iter m t := by
  have h1 := real_lt hr h
  have h2 := hr.nn
  have := iter_stay hn (12 - t)
  rw [show t + (12 - t) = 12 by omega] at this
  exact this
/-- The list of the tree, as long as it must be. -/
theorem fin_ok {m : Mains} (hr : Right m) : (fin m).2.length < Mn.nn m ∧ ∀ e, e ∈ (fin m).2 → e.1 < m.pn := by
  have key : ∀ t, ∃ k, k ≤ t ∧ Real m k ∧ iter m t = iter m k ∧ (k < t → nextP m (iter m k).1 = none) := by
    intro t
    induction t with
    | zero => exact ⟨0, Nat.le_refl _, fun k hk => absurd hk (Nat.not_lt_zero _), rfl, fun h => absurd h (Nat.not_lt_zero _)⟩
    | succ t ih =>
      obtain ⟨k, h1, h2, h3, h4⟩ := ih
      cases e : nextP m (iter m k).1 with
      | none =>
        refine ⟨k, by omega, h2, ?_, fun _ => e⟩
        show stepT m (iter m t) = _
        rw [h3]; simp [stepT, e]
      | some i =>
        have : k = t := by
          rcases Nat.lt_or_ge k t with q | q
          · rw [h4 q] at e; cases e
          · omega
        subst this
        exact ⟨k + 1, Nat.le_refl _, real_succ h2 e, rfl, fun h => absurd h (by omega)⟩
  obtain ⟨k, _, h2, h3, _⟩ := key 12
  have h := it_ok hr k h2
  unfold fin
  rw [h3]
  exact ⟨by rw [h.len]; exact real_lt hr h2, h.el⟩

/-- Flows along the tree, from its end on. -/
def backStep (m : Mains) (e : Nat × Bool) (q : (Nat → Int) × (Nat → Int)) : (Nat → Int) × (Nat → Int) :=
  if e.2 then (updI q.1 (fN m e.1) (q.1 (fN m e.1) + q.1 (tN m e.1)), updI q.2 e.1 (q.1 (tN m e.1)))
  else (updI q.1 (tN m e.1) (q.1 (tN m e.1) + q.1 (fN m e.1)), updI q.2 e.1 (-(q.1 (fN m e.1))))
def back (m : Mains) (l : List (Nat × Bool)) : (Nat → Int) × (Nat → Int) := l.foldr (backStep m) (m.W, fun _ => 0)
def flows (m : Mains) : Nat → Int := (back m (fin m).2).2
def LdOk (m : Mains) (f : Nat → Int) (B : Int) : Prop := ∀ j, j < nn m → 0 ≤ f j ∧ f j ≤ B
theorem back_ok {m : Mains} (hr : Right m) : ∀ l : List (Nat × Bool), (∀ e, e ∈ l → e.1 < m.pn) → LdOk m (back m l).1 (1000 * 2 ^ l.length) := by
  intro l
  induction l with
  | nil =>
    intro _ j hj
    have := hr.w j (by have := hr.nn; omega)
    simp [back]; exact this
  | cons e l ih =>
    intro he j hj
    have h1 := ih (fun x hx => he x (List.mem_cons_of_mem _ hx))
    have hf := (hr.fN (he e (List.mem_cons_self ..))).2
    have ht := (hr.tN (he e (List.mem_cons_self ..))).2
    have a1 := h1 _ hf
    have a2 := h1 _ ht
    have a3 := h1 j hj
    have hp : (1000 : Int) * 2 ^ (e :: l).length = 2 * (1000 * 2 ^ l.length) := by
      rw [List.length_cons, Int.pow_succ]; omega
    rw [hp]
    generalize (1000 : Int) * 2 ^ l.length = X at *
    show 0 ≤ (backStep m e (back m l)).1 j ∧ (backStep m e (back m l)).1 j ≤ 2 * X
    unfold backStep
    cases e.2 with
    | true =>
      simp only [if_true]
      unfold updI
      split <;> omega
    | false =>
      simp
      unfold updI
      split <;> omega
theorem pow_small {n : Nat} (h : n ≤ 11) : (1000 : Int) * 2 ^ n ≤ 2048000 := by
  have : n = 0 ∨ n = 1 ∨ n = 2 ∨ n = 3 ∨ n = 4 ∨ n = 5 ∨ n = 6 ∨ n = 7 ∨ n = 8 ∨ n = 9 ∨ n = 10 ∨ n = 11 := by omega
  rcases this with rfl | rfl | rfl | rfl | rfl | rfl | rfl | rfl | rfl | rfl | rfl | rfl <;> decide
/-- The loads are small, whatever part of the tree was gone through. -/
theorem back_small {m : Mains} (hr : Right m) {l : List (Nat × Bool)} (h1 : ∀ e, e ∈ l → e.1 < m.pn) (h2 : l.length < Mn.nn m) (k : Nat) : LdOk m (back m (l.drop k)).1 2048000 := by
  have h3 := back_ok hr (l.drop k) (fun e he => h1 e (List.mem_of_mem_drop he))
  have h4 := hr.nn
  intro j hj
  have h5 := h3 j hj
  have h6 : (l.drop k).length ≤ 11 := by rw [List.length_drop]; omega
  have := pow_small h6
  omega

/-- Which flows may be. -/
def lo (m : Mains) (i : Nat) : Int := if m.P (i * 5) = 2 ∨ m.P (i * 5) = 3 ∨ m.P (i * 5) = 5 then 0 else if m.P (i * 5) = 6 then -(m.P (i * 5 + 4)) else -100000
def hi (m : Mains) (i : Nat) : Int := if m.P (i * 5) = 5 then 0 else if m.P (i * 5) = 6 then m.P (i * 5 + 4) else 100000
def okF (m : Mains) (f : Nat → Int) (i : Nat) : Prop := lo m i ≤ f i ∧ f i ≤ hi m i
theorem lohi {m : Mains} {i : Nat} (h : PipeOk m i) : -100000 ≤ lo m i ∧ lo m i ≤ 0 ∧ 0 ≤ hi m i ∧ hi m i ≤ 100000 := by
  have := h.m0; have := h.m1
  unfold lo hi
  split <;> split <;> (try split) <;> omega
def WrongAt (m : Mains) (f : Nat → Int) (r : Int) : Prop := (∃ i : Nat, i < m.pn ∧ r = i ∧ ¬ okF m f i ∧ ∀ j, j < i → okF m f j) ∨ (r = -1 ∧ ∀ j, j < m.pn → okF m f j)
theorem WrongAt.one {m : Mains} {f : Nat → Int} {r r' : Int} (h : WrongAt m f r) (h' : WrongAt m f r') : r = r' := by
  rcases h with ⟨i, h1, h2, h3, h4⟩ | ⟨h1, h2⟩ <;> rcases h' with ⟨i', k1, k2, k3, k4⟩ | ⟨k1, k2⟩
  · rcases Nat.lt_trichotomy i i' with q | q | q
    · exact absurd (k4 i q) h3
    · subst q; rw [h2, k2]
    · exact absurd (h4 i' q) k3
  · exact absurd (k2 i h1) h3
  · exact absurd (h2 i' k1) k3
  · rw [h1, k1]
theorem WrongAt.pos {m : Mains} {f : Nat → Int} {r : Int} (h : WrongAt m f r) (hr : m.pn ≤ 40) : -1 ≤ r ∧ r < 40 := by
  rcases h with ⟨i, h1, h2, _⟩ | ⟨h1, _⟩ <;> omega
/-- The first node that is not in. -/
def OutAt (s : Nat → Bool) (n : Nat) (r : Int) : Prop := (∃ i : Nat, i < n ∧ r = i ∧ s i = false ∧ ∀ j, j < i → s j = true) ∨ (r = -1 ∧ ∀ j, j < n → s j = true)
theorem OutAt.one {s : Nat → Bool} {n : Nat} {r r' : Int} (h : OutAt s n r) (h' : OutAt s n r') : r = r' := by
  rcases h with ⟨i, h1, h2, h3, h4⟩ | ⟨h1, h2⟩ <;> rcases h' with ⟨i', k1, k2, k3, k4⟩ | ⟨k1, k2⟩
  · rcases Nat.lt_trichotomy i i' with q | q | q
    · rw [k4 i q] at h3; cases h3
    · subst q; rw [h2, k2]
    · rw [h4 i' q] at k3; cases k3
  · rw [k2 i h1] at h3; cases h3
  · rw [h2 i' k1] at k3; cases k3
  · rw [h1, k1]
/-- What the start of mains is told as: the code, and where. -/
inductive Start (m : Mains) : Int → Int → Prop
  | form : ¬ Right m → Start m 1 0
  | none (r : Int) : Right m → OutAt (fin m).1 (nn m) r → 0 ≤ r → Start m 4 r
  | over (r : Int) : Right m → OutAt (fin m).1 (nn m) (-1) → WrongAt m (flows m) r → 0 ≤ r → Start m 5 r
  | ok : Right m → OutAt (fin m).1 (nn m) (-1) → WrongAt m (flows m) (-1) → Start m 0 0
theorem Start.one {m : Mains} {c a c' a' : Int} (h : Start m c a) (h' : Start m c' a') : c = c' ∧ a = a' := by
  cases h with
  | form h1 =>
    cases h' with
    | form => exact ⟨rfl, rfl⟩
    | none _ k => exact absurd k h1
    | over _ k => exact absurd k h1
    | ok k => exact absurd k h1
  | none r h1 h2 h3 =>
    cases h' with
    | form k => exact absurd h1 k
    | none _ k1 k2 k3 => exact ⟨rfl, h2.one k2⟩
    | over _ k1 k2 => have := h2.one k2; omega
    | ok k1 k2 => have := h2.one k2; omega
  | over r h1 h2 h3 h4 =>
    cases h' with
    | form k => exact absurd h1 k
    | none _ k1 k2 k3 => have := h2.one k2; omega
    | over _ k1 k2 k3 k4 => exact ⟨rfl, h3.one k3⟩
    | ok k1 k2 k3 => have := h3.one k3; omega
  | ok h1 h2 h3 =>
    cases h' with
    | form k => exact absurd h1 k
    | none _ k1 k2 k3 => have := h2.one k2; omega
    | over _ k1 k2 k3 k4 => have := h3.one k3; omega
    | ok => exact ⟨rfl, rfl⟩
end Mn
end Go.Proofs.YtfgmalnkpgloiaaGreatDoor
