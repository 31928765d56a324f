/-
  The rings of a run of an alarm: each stands where it was made, and they follow each other: mathematics.
-/
import Derived.Test.YtmejmpdljckfgaaDoorAlMath
import Derived.Test.YtmejmpdljckfgaaDoorLnMath
namespace Go.Proofs.YtmejmpdljckfgaaDoor
namespace Al
theorem rings_more_len {a : A} {P : Nat → Int} {i : Nat} (h : ¬ (meet (run a P i) (P (i * 2)) (P (i * 2 + 1))).st = (run a P i).st) : (rings a P (i + 1)).length = (rings a P i).length + 1 := by
  rw [rings_more h, List.length_append]; rfl
theorem rings_pre (a : A) (P : Nat → Int) (i : Nat) : ∀ d, ∃ t, rings a P (i + d) = rings a P i ++ t
  | 0 => ⟨[], by simp⟩
  | d + 1 => by
    obtain ⟨t, ht⟩ := rings_pre a P i d
    by_cases h : (meet (run a P (i + d)) (P ((i + d) * 2)) (P ((i + d) * 2 + 1))).st = (run a P (i + d)).st
    · exact ⟨t, by rw [show i + (d + 1) = (i + d) + 1 from rfl, rings_same h, ht]⟩
    · exact ⟨t ++ [(((i + d : Nat) : Int), (meet (run a P (i + d)) (P ((i + d) * 2)) (P ((i + d) * 2 + 1))).st)], by rw [show i + (d + 1) = (i + d) + 1 from rfl, rings_more h, ht, List.append_assoc]⟩
/-- A ring that is made stands in the run's rings at its place. -/
theorem rings_at {a : A} {P : Nat → Int} {i n : Nat} (hi : i < n) (h : ¬ (meet (run a P i) (P (i * 2)) (P (i * 2 + 1))).st = (run a P i).st) :
    (rings a P i).length < (rings a P n).length ∧ Ln.fl (rings a P n) ((rings a P i).length * 2) = (i : Int) ∧ Ln.fl (rings a P n) ((rings a P i).length * 2 + 1) = (meet (run a P i) (P (i * 2)) (P (i * 2 + 1))).st := by
  obtain ⟨t, ht⟩ := rings_pre a P (i + 1) (n - (i + 1))
  rw [show i + 1 + (n - (i + 1)) = n by omega, rings_more h] at ht
  rw [ht, Ln.fl_even, Ln.fl_odd]
  simp
theorem meet_fol {a : A} {k v : Int} (h : Right a) (hn : ¬ (meet a k v).st = a.st) : Fol a.st (meet a k v).st := by
  obtain ⟨_, _, _, _, _, h6, _⟩ := h
  unfold meet take see shelve quiet loud at hn ⊢
  unfold Fol
  repeat' split
  all_goals simp_all
  all_goals omega
/-- The rings of a run from rest on: places below, states that follow. -/
theorem rings_inv {a : A} {P : Nat → Int} {n : Nat} (hr : Right a) (h1 : a.st = 1) (hn : n ≤ 300) : ∀ i, i ≤ n → (∀ j, j < (rings a P i).length → RingAt (Ln.fl (rings a P i)) j) ∧ ahA (Ln.fl (rings a P i)) (rings a P i).length < i ∧ ahS (Ln.fl (rings a P i)) (rings a P i).length = (run a P i).st := by
  intro i
  induction i with
  | zero => intro _; exact ⟨fun j hj => absurd hj (Nat.not_lt_zero _), by show (-1 : Int) < ((0 : Nat) : Int); omega, by show (1 : Int) = a.st; omega⟩
  | succ i ih =>
    intro hi
    obtain ⟨q1, q2, q3⟩ := ih (by omega)
    by_cases h : (meet (run a P i) (P (i * 2)) (P (i * 2 + 1))).st = (run a P i).st
    · rw [rings_same h]
      exact ⟨q1, by omega, by rw [q3]; exact h.symm⟩
    · have hf := meet_fol (run_right hr P i) h
      rw [rings_more h]
      obtain ⟨l, hl⟩ : ∃ l, l = rings a P i := ⟨_, rfl⟩
      obtain ⟨s, hs⟩ : ∃ s, s = (meet (run a P i) (P (i * 2)) (P (i * 2 + 1))).st := ⟨_, rfl⟩
      have e0 : (run a P (i + 1)).st = s := by rw [hs]; rfl
      rw [e0]
      rw [← hl] at q1 q2 q3 ⊢
      rw [← hs] at hf ⊢
      rw [← q3] at hf
      have lo : ∀ j, j < l.length → Ln.fl (l ++ [((i : Int), s)]) (j * 2) = Ln.fl l (j * 2) ∧ Ln.fl (l ++ [((i : Int), s)]) (j * 2 + 1) = Ln.fl l (j * 2 + 1) := by
        intro j hj
        rw [Ln.fl_even, Ln.fl_odd, Ln.fl_even, Ln.fl_odd]
        simp [List.getElem?_append_left hj]
      have at_ : Ln.fl (l ++ [((i : Int), s)]) (l.length * 2) = (i : Int) ∧ Ln.fl (l ++ [((i : Int), s)]) (l.length * 2 + 1) = s := by
        rw [Ln.fl_even, Ln.fl_odd]
        simp
      have ah : ∀ j, j ≤ l.length → ahA (Ln.fl (l ++ [((i : Int), s)])) j = ahA (Ln.fl l) j ∧ ahS (Ln.fl (l ++ [((i : Int), s)])) j = ahS (Ln.fl l) j := by
        intro j hj
        unfold ahA ahS
        by_cases e : j = 0
        · simp [e]
        · have := lo (j - 1) (by omega)
          rw [if_neg e, if_neg e, if_neg e, if_neg e, this.1, this.2]
          exact ⟨rfl, rfl⟩
      refine ⟨fun j hj => ?_, ?_, ?_⟩
      · rw [List.length_append] at hj
        have hj2 : j < l.length + 1 := hj
        unfold RingAt
        rw [(ah j (by omega)).1, (ah j (by omega)).2]
        by_cases e : j = l.length
        · subst e
          rw [at_.1, at_.2]
          exact ⟨q2, by omega, hf⟩
        · rw [(lo j (by omega)).1, (lo j (by omega)).2]
          exact q1 j (by omega)
      · rw [List.length_append]
        show ahA _ (l.length + 1) < _
        rw [ahA_succ, at_.1]
        omega
      · rw [List.length_append]
        show ahS _ (l.length + 1) = _
        rw [ahS_succ, at_.2]
theorem rings_ok {a : A} {P : Nat → Int} {n : Nat} (hr : Right a) (h1 : a.st = 1) (hn : n ≤ 300) : RingsOk (Ln.fl (rings a P n)) (rings a P n).length :=
  ⟨by have := rings_len a P n; omega, (rings_inv hr h1 hn n (Nat.le_refl _)).1⟩
end Al
end Go.Proofs.YtmejmpdljckfgaaDoor
