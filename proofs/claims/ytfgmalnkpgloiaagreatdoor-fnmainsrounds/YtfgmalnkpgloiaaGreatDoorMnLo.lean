/-
  Drawn mains: which pipe leads up from a node: plain facts. No program is named here.
-/
import Derived.Laws.FloatArith
namespace Go.Proofs.YtfgmalnkpgloiaaGreatDoor.Mn

/-- Each pipe leads from a node to one behind it. -/
def PR (n pn : Nat) (P : Nat → Int) : Prop := ∀ i, i < pn → 0 ≤ P (i * 5 + 1) ∧ P (i * 5 + 1) < P (i * 5 + 2) ∧ P (i * 5 + 2) < (n : Int)
/-- To each node but the first one a pipe leads. -/
def Cov (n pn : Nat) (P : Nat → Int) : Prop := ∀ j : Nat, 1 ≤ j → j < n → ∃ i, i < pn ∧ P (i * 5 + 2) = (j : Int)
/-- What stands behind the first k pipes. -/
def UI (n pn : Nat) (P : Nat → Int) (k : Nat) (U : Nat → Int) : Prop := (∀ j, j < n → U j = 0 ∨ (1 ≤ U j ∧ U j ≤ (pn : Int) ∧ 0 ≤ P ((U j - 1).toNat * 5 + 1) ∧ P ((U j - 1).toNat * 5 + 1) < (j : Int))) ∧ ∀ i, i < k → U (P (i * 5 + 2)).toNat ≠ 0
def upU (U : Nat → Int) (j : Nat) (x : Int) : Nat → Int := fun i => if i = j then x else U i
theorem ui_start (n pn : Nat) (P : Nat → Int) : UI n pn P 0 (fun _ => 0) := ⟨fun _ _ => Or.inl rfl, fun _ hi => absurd hi (Nat.not_lt_zero _)⟩
theorem ui_keep {n pn : Nat} {P : Nat → Int} {k : Nat} {U : Nat → Int} (h : UI n pn P k U) (hk : U (P (k * 5 + 2)).toNat ≠ 0) : UI n pn P (k + 1) U :=
  ⟨h.1, fun i hi => by
    by_cases e : i = k
    · subst e; exact hk
    · exact h.2 i (by omega)⟩
theorem ui_take {n pn : Nat} {P : Nat → Int} {k : Nat} {U : Nat → Int} (hp : PR n pn P) (hk : k < pn) (h : UI n pn P k U) : UI n pn P (k + 1) (upU U (P (k * 5 + 2)).toNat ((k : Int) + 1)) := by
  obtain ⟨p0, p1, p2⟩ := hp k hk
  refine ⟨fun j hj => ?_, fun i hi => ?_⟩
  · unfold upU
    by_cases e : j = (P (k * 5 + 2)).toNat
    · rw [if_pos e]
      right
      have e2 : ((k : Int) + 1 - 1).toNat = k := by omega
      rw [e2]
      exact ⟨by omega, by omega, p0, by omega⟩
    · rw [if_neg e]; exact h.1 j hj
  · unfold upU
    by_cases e : (P (i * 5 + 2)).toNat = (P (k * 5 + 2)).toNat
    · rw [if_pos e]; omega
    · rw [if_neg e]
      by_cases e2 : i = k
      · subst e2; exact absurd rfl e
      · exact h.2 i (by omega)
/-- In the end a pipe leads up from each node but the first one. -/
theorem ui_up {n pn : Nat} {P : Nat → Int} {U : Nat → Int} (h : UI n pn P pn U) (hc : Cov n pn P) {j : Nat} (h1 : 1 ≤ j) (h2 : j < n) : 1 ≤ U j ∧ U j ≤ (pn : Int) ∧ 0 ≤ P ((U j - 1).toNat * 5 + 1) ∧ P ((U j - 1).toNat * 5 + 1) < (j : Int) := by
  obtain ⟨i, hi, e⟩ := hc j h1 h2
  have h3 := h.2 i hi
  rw [e] at h3
  rcases h.1 j h2 with h4 | h4
  · exact absurd h4 (by simpa using h3)
  · exact h4
end Go.Proofs.YtfgmalnkpgloiaaGreatDoor.Mn
