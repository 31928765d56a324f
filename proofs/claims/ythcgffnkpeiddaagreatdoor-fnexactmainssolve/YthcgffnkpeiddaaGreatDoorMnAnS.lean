/-
  The start of mains: both sides answer so.
-/
import Derived.Test.YthcgffnkpeiddaaGreatDoorMnAn
import Derived.Test.YthcgffnkpeiddaaGreatDoorMnTl
namespace Go.Proofs.YthcgffnkpeiddaaGreatDoor
open Go.RowKit Go.Deep

theorem outAt_total (s : Nat → Bool) : ∀ n, ∃ r, Mn.OutAt s n r
  | 0 => ⟨-1, Or.inr ⟨rfl, fun j hj => absurd hj (Nat.not_lt_zero _)⟩⟩
  | n + 1 => by
    obtain ⟨r, h⟩ := outAt_total s n
    rcases h with ⟨i, h1, h2, h3, h4⟩ | ⟨h1, h2⟩
    · exact ⟨r, Or.inl ⟨i, by omega, h2, h3, h4⟩⟩
    · cases e : s n with
      | true =>
        refine ⟨-1, Or.inr ⟨rfl, fun j hj => ?_⟩⟩
        by_cases ej : j = n
        · subst ej; exact e
        · exact h2 j (by omega)
      | false => exact ⟨n, Or.inl ⟨n, by omega, rfl, e, h2⟩⟩
theorem wrongAt_total (m : Mn.Mains) (f : Nat → Int) : ∃ r, Mn.WrongAt m f r := by
  have key : ∀ n, n ≤ m.pn → (∃ i : Nat, i < n ∧ ¬ Mn.okF m f i ∧ ∀ j, j < i → Mn.okF m f j) ∨ ∀ j, j < n → Mn.okF m f j := by
    intro n
    induction n with
    | zero => intro _; exact Or.inr (fun j hj => absurd hj (Nat.not_lt_zero _))
    | succ n ih =>
      intro hn
      rcases ih (by omega) with ⟨i, h1, h2, h3⟩ | h
      · exact Or.inl ⟨i, by omega, h2, h3⟩
      · by_cases e : Mn.okF m f n
        · refine Or.inr (fun j hj => ?_)
          by_cases ej : j = n
          · subst ej; exact e
          · exact h j (by omega)
        · exact Or.inl ⟨n, by omega, e, h⟩
  rcases key m.pn (Nat.le_refl _) with ⟨i, h1, h2, h3⟩ | h
  · exact ⟨i, Or.inl ⟨i, h1, rfl, h2, h3⟩⟩
  · exact ⟨-1, Or.inr ⟨rfl, h⟩⟩
theorem start_total (m : Mn.Mains) : ∃ c a, Mn.Start m c a := by
  by_cases h : Mn.Right m
  · obtain ⟨r, hr⟩ := outAt_total (Mn.fin m).1 (Mn.nn m)
    by_cases h0 : 0 ≤ r
    · exact ⟨4, r, .none r h hr h0⟩
    · have hr1 : Mn.OutAt (Mn.fin m).1 (Mn.nn m) (-1) := by
        rcases hr with ⟨i, _, h2, _⟩ | ⟨h1, h2⟩
        · omega
        · exact Or.inr ⟨rfl, h2⟩
      obtain ⟨z, hz⟩ := wrongAt_total m (Mn.flows m)
      by_cases hz0 : 0 ≤ z
      · exact ⟨5, z, .over z h hr1 hz hz0⟩
      · have hz1 : Mn.WrongAt m (Mn.flows m) (-1) := by
          rcases hz with ⟨i, _, h2, _⟩ | ⟨h1, h2⟩
          · omega
          · exact Or.inr ⟨rfl, h2⟩
        exact ⟨0, 0, .ok h hr1 hz1⟩
  · exact ⟨1, 0, .form h⟩
theorem Mn.Start.right {m : Mn.Mains} {a : Int} (h : Mn.Start m 0 a) : Mn.Right m := by cases h with | ok h => exact h
end Go.Proofs.YthcgffnkpeiddaaGreatDoor
