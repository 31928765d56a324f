/-
  A cycle's answer is small.
-/
import Derived.Test.YtgkdnpnnmmpnmaaGreatDoorCyEx
import Derived.Test.YtgkdnpnnmmpnmaaGreatDoorPgMem
namespace Go.Proofs.YtgkdnpnnmmpnmaaGreatDoor
open Go.RowKit Go.Deep
theorem ans_small {p : Pg.Prog} {s : Cy.Lg} {n : Nat} {I : Nat → Int} (h : PgSmall p) : CoSmall (Cy.ans p s n I) := by
  by_cases hc : Cy.code p s n I = 0
  · rw [show Cy.ans p s n I = ⟨Cy.next p s I, p.on, Cy.out p s I, 0⟩ from if_pos hc]
    exact ⟨⟨h.1.1, h.1.1⟩, h.2.1⟩
  · rw [show Cy.ans p s n I = Cy.no (Cy.code p s n I) from if_neg hc]
    exact ⟨⟨Nat.zero_le _, Nat.zero_le _⟩, Nat.zero_le _⟩
end Go.Proofs.YtgkdnpnnmmpnmaaGreatDoor
