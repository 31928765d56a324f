/-
  How many truths are handed in: mathematics.
-/
import Derived.Test.YtogfjomfhenhfaaGreatDoorPgMath
namespace Go.Proofs.YtogfjomfhenhfaaGreatDoor
open Go.RowKit Go.Deep

namespace Pg
/-- How many of the first blocks are in. -/
def insTo (B : Nat → Bk) : Nat → Nat
  | 0 => 0
  | i + 1 => insTo B i + (if (B i).kind = 1 then 1 else 0)
theorem insTo_le (B : Nat → Bk) (i : Nat) : insTo B i ≤ i := by
  induction i with
  | zero => exact Nat.le_refl _
  | succ i ih =>
    rw [insTo]
    by_cases h : (B i).kind = 1
    · rw [if_pos h]; omega
    · rw [if_neg h]; omega
theorem insTo_yes {B : Nat → Bk} {i : Nat} (h : (B i).kind = 1) : insTo B (i + 1) = insTo B i + 1 := by rw [insTo, if_pos h]
theorem insTo_no {B : Nat → Bk} {i : Nat} (h : ¬ (B i).kind = 1) : insTo B (i + 1) = insTo B i := by rw [insTo, if_neg h]; omega
noncomputable def ins (p : Prog) : Int := @ite Int (Right p) (Classical.propDecidable _) (insTo p.B p.bn : Nat) 0
theorem ins_yes {p : Prog} (h : Right p) : ins p = (insTo p.B p.bn : Nat) := by unfold ins; rw [if_pos h]
theorem ins_no {p : Prog} (h : ¬ Right p) : ins p = 0 := by unfold ins; rw [if_neg h]
end Pg
end Go.Proofs.YtogfjomfhenhfaaGreatDoor
