/-
  Nets and lists of fractions that came in, as they lie in memory.
-/
import Derived.Test.YtkaokfmaecdkiaaDoorNtMem
import Derived.Lib.SmallJoins
import Derived.Deep.Slices
import Derived.ProofKit
namespace Go.Proofs.YtkaokfmaecdkiaaDoor
open Go Go.ChangeShapes Go.WideShapes Go.ChangeAt Go.RowKit Go.Joins Go.Deep

theorem ncellsI : Tryd.prog.cellsOf 2 = 1 := by kernel_rfl
/-- All are numbers of 64 bits. -/
def NBd (f : Nat → Int) : Prop := ∀ j, -9223372036854775808 ≤ f j ∧ f j ≤ 9223372036854775807
theorem nbd0 : NBd (fun _ => 0) := fun _ => ⟨by simp, by simp⟩
end Go.Proofs.YtkaokfmaecdkiaaDoor
