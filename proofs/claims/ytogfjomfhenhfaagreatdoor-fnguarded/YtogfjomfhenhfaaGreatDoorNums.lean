/-
  The contracts of the small functions on whole numbers: the greatest common divisor (both packages), the magnitude (both packages). Conditions: the arguments lie where the callers hand them in.
-/
import Derived.Test.YtogfjomfhenhfaaGreatDoorProg
import Derived.Test.YtogfjomfhenhfaaGreatDoorMath
import Derived.WalkKit
import Derived.WalkSpells
import Derived.WalkLawsBesides
import Derived.Deep.QuietTactic
import Derived.BigQuiet
import Derived.Below
namespace Go.Proofs.YtogfjomfhenhfaaGreatDoor
open Go.RowKit

theorem ret_int {k : IntKind} {a b : Int} (h : a = b) : Ending.returned (.int k a) = .returned (.int k b) := by rw [h]

end Go.Proofs.YtogfjomfhenhfaaGreatDoor
