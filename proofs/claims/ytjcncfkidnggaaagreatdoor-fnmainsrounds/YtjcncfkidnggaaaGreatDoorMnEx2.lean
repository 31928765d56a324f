/-
  The laws' conversions, comparisons and marks of lists of lists of numbers.
-/
import Derived.Test.YtjcncfkidnggaaaGreatDoorMnMath
import Derived.Test.YtjcncfkidnggaaaGreatDoorNtEx1
namespace Go.Proofs.YtjcncfkidnggaaaGreatDoor
open Go.RowKit Go.Deep

end Go.Proofs.YtjcncfkidnggaaaGreatDoor
