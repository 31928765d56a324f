/-
  The laws' conversions, comparisons and marks of links, fixed heads, fractions and numbers.
-/
import Derived.Test.YtjcncfkidnggaaaGreatDoorNtMem
import Derived.Test.YtjcncfkidnggaaaGreatDoorReg
namespace Go.Proofs.YtjcncfkidnggaaaGreatDoor
open Go.RowKit Go.Deep





end Go.Proofs.YtjcncfkidnggaaaGreatDoor
