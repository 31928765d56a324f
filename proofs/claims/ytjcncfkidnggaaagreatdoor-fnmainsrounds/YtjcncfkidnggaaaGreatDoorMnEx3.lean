/-
  The laws' conversions, comparisons and marks of mains and of answers of them.
-/
import Derived.Test.YtjcncfkidnggaaaGreatDoorMnEx2
namespace Go.Proofs.YtjcncfkidnggaaaGreatDoor
open Go.RowKit Go.Deep

end Go.Proofs.YtjcncfkidnggaaaGreatDoor
