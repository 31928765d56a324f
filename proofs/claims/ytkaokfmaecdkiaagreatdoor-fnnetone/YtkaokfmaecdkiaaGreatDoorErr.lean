/-
  An error of the program's: a refusal, wrapped once.
-/
import Derived.Test.YtkaokfmaecdkiaaGreatDoorNums
namespace Go.Proofs.YtkaokfmaecdkiaaGreatDoor
abbrev errV (s : ByteArray) (c : Int) : Value := .iface 105 (.agg #[.string s, .iface 103 (.agg #[.int .i64 c])])
end Go.Proofs.YtkaokfmaecdkiaaGreatDoor
