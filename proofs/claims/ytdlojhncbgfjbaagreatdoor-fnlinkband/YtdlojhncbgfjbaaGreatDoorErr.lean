/-
  An error of the program's: a refusal, wrapped once.
-/
import Derived.Test.YtdlojhncbgfjbaaGreatDoorNums
namespace Go.Proofs.YtdlojhncbgfjbaaGreatDoor
abbrev errV (s : ByteArray) (c : Int) : Value := .iface 76 (.agg #[.string s, .iface 74 (.agg #[.int .i64 c])])
end Go.Proofs.YtdlojhncbgfjbaaGreatDoor
