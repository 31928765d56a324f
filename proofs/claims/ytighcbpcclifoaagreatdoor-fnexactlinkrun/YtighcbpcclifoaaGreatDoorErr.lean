/-
  An error of the program's: a refusal, wrapped once.
-/
import Derived.Test.YtighcbpcclifoaaGreatDoorNums
namespace Go.Proofs.YtighcbpcclifoaaGreatDoor
abbrev errV (s : ByteArray) (c : Int) : Value := .iface 91 (.agg #[.string s, .iface 89 (.agg #[.int .i64 c])])
end Go.Proofs.YtighcbpcclifoaaGreatDoor
