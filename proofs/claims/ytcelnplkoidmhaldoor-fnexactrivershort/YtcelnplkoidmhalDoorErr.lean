/-
  An error of the program's: a refusal, wrapped once.
-/
import Derived.Test.YtcelnplkoidmhalDoorNums
namespace Go.Proofs.YtcelnplkoidmhalDoor
abbrev errV (s : ByteArray) (c : Int) : Value := .iface 86 (.agg #[.string s, .iface 84 (.agg #[.int .i64 c])])
end Go.Proofs.YtcelnplkoidmhalDoor
