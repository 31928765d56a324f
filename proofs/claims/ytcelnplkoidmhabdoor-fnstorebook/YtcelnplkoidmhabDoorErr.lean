/-
  An error of the program's: a refusal, wrapped once.
-/
import Derived.Test.YtcelnplkoidmhabDoorNums
namespace Go.Proofs.YtcelnplkoidmhabDoor
abbrev errV (s : ByteArray) (c : Int) : Value := .iface 69 (.agg #[.string s, .iface 65 (.agg #[.int .i64 c])])
end Go.Proofs.YtcelnplkoidmhabDoor
