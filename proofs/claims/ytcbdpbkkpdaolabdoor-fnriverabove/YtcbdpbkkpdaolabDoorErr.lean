/-
  An error of the program's: a refusal, wrapped once.
-/
import Derived.Test.YtcbdpbkkpdaolabDoorNums
namespace Go.Proofs.YtcbdpbkkpdaolabDoor
abbrev errV (s : ByteArray) (c : Int) : Value := .iface 53 (.agg #[.string s, .iface 49 (.agg #[.int .i64 c])])
end Go.Proofs.YtcbdpbkkpdaolabDoor
