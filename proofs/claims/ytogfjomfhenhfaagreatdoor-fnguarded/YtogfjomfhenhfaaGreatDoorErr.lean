/-
  An error of the program's: a refusal, wrapped once.
-/
import Derived.Test.YtogfjomfhenhfaaGreatDoorNums
namespace Go.Proofs.YtogfjomfhenhfaaGreatDoor
abbrev errV (s : ByteArray) (c : Int) : Value := .iface 114 (.agg #[.string s, .iface 112 (.agg #[.int .i64 c])])
end Go.Proofs.YtogfjomfhenhfaaGreatDoor
