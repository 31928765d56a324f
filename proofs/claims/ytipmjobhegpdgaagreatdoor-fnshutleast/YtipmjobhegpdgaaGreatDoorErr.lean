/-
  An error of the program's: a refusal, wrapped once.
-/
import Derived.Test.YtipmjobhegpdgaaGreatDoorNums
namespace Go.Proofs.YtipmjobhegpdgaaGreatDoor
abbrev errV (s : ByteArray) (c : Int) : Value := .iface 95 (.agg #[.string s, .iface 93 (.agg #[.int .i64 c])])
end Go.Proofs.YtipmjobhegpdgaaGreatDoor
