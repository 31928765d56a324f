/-
  An error of the program's: a refusal, wrapped once.
-/
import Derived.Test.YtngifalfeheilalDoorNums
namespace Go.Proofs.YtngifalfeheilalDoor
abbrev errV (s : ByteArray) (c : Int) : Value := .iface 56 (.agg #[.string s, .iface 54 (.agg #[.int .i64 c])])
end Go.Proofs.YtngifalfeheilalDoor
