/-
  An error of the program's: a refusal, wrapped once.
-/
import Derived.Test.YthcgffnkpeiddaaGreatDoorNums
namespace Go.Proofs.YthcgffnkpeiddaaGreatDoor
abbrev errV (s : ByteArray) (c : Int) : Value := .iface 86 (.agg #[.string s, .iface 96 (.agg #[.int .i64 c])])
end Go.Proofs.YthcgffnkpeiddaaGreatDoor
