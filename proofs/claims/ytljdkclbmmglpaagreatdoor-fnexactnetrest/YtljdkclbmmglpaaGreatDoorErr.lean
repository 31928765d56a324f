/-
  An error of the program's: a refusal, wrapped once.
-/
import Derived.Test.YtljdkclbmmglpaaGreatDoorNums
namespace Go.Proofs.YtljdkclbmmglpaaGreatDoor
abbrev errV (s : ByteArray) (c : Int) : Value := .iface 112 (.agg #[.string s, .iface 110 (.agg #[.int .i64 c])])
end Go.Proofs.YtljdkclbmmglpaaGreatDoor
