/-
  An error of the program's: a refusal, wrapped once.
-/
import Derived.Test.YtjcncfkidnggaaaGreatDoorNums
namespace Go.Proofs.YtjcncfkidnggaaaGreatDoor
abbrev errV (s : ByteArray) (c : Int) : Value := .iface 92 (.agg #[.string s, .iface 90 (.agg #[.int .i64 c])])
end Go.Proofs.YtjcncfkidnggaaaGreatDoor
