/-
  An error of the program's: a refusal, wrapped once.
-/
import Derived.Test.YtojlclnlompobaaGreatDoorNums
namespace Go.Proofs.YtojlclnlompobaaGreatDoor
abbrev errV (s : ByteArray) (c : Int) : Value := .iface 102 (.agg #[.string s, .iface 100 (.agg #[.int .i64 c])])
end Go.Proofs.YtojlclnlompobaaGreatDoor
