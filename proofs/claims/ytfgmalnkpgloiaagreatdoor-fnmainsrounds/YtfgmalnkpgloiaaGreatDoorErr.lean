/-
  An error of the program's: a refusal, wrapped once.
-/
import Derived.Test.YtfgmalnkpgloiaaGreatDoorNums
namespace Go.Proofs.YtfgmalnkpgloiaaGreatDoor
abbrev errV (s : ByteArray) (c : Int) : Value := .iface 107 (.agg #[.string s, .iface 105 (.agg #[.int .i64 c])])
end Go.Proofs.YtfgmalnkpgloiaaGreatDoor
