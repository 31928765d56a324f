/-
  An error of the program's: a refusal, wrapped once.
-/
import Derived.Test.YtgkdnpnnmmpnmaaGreatDoorNums
namespace Go.Proofs.YtgkdnpnnmmpnmaaGreatDoor
abbrev errV (s : ByteArray) (c : Int) : Value := .iface 135 (.agg #[.string s, .iface 133 (.agg #[.int .i64 c])])
end Go.Proofs.YtgkdnpnnmmpnmaaGreatDoor
