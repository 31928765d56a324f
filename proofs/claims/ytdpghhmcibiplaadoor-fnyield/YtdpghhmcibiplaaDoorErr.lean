/-
  An error of the program's: a refusal, wrapped once.
-/
import Derived.Test.YtdpghhmcibiplaaDoorNums
namespace Go.Proofs.YtdpghhmcibiplaaDoor
abbrev errV (s : ByteArray) (c : Int) : Value := .iface 101 (.agg #[.string s, .iface 97 (.agg #[.int .i64 c])])
end Go.Proofs.YtdpghhmcibiplaaDoor
