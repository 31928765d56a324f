/-
  An error of the program's: a refusal, wrapped once.
-/
import Derived.Test.YtkaokfmaecdkiaaDoorNums
namespace Go.Proofs.YtkaokfmaecdkiaaDoor
abbrev errV (s : ByteArray) (c : Int) : Value := .iface 78 (.agg #[.string s, .iface 76 (.agg #[.int .i64 c])])
end Go.Proofs.YtkaokfmaecdkiaaDoor
