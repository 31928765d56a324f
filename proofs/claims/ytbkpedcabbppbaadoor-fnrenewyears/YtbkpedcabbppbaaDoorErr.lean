/-
  An error of the program's: a refusal, wrapped once.
-/
import Derived.Test.YtbkpedcabbppbaaDoorNums
namespace Go.Proofs.YtbkpedcabbppbaaDoor
abbrev errV (s : ByteArray) (c : Int) : Value := .iface 88 (.agg #[.string s, .iface 86 (.agg #[.int .i64 c])])
end Go.Proofs.YtbkpedcabbppbaaDoor
