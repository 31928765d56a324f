/-
  An error of the program's: a refusal, wrapped once.
-/
import Derived.Test.YtgkgpdionhfkmaaDoorNums
namespace Go.Proofs.YtgkgpdionhfkmaaDoor
abbrev errV (s : ByteArray) (c : Int) : Value := .iface 67 (.agg #[.string s, .iface 65 (.agg #[.int .i64 c])])
end Go.Proofs.YtgkgpdionhfkmaaDoor
