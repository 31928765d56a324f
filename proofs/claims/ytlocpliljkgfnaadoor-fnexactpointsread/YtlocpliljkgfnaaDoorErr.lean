/-
  An error of the program's: a refusal, wrapped once.
-/
import Derived.Test.YtlocpliljkgfnaaDoorNums
namespace Go.Proofs.YtlocpliljkgfnaaDoor
abbrev errV (s : ByteArray) (c : Int) : Value := .iface 63 (.agg #[.string s, .iface 61 (.agg #[.int .i64 c])])
end Go.Proofs.YtlocpliljkgfnaaDoor
