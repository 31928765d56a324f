/-
  An error of the program's: a refusal, wrapped once.
-/
import Derived.Test.YtljdkclbmmglpaaDoorNums
namespace Go.Proofs.YtljdkclbmmglpaaDoor
abbrev errV (s : ByteArray) (c : Int) : Value := .iface 108 (.agg #[.string s, .iface 106 (.agg #[.int .i64 c])])
end Go.Proofs.YtljdkclbmmglpaaDoor
