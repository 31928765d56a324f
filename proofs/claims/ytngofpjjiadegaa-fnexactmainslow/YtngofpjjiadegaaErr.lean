/-
  An error of the program's: a refusal, wrapped once.
-/
import Derived.Test.YtngofpjjiadegaaNums
namespace Go.Proofs.Ytngofpjjiadegaa
abbrev errV (s : ByteArray) (c : Int) : Value := .iface 90 (.agg #[.string s, .iface 88 (.agg #[.int .i64 c])])
end Go.Proofs.Ytngofpjjiadegaa
