/-
  An error of the program's: a refusal, wrapped once.
-/
import Derived.Test.YtjmnehlgefpheaaDoorNums
namespace Go.Proofs.YtjmnehlgefpheaaDoor
abbrev errV (s : ByteArray) (c : Int) : Value := .iface 72 (.agg #[.string s, .iface 68 (.agg #[.int .i64 c])])
end Go.Proofs.YtjmnehlgefpheaaDoor
