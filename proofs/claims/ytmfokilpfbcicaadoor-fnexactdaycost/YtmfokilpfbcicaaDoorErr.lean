/-
  An error of the program's: a refusal, wrapped once.
-/
import Derived.Test.YtmfokilpfbcicaaDoorNums
namespace Go.Proofs.YtmfokilpfbcicaaDoor
abbrev errV (s : ByteArray) (c : Int) : Value := .iface 61 (.agg #[.string s, .iface 59 (.agg #[.int .i64 c])])
end Go.Proofs.YtmfokilpfbcicaaDoor
