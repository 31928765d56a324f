/-
  An error of the program's: a refusal, wrapped once.
-/
import Derived.Test.YtmejmpdljckfgaaDoorNums
namespace Go.Proofs.YtmejmpdljckfgaaDoor
abbrev errV (s : ByteArray) (c : Int) : Value := .iface 83 (.agg #[.string s, .iface 79 (.agg #[.int .i64 c])])
end Go.Proofs.YtmejmpdljckfgaaDoor
