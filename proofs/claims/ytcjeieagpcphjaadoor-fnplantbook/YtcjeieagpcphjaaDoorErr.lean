/-
  An error of the program's: a refusal, wrapped once.
-/
import Derived.Test.YtcjeieagpcphjaaDoorNums
namespace Go.Proofs.YtcjeieagpcphjaaDoor
abbrev errV (s : ByteArray) (c : Int) : Value := .iface 64 (.agg #[.string s, .iface 60 (.agg #[.int .i64 c])])
end Go.Proofs.YtcjeieagpcphjaaDoor
