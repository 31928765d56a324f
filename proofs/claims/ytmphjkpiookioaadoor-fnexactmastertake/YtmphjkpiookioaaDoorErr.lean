/-
  An error of the program's: a refusal, wrapped once.
-/
import Derived.Test.YtmphjkpiookioaaDoorNums
namespace Go.Proofs.YtmphjkpiookioaaDoor
abbrev errV (s : ByteArray) (c : Int) : Value := .iface 98 (.agg #[.string s, .iface 96 (.agg #[.int .i64 c])])
end Go.Proofs.YtmphjkpiookioaaDoor
