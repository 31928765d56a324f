/-
  An error of the program's: a refusal, wrapped once.
-/
import Derived.Test.YtaebmfengmmpjaaDoorNums
namespace Go.Proofs.YtaebmfengmmpjaaDoor
abbrev errV (s : ByteArray) (c : Int) : Value := .iface 54 (.agg #[.string s, .iface 50 (.agg #[.int .i64 c])])
end Go.Proofs.YtaebmfengmmpjaaDoor
