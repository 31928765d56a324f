/-
  An error of the program's: a refusal, wrapped once.
-/
import Derived.Test.YtganlipebndeoaaDoorNums
namespace Go.Proofs.YtganlipebndeoaaDoor
abbrev errV (s : ByteArray) (c : Int) : Value := .iface 70 (.agg #[.string s, .iface 64 (.agg #[.int .i64 c])])
end Go.Proofs.YtganlipebndeoaaDoor
