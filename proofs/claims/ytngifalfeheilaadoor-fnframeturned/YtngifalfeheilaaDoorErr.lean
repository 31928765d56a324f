/-
  An error of the program's: a refusal, wrapped once.
-/
import Derived.Test.YtngifalfeheilaaDoorNums
namespace Go.Proofs.YtngifalfeheilaaDoor
abbrev errV (s : ByteArray) (c : Int) : Value := .iface 87 (.agg #[.string s, .iface 85 (.agg #[.int .i64 c])])
end Go.Proofs.YtngifalfeheilaaDoor
