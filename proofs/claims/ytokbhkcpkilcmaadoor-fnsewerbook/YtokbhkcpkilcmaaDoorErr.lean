/-
  An error of the program's: a refusal, wrapped once.
-/
import Derived.Test.YtokbhkcpkilcmaaDoorNums
namespace Go.Proofs.YtokbhkcpkilcmaaDoor
abbrev errV (s : ByteArray) (c : Int) : Value := .iface 66 (.agg #[.string s, .iface 62 (.agg #[.int .i64 c])])
end Go.Proofs.YtokbhkcpkilcmaaDoor
