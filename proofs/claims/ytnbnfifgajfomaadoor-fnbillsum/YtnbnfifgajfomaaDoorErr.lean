/-
  An error of the program's: a refusal, wrapped once.
-/
import Derived.Test.YtnbnfifgajfomaaDoorNums
namespace Go.Proofs.YtnbnfifgajfomaaDoor
abbrev errV (s : ByteArray) (c : Int) : Value := .iface 105 (.agg #[.string s, .iface 103 (.agg #[.int .i64 c])])
end Go.Proofs.YtnbnfifgajfomaaDoor
