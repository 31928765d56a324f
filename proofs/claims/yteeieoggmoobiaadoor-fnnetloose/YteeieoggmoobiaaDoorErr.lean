/-
  An error of the program's: a refusal, wrapped once.
-/
import Derived.Test.YteeieoggmoobiaaDoorNums
namespace Go.Proofs.YteeieoggmoobiaaDoor
abbrev errV (s : ByteArray) (c : Int) : Value := .iface 79 (.agg #[.string s, .iface 77 (.agg #[.int .i64 c])])
end Go.Proofs.YteeieoggmoobiaaDoor
