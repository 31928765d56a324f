/-
  An error of the program's: a refusal, wrapped once.
-/
import Derived.Test.YtjcdkaojdpcagaaDoorNums
namespace Go.Proofs.YtjcdkaojdpcagaaDoor
abbrev errV (s : ByteArray) (c : Int) : Value := .iface 64 (.agg #[.string s, .iface 62 (.agg #[.int .i64 c])])
end Go.Proofs.YtjcdkaojdpcagaaDoor
