/-
  An error of the program's: a refusal, wrapped once.
-/
import Derived.Test.YtplghjghecfeoaaDoorNums
namespace Go.Proofs.YtplghjghecfeoaaDoor
abbrev errV (s : ByteArray) (c : Int) : Value := .iface 58 (.agg #[.string s, .iface 54 (.agg #[.int .i64 c])])
end Go.Proofs.YtplghjghecfeoaaDoor
