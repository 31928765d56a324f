/-
  An error of the program's: a refusal, wrapped once.
-/
import Derived.Test.YtlipgnjknfmikaaDoorNums
namespace Go.Proofs.YtlipgnjknfmikaaDoor
abbrev errV (s : ByteArray) (c : Int) : Value := .iface 47 (.agg #[.string s, .iface 45 (.agg #[.int .i64 c])])
end Go.Proofs.YtlipgnjknfmikaaDoor
