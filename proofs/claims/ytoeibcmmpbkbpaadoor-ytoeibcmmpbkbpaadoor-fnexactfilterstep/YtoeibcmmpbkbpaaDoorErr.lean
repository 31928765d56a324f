/-
  An error of the program's: a refusal, wrapped once.
-/
import Derived.Test.YtoeibcmmpbkbpaaDoorNums
namespace Go.Proofs.YtoeibcmmpbkbpaaDoor
abbrev errV (s : ByteArray) (c : Int) : Value := .iface 116 (.agg #[.string s, .iface 112 (.agg #[.int .i64 c])])
end Go.Proofs.YtoeibcmmpbkbpaaDoor
