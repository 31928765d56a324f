/-
  An error of the program's: a refusal, wrapped once.
-/
import Derived.Test.YtglbonfklakadaaDoorNums
namespace Go.Proofs.YtglbonfklakadaaDoor
abbrev errV (s : ByteArray) (c : Int) : Value := .iface 69 (.agg #[.string s, .iface 65 (.agg #[.int .i64 c])])
end Go.Proofs.YtglbonfklakadaaDoor
