/-
  An error of the program's: a refusal, wrapped once.
-/
import Derived.Test.YtiaeobocenanlaaDoorNums
namespace Go.Proofs.YtiaeobocenanlaaDoor
end Go.Proofs.YtiaeobocenanlaaDoor
