/-
  The contracts of the model's SplitBatch and SettleBatch.
-/
import Derived.Test.YtcjeieagpcphjaaDoorWkSt
namespace Go.Proofs.YtcjeieagpcphjaaDoor
open Go.RowKit Go.Deep

theorem made0' {w : World} {g : Nat} (e : w.heap.size = g) (n : Nat) : (w.alloc (mkO n)).rowIs g 2 n (fun _ => .int .i64 0) := by subst e; exact World.rowIs_made w (.int .i64 0) n 2
end Go.Proofs.YtcjeieagpcphjaaDoor
