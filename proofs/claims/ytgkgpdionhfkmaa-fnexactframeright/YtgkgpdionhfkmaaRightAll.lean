/-
  The law FnExactFrameRight of the program.
-/
import Derived.Test.YtgkgpdionhfkmaaFrEx
import Derived.Test.YtgkgpdionhfkmaaFrI2
namespace Go.Proofs.Ytgkgpdionhfkmaa
open Go.RowKit
theorem right_all (u k q : Int) (b : ByteArray) (hb : b.size ≤ 1048576) (w : World) :
    Calls Try.prog 3 #[.agg #[.int .i64 u, .int .i64 k, .int .i64 q, .string b]] w fun e w' => e = .returned (.bool true) ∧ Below w.heap.size w w' :=
  right_law u k q b _ hb (fun w => specFrRight_any u k q b w) (fun w => implFrRight u k q b w) w
end Go.Proofs.Ytgkgpdionhfkmaa
