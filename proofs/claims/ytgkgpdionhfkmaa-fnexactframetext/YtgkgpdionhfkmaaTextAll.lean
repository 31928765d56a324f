/-
  The law FnExactFrameText of the program.
-/
import Derived.Test.YtgkgpdionhfkmaaFrEx
import Derived.Test.YtgkgpdionhfkmaaFrI2
namespace Go.Proofs.Ytgkgpdionhfkmaa
open Go.RowKit
theorem text_all (u k q : Int) (b : ByteArray) (hb : b.size ≤ 1048576) (w : World) :
    Calls Try.prog 5 #[.agg #[.int .i64 u, .int .i64 k, .int .i64 q, .string b]] w fun e w' => e = .returned (.bool true) ∧ Below w.heap.size w w' := by
  cases h : Fr.rightB u k q b.size
  · exact text_law u k q b _ hb (fun w => specFrText_no u k q b w h) (fun w => implFrText_no u k q b w h) w
  · exact text_law u k q b _ hb (fun w => specFrText_yes u k q b w h) (fun w => implFrText_yes u k q b w h) w
end Go.Proofs.Ytgkgpdionhfkmaa
