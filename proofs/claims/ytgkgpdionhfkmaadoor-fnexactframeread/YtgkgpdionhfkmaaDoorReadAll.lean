/-
  The law FnExactFrameRead of the program.
-/
import Derived.Test.YtgkgpdionhfkmaaDoorFrEx
import Derived.Test.YtgkgpdionhfkmaaDoorFrI7
namespace Go.Proofs.YtgkgpdionhfkmaaDoor
open Go.RowKit
theorem read_all (s : ByteArray) (hs : s.size ≤ 1048576) (w : World) (hg : Et w) :
    Calls Tryd.prog 5 #[.string s] w fun e w' => e = .returned (.bool true) ∧ Below w.heap.size w w' := by
  by_cases h : s.size ≤ 20000
  · exact read_law s _ hs (fun w => specFrRead_any s h w) Et (fun h hb => h.below hb) (fun w hx => implFrRead_any s h w hx) w hg
  · exact read_law s _ hs (fun w => specFrRead_over s (by omega) w) Et (fun h hb => h.below hb) (fun w hx => implFrRead_over s (by omega) w hx) w hg
end Go.Proofs.YtgkgpdionhfkmaaDoor
