/-
  The law FnExactFramesOf of the program.
-/
import Derived.Test.YtgkgpdionhfkmaaDoorScanAns
import Derived.Test.YtgkgpdionhfkmaaDoorFrI9
namespace Go.Proofs.YtgkgpdionhfkmaaDoor
open Go.RowKit
theorem scan_all (s : ByteArray) (hs : s.size ≤ 1048576) (w : World) (hg : Et w) :
    Calls Tryd.prog 6 #[.string s] w fun e w' => e = .returned (.bool true) ∧ Below w.heap.size w w' := by
  by_cases h : s.size ≤ 20000
  · exact scan_law s _ _ _ _ hs (by have := Fr.scan_len s.data.toList; have e : s.data.toList.length = s.size := rfl; omega) Et (fun h hb => h.below hb) (specAns Et s h) (fun w hx => implScan_any s h w hx) w hg
  · exact scan_law s [] 0 0 2 hs (by simp) Et (fun h hb => h.below hb) (specAns_over Et s (by omega)) (fun w hx => implScan_over s (by omega) w hx) w hg
end Go.Proofs.YtgkgpdionhfkmaaDoor
