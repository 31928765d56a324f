/-
  The place that an error names.
-/
import Derived.Test.YtfgmalnkpgloiaaGreatDoorMnAs
namespace Go.Proofs.YtfgmalnkpgloiaaGreatDoor
open Go.RowKit Go.Deep

set_option maxRecDepth 100000 in
set_option maxHeartbeats 4000000 in
theorem placeOf_any (y : Value) (a : Int) (hS : StFinds y a) (w : World) (hg : Et w) :
    Calls Tryz.prog 64 #[.iface 107 y] w fun e w' => e = .returned (.int .i64 a) ∧ Below w.heap.size w w' := by
  obtain ⟨W, hW⟩ : ∃ W, W = w.alloc (.cells #[.int .i64 0, .nilIface] 114) := ⟨_, rfl⟩
  have B0 : Hid (Below w.heap.size w W) := by show Below _ _ _; rw [hW]; exact nbel_alloc _ _
  have L0 : Hid (W.rowIs w.heap.size 114 2 (rowN [.int .i64 0, .nilIface])) := by show World.rowIs _ _ _ _ _; rw [hW]; exact rowN_alloc w _ _
  have G0 : Hid (Et W) := hg.below B0.out
  have HW := Lib.hid hW
  have HST := Lib.hid hS
  clear hW hg hS
  go_enter Tryz.func64, Tryz.ntmps64
  go_wp2_with fail
  rw [← HW.out]
  refine (asSTop y a HST.out w.heap.size _ G0.out (L0.out.cell (by omega)) (L0.out.frozen 0) (L0.out.cell (by omega)) (L0.out.frozen 1)).mono ?_
  rintro e w1 ⟨⟨bb, rfl⟩, hc, hb1⟩
  have B1 : Hid (Below w.heap.size w w1) := B0.out.trans (hb1.mono (by omega))
  clear hb1 B0 L0 G0
  go_wp2_with fail
  go_ret
  exact ⟨rfl, B1.out⟩
end Go.Proofs.YtfgmalnkpgloiaaGreatDoor
