/-
  The law FnExactDayRight.
-/
import Derived.Test.YtmfokilpfbcicaaDoorDyEx
import Derived.Test.YtmfokilpfbcicaaDoorDyS1
import Derived.Test.YtmfokilpfbcicaaDoorDyI2
import Derived.Test.YtmfokilpfbcicaaDoorDyIn
namespace Go.Proofs.YtmfokilpfbcicaaDoor
open Go.RowKit Go.Deep

/-- What stands in a law over a day: its own block, the block of the day that was handed to the program, its lists, the old memory, and more. -/
structure DL6 (w : World) (n : Dy.Day) (la : Option Addr) (lk : Nat) (fa : Option Addr) (fk : Nat) (wa : Option Addr) (wk : Nat) (X B gl gf gw : Nat) (P : World → Prop) (W : World) : Prop where
  ra : W.rowIs w.heap.size 25 6 (rowN (dyL n la lk fa fk wa wk))
  rx : W.rowIs X 32 6 (rowN (dyL n (some ⟨gl, 0, none⟩) n.mn (some ⟨gf, 0, none⟩) n.wn (some ⟨gw, 0, none⟩) n.pn))
  kx : DyBlk n B gl gf gw W
  old : Below w.heap.size w W
  p : P W
/-- It lasts. -/
def DLasts (P : World → Prop) : Prop := ∀ W W', Below W.heap.size W W' → P W → P W'
theorem DL6.below {w : World} {n : Dy.Day} {la : Option Addr} {lk : Nat} {fa : Option Addr} {fk : Nat} {wa : Option Addr} {wk : Nat} {X B gl gf gw : Nat} {P : World → Prop} {W W' : World} (hP : DLasts P) (h : DL6 w n la lk fa fk wa wk X B gl gf gw P W) (hb : Below W.heap.size W W') : DL6 w n la lk fa fk wa wk X B gl gf gw P W' :=
  ⟨nrow_below h.ra hb, nrow_below h.rx hb, h.kx.below hb, h.old.trans (hb.mono h.old.size), hP _ _ hb h.p⟩
theorem dlasts_true : DLasts (fun _ => True) := fun _ _ _ _ => trivial
end Go.Proofs.YtmfokilpfbcicaaDoor
