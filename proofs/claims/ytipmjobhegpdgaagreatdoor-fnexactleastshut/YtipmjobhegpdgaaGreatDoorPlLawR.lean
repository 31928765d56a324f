/-
  The law FnExactPlanRight.
-/
import Derived.Test.YtipmjobhegpdgaaGreatDoorPlEx
import Derived.Test.YtipmjobhegpdgaaGreatDoorPlS1
import Derived.Test.YtipmjobhegpdgaaGreatDoorPlIn
namespace Go.Proofs.YtipmjobhegpdgaaGreatDoor
open Go.RowKit Go.Deep

/-- What stands in a law over a plan: its own block, the block of the plan that was handed to the program, its lists, the old memory, and more. -/
structure PL (w : World) (n : Pl.Plan) (la : Option Addr) (lk : Nat) (fa : Option Addr) (fk : Nat) (wa : Option Addr) (wk : Nat) (X B gl gf gw : Nat) (P : World → Prop) (W : World) : Prop where
  ra : W.rowIs w.heap.size 25 3 (rowN (plL n la lk fa fk wa wk))
  rx : W.rowIs X 32 3 (rowN (plL n (some ⟨gl, 0, none⟩) n.rn (some ⟨gf, 0, none⟩) n.sn (some ⟨gw, 0, none⟩) n.hn))
  kx : PlBlk n B gl gf gw W
  old : Below w.heap.size w W
  p : P W
/-- It lasts. -/
def Lasts (P : World → Prop) : Prop := ∀ W W', Below W.heap.size W W' → P W → P W'
theorem PL.below {w : World} {n : Pl.Plan} {la : Option Addr} {lk : Nat} {fa : Option Addr} {fk : Nat} {wa : Option Addr} {wk : Nat} {X B gl gf gw : Nat} {P : World → Prop} {W W' : World} (hP : Lasts P) (h : PL w n la lk fa fk wa wk X B gl gf gw P W) (hb : Below W.heap.size W W') : PL w n la lk fa fk wa wk X B gl gf gw P W' :=
  ⟨nrow_below h.ra hb, nrow_below h.rx hb, h.kx.below hb, h.old.trans (hb.mono h.old.size), hP _ _ hb h.p⟩
theorem lasts_true : Lasts (fun _ => True) := fun _ _ _ _ => trivial
end Go.Proofs.YtipmjobhegpdgaaGreatDoor
