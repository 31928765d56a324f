/-
  What lasts in a law over a program.
-/
import Derived.Test.YtiaeobocenanlaaDoorPgEx
import Derived.Test.YtiaeobocenanlaaDoorPgIn
namespace Go.Proofs.YtiaeobocenanlaaDoor
open Go.RowKit Go.Deep

/-- What stands in a law over a program: its own block, the block of the program that was handed to the program, its lists, the old memory, and more. -/
structure PGL (w : World) (n : Pg.Prog) (la : Option Addr) (lk : Nat) (fa : Option Addr) (fk : Nat) (wa : Option Addr) (wk : Nat) (X B gl gf gw : Nat) (P : World → Prop) (W : World) : Prop where
  ra : W.rowIs w.heap.size 26 3 (rowN (pgL n la lk fa fk wa wk))
  rx : W.rowIs X 32 3 (rowN (pgL n (some ⟨gl, 0, none⟩) n.bn (some ⟨gf, 0, none⟩) n.on (some ⟨gw, 0, none⟩) n.nn))
  kx : PgBlk n B gl gf gw W
  old : Below w.heap.size w W
  p : P W
/-- It lasts. -/
def LastsG (P : World → Prop) : Prop := ∀ W W', Below W.heap.size W W' → P W → P W'
theorem PGL.below {w : World} {n : Pg.Prog} {la : Option Addr} {lk : Nat} {fa : Option Addr} {fk : Nat} {wa : Option Addr} {wk : Nat} {X B gl gf gw : Nat} {P : World → Prop} {W W' : World} (hP : LastsG P) (h : PGL w n la lk fa fk wa wk X B gl gf gw P W) (hb : Below W.heap.size W W') : PGL w n la lk fa fk wa wk X B gl gf gw P W' :=
  ⟨nrow_below h.ra hb, nrow_below h.rx hb, h.kx.below hb, h.old.trans (hb.mono h.old.size), hP _ _ hb h.p⟩
theorem lastsg_true : LastsG (fun _ => True) := fun _ _ _ _ => trivial
end Go.Proofs.YtiaeobocenanlaaDoor
