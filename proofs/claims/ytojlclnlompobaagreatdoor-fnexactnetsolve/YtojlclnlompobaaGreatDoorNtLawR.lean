/-
  The law FnExactNetRight.
-/
import Derived.Test.YtojlclnlompobaaGreatDoorNtEx2
import Derived.Test.YtojlclnlompobaaGreatDoorNtS1
import Derived.Test.YtojlclnlompobaaGreatDoorNtIn
namespace Go.Proofs.YtojlclnlompobaaGreatDoor
open Go.RowKit Go.Deep

/-- What stands in a law over a net: its own block, the block of the net that was handed to the program, its lists, the old memory, and more. -/
structure NL (w : World) (n : Nt.Net) (la : Option Addr) (lk : Nat) (fa : Option Addr) (fk : Nat) (wa : Option Addr) (wk : Nat) (X B gl gf gw : Nat) (P : World → Prop) (W : World) : Prop where
  ra : W.rowIs w.heap.size 26 4 (rowN (ntL n la lk fa fk wa wk))
  rx : W.rowIs X 35 4 (rowN (ntL n (some ⟨gl, 0, none⟩) n.ln (some ⟨gf, 0, none⟩) n.fn (some ⟨gw, 0, none⟩) n.wn))
  kx : NtBlk n B gl gf gw W
  old : Below w.heap.size w W
  p : P W
/-- It lasts. -/
def Lasts (P : World → Prop) : Prop := ∀ W W', Below W.heap.size W W' → P W → P W'
theorem NL.below {w : World} {n : Nt.Net} {la : Option Addr} {lk : Nat} {fa : Option Addr} {fk : Nat} {wa : Option Addr} {wk : Nat} {X B gl gf gw : Nat} {P : World → Prop} {W W' : World} (hP : Lasts P) (h : NL w n la lk fa fk wa wk X B gl gf gw P W) (hb : Below W.heap.size W W') : NL w n la lk fa fk wa wk X B gl gf gw P W' :=
  ⟨nrow_below h.ra hb, nrow_below h.rx hb, h.kx.below hb, h.old.trans (hb.mono h.old.size), hP _ _ hb h.p⟩
theorem lasts_true : Lasts (fun _ => True) := fun _ _ _ _ => trivial
end Go.Proofs.YtojlclnlompobaaGreatDoor
