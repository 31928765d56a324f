/-
  Plans as they lie in memory: rows of three numbers, sources, homes.
-/
import Derived.Test.YtogfjomfhenhfaaGreatDoorNtMem
namespace Go.Proofs.YtogfjomfhenhfaaGreatDoor
open Go.RowKit Go.Deep

namespace Pl
/-- A plan: its rows (three numbers each), its sources, the homes of its places. -/
structure Plan where
  rn : Nat
  R : Nat → Int
  sn : Nat
  S : Nat → Int
  hn : Nat
  H : Nat → Int
end Pl
/-- The value of a plan. -/
abbrev plV (n : Pl.Plan) (la : Option Addr) (lk : Nat) (fa : Option Addr) (fk : Nat) (wa : Option Addr) (wk : Nat) : Value := .agg #[.slice la n.rn lk, .slice fa n.sn fk, .slice wa n.hn wk]
abbrev plL (n : Pl.Plan) (la : Option Addr) (lk : Nat) (fa : Option Addr) (fk : Nat) (wa : Option Addr) (wk : Nat) : List Value := [.slice la n.rn lk, .slice fa n.sn fk, .slice wa n.hn wk]
structure PlAt (n : Pl.Plan) (la fa wa : Option Addr) (w : World) : Prop where
  l : IsAt la (n.rn * 3) n.R w
  f : IsAt fa (n.sn) n.S w
  w : IsAt wa n.hn n.H w
theorem PlAt.below {n : Pl.Plan} {la fa wa : Option Addr} {w w' : World} (h : PlAt n la fa wa w) (hb : Below w.heap.size w w') : PlAt n la fa wa w' := ⟨h.l.below hb, h.f.below hb, h.w.below hb⟩
structure PlIn (n : Pl.Plan) (la fa wa : Option Addr) (w : World) : Prop where
  l : IsIn la (n.rn * 3) n.R w
  f : IsIn fa (n.sn) n.S w
  w : IsIn wa n.hn n.H w
theorem PlIn.below {n : Pl.Plan} {la fa wa : Option Addr} {w w' : World} (h : PlIn n la fa wa w) (hb : Below w.heap.size w w') : PlIn n la fa wa w' := ⟨h.l.below hb, h.f.below hb, h.w.below hb⟩
/-- What stands in a call that was handed a plan: its block, the lists, the old memory. -/
structure PlS (T : TypeId) (n : Pl.Plan) (la : Option Addr) (lk : Nat) (fa : Option Addr) (fk : Nat) (wa : Option Addr) (wk : Nat) (w W : World) : Prop where
  row : W.rowIs w.heap.size T 3 (rowN (plL n la lk fa fk wa wk))
  at_ : PlAt n la fa wa W
  old : Below w.heap.size w W
theorem PlS.below {T : TypeId} {n : Pl.Plan} {la : Option Addr} {lk : Nat} {fa : Option Addr} {fk : Nat} {wa : Option Addr} {wk : Nat} {w W W' : World} (h : PlS T n la lk fa fk wa wk w W) (hb : Below W.heap.size W W') : PlS T n la lk fa fk wa wk w W' := ⟨nrow_below h.row hb, h.at_.below hb, h.old.trans (hb.mono h.old.size)⟩
theorem PlS.alloc {T : TypeId} {n : Pl.Plan} {la : Option Addr} {lk : Nat} {fa : Option Addr} {fk : Nat} {wa : Option Addr} {wk : Nat} {w W : World} (h : PlS T n la lk fa fk wa wk w W) (o : Obj) : PlS T n la lk fa fk wa wk w (W.alloc o) := h.below (nbel_alloc W o)
theorem PlS.drew {T : TypeId} {n : Pl.Plan} {la : Option Addr} {lk : Nat} {fa : Option Addr} {fk : Nat} {wa : Option Addr} {wk : Nat} {w W : World} (h : PlS T n la lk fa fk wa wk w W) : PlS T n la lk fa fk wa wk w W.drew := h.below (Below.refl _ _).drew
theorem PlS.drewN {T : TypeId} {n : Pl.Plan} {la : Option Addr} {lk : Nat} {fa : Option Addr} {fk : Nat} {wa : Option Addr} {wk : Nat} {w W : World} (h : PlS T n la lk fa fk wa wk w W) (m : Nat) : PlS T n la lk fa fk wa wk w (W.drewN m) := h.below (ndrewN (Below.refl _ _) m)
theorem PlS.new (T : TypeId) {n : Pl.Plan} {la : Option Addr} {lk : Nat} {fa : Option Addr} {fk : Nat} {wa : Option Addr} {wk : Nat} {w : World} (h : PlAt n la fa wa w) : PlS T n la lk fa fk wa wk w (w.alloc (.cells #[.slice la n.rn lk, .slice fa n.sn fk, .slice wa n.hn wk] T)) :=
  ⟨rowN_alloc w (plL n la lk fa fk wa wk) T, h.below (nbel_alloc _ _), nbel_alloc _ _⟩
/-- What a test of the sizes tells. -/
def PlSmall (n : Pl.Plan) : Prop := n.rn ≤ 1048576 ∧ n.sn ≤ 1048576 ∧ n.hn ≤ 1048576
end Go.Proofs.YtogfjomfhenhfaaGreatDoor
