/-
  Days as they lie in memory: modes of two numbers, wants, prices, three numbers.
-/
import Derived.Test.YtmfokilpfbcicaaDoorNtMem
import Derived.Test.YtmfokilpfbcicaaDoorMnMem
namespace Go.Proofs.YtmfokilpfbcicaaDoor
open Go.RowKit Go.Deep

namespace Dy
/-- A day: its modes (two numbers each), its wants, its prices, its tank, and between what it must stay. -/
structure Day where
  mn : Nat
  M : Nat → Int
  wn : Nat
  W : Nat → Int
  pn : Nat
  P : Nat → Int
  tank : Int
  low : Int
  high : Int
end Dy
/-- The value of a day. -/
abbrev dyV (n : Dy.Day) (la : Option Addr) (lk : Nat) (fa : Option Addr) (fk : Nat) (wa : Option Addr) (wk : Nat) : Value := .agg #[.slice la n.mn lk, .slice fa n.wn fk, .slice wa n.pn wk, .int .i64 n.tank, .int .i64 n.low, .int .i64 n.high]
abbrev dyL (n : Dy.Day) (la : Option Addr) (lk : Nat) (fa : Option Addr) (fk : Nat) (wa : Option Addr) (wk : Nat) : List Value := [.slice la n.mn lk, .slice fa n.wn fk, .slice wa n.pn wk, .int .i64 n.tank, .int .i64 n.low, .int .i64 n.high]
structure DyAt (n : Dy.Day) (la fa wa : Option Addr) (w : World) : Prop where
  l : IsAt la (n.mn * 2) n.M w
  f : IsAt fa (n.wn) n.W w
  w : IsAt wa n.pn n.P w
theorem DyAt.below {n : Dy.Day} {la fa wa : Option Addr} {w w' : World} (h : DyAt n la fa wa w) (hb : Below w.heap.size w w') : DyAt n la fa wa w' := ⟨h.l.below hb, h.f.below hb, h.w.below hb⟩
structure DyIn (n : Dy.Day) (la fa wa : Option Addr) (w : World) : Prop where
  l : IsIn la (n.mn * 2) n.M w
  f : IsIn fa (n.wn) n.W w
  w : IsIn wa n.pn n.P w
theorem DyIn.below {n : Dy.Day} {la fa wa : Option Addr} {w w' : World} (h : DyIn n la fa wa w) (hb : Below w.heap.size w w') : DyIn n la fa wa w' := ⟨h.l.below hb, h.f.below hb, h.w.below hb⟩
/-- A day in three blocks of the call's own. -/
structure DyBlk (n : Dy.Day) (B gl gf gw : Nat) (w : World) : Prop where
  l : IsBlk 46 gl (n.mn * 2) n.M w
  f : IsBlk 2 gf (n.wn) n.W w
  w : IsBlk 2 gw n.pn n.P w
  lo : B ≤ gl ∧ B ≤ gf ∧ B ≤ gw
  ne : gl ≠ gf ∧ gl ≠ gw ∧ gf ≠ gw
theorem DyBlk.below {n : Dy.Day} {B gl gf gw : Nat} {w w' : World} (h : DyBlk n B gl gf gw w) (hb : Below w.heap.size w w') : DyBlk n B gl gf gw w' := ⟨h.l.below hb, h.f.below hb, h.w.below hb, h.lo, h.ne⟩
theorem DyBlk.at_ {n : Dy.Day} {B gl gf gw : Nat} {w : World} (h : DyBlk n B gl gf gw w) : DyAt n (some ⟨gl, 0, none⟩) (some ⟨gf, 0, none⟩) (some ⟨gw, 0, none⟩) w := ⟨h.l.at_, h.f.at_, h.w.at_⟩
/-- What stands in a call that was handed a day: its block, the lists, the old memory. -/
structure DyS (T : TypeId) (n : Dy.Day) (la : Option Addr) (lk : Nat) (fa : Option Addr) (fk : Nat) (wa : Option Addr) (wk : Nat) (w W : World) : Prop where
  row : W.rowIs w.heap.size T 6 (rowN (dyL n la lk fa fk wa wk))
  at_ : DyAt n la fa wa W
  old : Below w.heap.size w W
theorem DyS.below {T : TypeId} {n : Dy.Day} {la : Option Addr} {lk : Nat} {fa : Option Addr} {fk : Nat} {wa : Option Addr} {wk : Nat} {w W W' : World} (h : DyS T n la lk fa fk wa wk w W) (hb : Below W.heap.size W W') : DyS T n la lk fa fk wa wk w W' := ⟨nrow_below h.row hb, h.at_.below hb, h.old.trans (hb.mono h.old.size)⟩
theorem DyS.alloc {T : TypeId} {n : Dy.Day} {la : Option Addr} {lk : Nat} {fa : Option Addr} {fk : Nat} {wa : Option Addr} {wk : Nat} {w W : World} (h : DyS T n la lk fa fk wa wk w W) (o : Obj) : DyS T n la lk fa fk wa wk w (W.alloc o) := h.below (nbel_alloc W o)
theorem DyS.drew {T : TypeId} {n : Dy.Day} {la : Option Addr} {lk : Nat} {fa : Option Addr} {fk : Nat} {wa : Option Addr} {wk : Nat} {w W : World} (h : DyS T n la lk fa fk wa wk w W) : DyS T n la lk fa fk wa wk w W.drew := h.below (Below.refl _ _).drew
theorem DyS.drewN {T : TypeId} {n : Dy.Day} {la : Option Addr} {lk : Nat} {fa : Option Addr} {fk : Nat} {wa : Option Addr} {wk : Nat} {w W : World} (h : DyS T n la lk fa fk wa wk w W) (m : Nat) : DyS T n la lk fa fk wa wk w (W.drewN m) := h.below (ndrewN (Below.refl _ _) m)
theorem DyS.new (T : TypeId) {n : Dy.Day} {la : Option Addr} {lk : Nat} {fa : Option Addr} {fk : Nat} {wa : Option Addr} {wk : Nat} {w : World} (h : DyAt n la fa wa w) : DyS T n la lk fa fk wa wk w (w.alloc (.cells #[.slice la n.mn lk, .slice fa n.wn fk, .slice wa n.pn wk, .int .i64 n.tank, .int .i64 n.low, .int .i64 n.high] T)) :=
  ⟨rowN_alloc w (dyL n la lk fa fk wa wk) T, h.below (nbel_alloc _ _), nbel_alloc _ _⟩
/-- What a test of the sizes tells. -/
def DySmall (n : Dy.Day) : Prop := n.mn ≤ 1048576 ∧ n.wn ≤ 1048576 ∧ n.pn ≤ 1048576
end Go.Proofs.YtmfokilpfbcicaaDoor
