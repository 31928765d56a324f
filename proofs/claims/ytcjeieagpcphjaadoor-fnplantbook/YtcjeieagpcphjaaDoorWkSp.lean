/-
  The contracts of the program's splitting and settling of a batch.
-/
import Derived.Test.YtcjeieagpcphjaaDoorWkTk
import Derived.Test.YtcjeieagpcphjaaDoorWkMk
import Derived.Test.YtcjeieagpcphjaaDoorWkErr
namespace Go.Proofs.YtcjeieagpcphjaaDoor
open Go.RowKit Go.Deep

/-- Two batches and a code, as a value. -/
abbrev paV (A : Wk.PA) (ax : Option Addr) (kx : Nat) (ay : Option Addr) (ky : Nat) : Value := .agg #[.int .i64 A.x.wt, .slice ax A.x.n kx, .int .i64 A.y.wt, .slice ay A.y.n ky, .int .i64 A.c]
/-- How a call ends that tells two batches and a code. -/
def PaEnd (lo : Nat) (A : Wk.PA) (e : Ending) (W : World) : Prop := ∃ ax kx ay ky, e = .returned (paV A ax kx ay ky) ∧ TwM lo W.heap.size ax A.x.n kx A.x.f ay A.y.n ky A.y.f W
theorem PaEnd.bad (lo : Nat) (c : Int) (W : World) : PaEnd lo (Wk.bad c) (.returned (.agg #[.int .i64 0, .slice none 0 0, .int .i64 0, .slice none 0 0, .int .i64 c])) W := ⟨none, 0, none, 0, rfl, TwM.nil _ _ _⟩
theorem PaEnd.two {lo : Nat} {A : Wk.PA} {W : World} {g1 g2 : Nat} (h1 : InBlk g1 A.x.n A.x.f W) (h2 : InBlk g2 A.y.n A.y.f W) (hl : lo ≤ g1 ∧ lo ≤ g2 ∧ g1 ≠ g2) (kx ky : Nat) : PaEnd lo A (.returned (paV A (some ⟨g1, 0, none⟩) kx (some ⟨g2, 0, none⟩) ky)) W :=
  ⟨_, _, _, _, rfl, Or.inr ⟨g1, rfl, ⟨hl.1, h1.lt⟩, h1⟩, Or.inr ⟨g2, rfl, ⟨hl.2.1, h2.lt⟩, h2⟩, fun g e1 e2 => by
    unfold atP at e1 e2; simp at e1 e2; omega⟩
/-- The boxes at the start. -/
structure SpB (w : World) (wt : Int) (a : Option Addr) (n k : Nat) (x : Value) (tx : TypeId) (W : World) : Prop where
  box : W.rowIs w.heap.size 28 2 (r2 (.int .i64 wt) (.slice a n k))
  b2 : W.rowIs (w.heap.size + 1) tx 1 (fun _ => x)
  o4 : W.rowIs (w.heap.size + 1 + 1) 28 2 (r2 (.int .i64 0) (.slice none 0 0))
  o5 : W.rowIs (w.heap.size + 1 + 1 + 1) 28 2 (r2 (.int .i64 0) (.slice none 0 0))
  bel : Below w.heap.size w W
theorem SpB.below {w : World} {wt : Int} {a : Option Addr} {n k : Nat} {x : Value} {tx : TypeId} {W W' : World} (h : SpB w wt a n k x tx W) (hb : Below W.heap.size W W') : SpB w wt a n k x tx W' := ⟨wrow_below h.box hb, wrow_below h.b2 hb, wrow_below h.o4 hb, wrow_below h.o5 hb, h.bel.trans (hb.mono h.bel.size)⟩
theorem row1' {w : World} {g : Nat} (e : w.heap.size = g) (a : Value) (t : TypeId) : (w.alloc (.cells #[a] t)).rowIs g t 1 (fun _ => a) := by
  subst e
  refine ⟨_, blk_alloc_new _ _, rfl, fun i hi => ?_⟩
  have : i = 0 := by omega
  subst this; rfl
theorem spB_of (w : World) (wt : Int) (a : Option Addr) (n k : Nat) (x : Value) (tx : TypeId) : SpB w wt a n k x tx ((((w.alloc (.cells #[.int .i64 wt, .slice a n k] 28)).alloc (.cells #[x] tx)).alloc (.cells #[.int .i64 0, .slice none 0 0] 28)).alloc (.cells #[.int .i64 0, .slice none 0 0] 28)) := by
  refine ⟨?_, ?_, ?_, ?_, ?_⟩
  · exact wrow_below (wrow_below (wrow_below (row2 w _ _ _) (bel_alloc _ _)) (bel_alloc _ _)) (bel_alloc _ _)
  · exact wrow_below (wrow_below (row1' (by simp) _ _) (bel_alloc _ _)) (bel_alloc _ _)
  · exact wrow_below (row2' (by simp) _ _ _) (bel_alloc _ _)
  · exact row2' (by simp) _ _ _
  · exact ((((Below.refl _ w).alloc (Nat.le_refl _) _).alloc (by simp) _).alloc (by simp; omega) _).alloc (by simp; omega) _
end Go.Proofs.YtcjeieagpcphjaaDoor
