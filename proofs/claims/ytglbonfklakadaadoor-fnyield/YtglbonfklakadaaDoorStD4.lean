/-
  The draw of a store with its flows.
-/
import Derived.Test.YtglbonfklakadaaDoorStD3
namespace Go.Proofs.YtglbonfklakadaaDoor
open Go.RowKit Go.Deep

/-- Numbers of a call's own. -/
def OwnInts (B g n : Nat) (f : Nat → Int) (W : World) : Prop := InBlk g n f W ∧ B ≤ g
theorem il_own {w : World} {sb : Nat} {v : Value} {zs : List Int} {W : World} (h : IL w sb v zs W) : (v = .slice none 0 0 ∧ zs = []) ∨ ∃ g c, v = .slice (some ⟨g, 0, none⟩) zs.length c ∧ OwnInts w.heap.size g zs.length (inList zs) W := by
  rcases own_ints h.1 with h1 | ⟨g, c, e, hg, hb⟩
  · exact Or.inl h1
  · exact Or.inr ⟨g, c, e, hb, hg⟩
/-- A list that was drawn lies in a block (it may be empty). -/
def FlS (B : Nat) (v : Value) (n : Nat) (f : Nat → Int) (W : World) : Prop := ∃ a c, v = .slice a n c ∧ ((n = 0 ∧ a = none ∧ c = 0) ∨ ∃ g, a = some ⟨g, 0, none⟩ ∧ B ≤ g ∧ InBlk g n f W)
theorem fl_of {w : World} {sb : Nat} {v : Value} {zs : List Int} {W : World} (h : IL w sb v zs W) : FlS w.heap.size v zs.length (inList zs) W := by
  rcases own_ints h.1 with ⟨e, h1⟩ | ⟨g, c, e, hg, hb⟩
  · subst h1; exact ⟨none, 0, e, Or.inl ⟨rfl, rfl, rfl⟩⟩
  · exact ⟨_, c, e, Or.inr ⟨g, rfl, hg, hb⟩⟩
theorem FlS.same {B n : Nat} {v : Value} {f : Nat → Int} {W W' : World} (h : FlS B v n f W) (hb : ∀ k, B ≤ k → k < W.heap.size → W'.heap[k]? = W.heap[k]?) : FlS B v n f W' := by
  obtain ⟨a, c, e, h⟩ := h
  rcases h with h | ⟨g, e1, hg, h⟩
  · exact ⟨a, c, e, Or.inl h⟩
  · exact ⟨a, c, e, Or.inr ⟨g, e1, hg, h.block (hb g hg h.lt)⟩⟩
theorem FlS.lower {B B' n : Nat} {v : Value} {f : Nat → Int} {W : World} (h : FlS B v n f W) (hb : B' ≤ B) : FlS B' v n f W := by
  obtain ⟨a, c, e, h⟩ := h
  exact ⟨a, c, e, h.elim Or.inl (fun ⟨g, e1, hg, h⟩ => Or.inr ⟨g, e1, by omega, h⟩)⟩
theorem ownPrs_lower {B B' : Nat} {a : Option Addr} {n : Nat} {ps : Nat → St.Pr} {W : World} (h : OwnPrs B a n ps W) (hb : B' ≤ B) : OwnPrs B' a n ps W := h.elim Or.inl (fun ⟨g, e, hg, h⟩ => Or.inr ⟨g, e, by omega, h⟩)
/-- What stands while a run is drawn. -/
structure DR (w : World) (sb B bX : Nat) (ca : Option Addr) (cn ck : Nat) (ra : Option Addr) (rn rk : Nat) (v : Int) (c r : Nat → St.Pr) (W : World) : Prop where
  res : W.rowIs w.heap.size 26 3 (d3 (.slice none 0 0) (.slice none 0 0) (.int .i64 0))
  box : W.rowIs bX 26 3 (d3 (.slice ca cn ck) (.slice ra rn rk) (.int .i64 v))
  pc : OwnPrs B ca cn c W
  pr : OwnPrs B ra rn r W
  src : Src sb W
  bel : Below w.heap.size w W
  num : w.heap.size < sb ∧ sb < B ∧ B ≤ bX
theorem DR.draw {w : World} {sb B bX : Nat} {ca : Option Addr} {cn ck : Nat} {ra : Option Addr} {rn rk : Nat} {v : Int} {c r : Nat → St.Pr} {W W' : World} (h : DR w sb B bX ca cn ck ra rn rk v c r W) (hd : Drew sb W W') : DR w sb B bX ca cn ck ra rn rk v c r W' := by
  have hn := h.num
  have blk : ∀ k, k < W.heap.size → k ≠ sb → W'.heap[k]? = W.heap[k]? := hd.2.2.2.2.2
  exact ⟨h.res.of_block (blk _ h.res.lt (by omega)), h.box.of_block (blk _ h.box.lt (by omega)), h.pc.same (fun k hk hl => blk k hl (by omega)), h.pr.same (fun k hk hl => blk k hl (by omega)), hd.1, h.bel.trans (hd.2.below (by omega) (h.bel.size)), h.num⟩
theorem FlS.draw {B n sb : Nat} {v : Value} {f : Nat → Int} {W W' : World} (h : FlS B v n f W) (hd : Drew sb W W') (hs : sb < B) : FlS B v n f W' := h.same (fun k hk hl => hd.2.2.2.2.2 k hl (by omega))
theorem Src.size {sb : Nat} {W : World} (h : Src sb W) : ∃ z : Int, W.cell? ⟨sb, 3, none⟩ = some (.int .i64 z) ∧ 0 ≤ z ∧ z ≤ 12 := by
  obtain ⟨a, len, cap, at_, mix, size, ⟨c0, c1, c2, c3, f0, f1, f2, f3⟩, h1, h2, h3, h4, h5, h6⟩ := h
  exact ⟨size, c3, h4, h5⟩
def BxR (bX : Nat) (A : Nat → Value) (W : World) : Prop := W.rowIs bX 26 3 A
end Go.Proofs.YtglbonfklakadaaDoor
