/-
  Alarms, acts and rings as they lie in memory.
-/
import Derived.Test.YtmejmpdljckfgaaDoorNtMem
import Derived.Test.YtmejmpdljckfgaaDoorMnMem
import Derived.Test.YtmejmpdljckfgaaDoorAlMath
import Derived.Test.YtmejmpdljckfgaaDoorLnMath
import Derived.Laws.AppendOwn
namespace Go.Proofs.YtmejmpdljckfgaaDoor
open Go.RowKit Go.Deep

theorem IsAt.at6 {a : Option Addr} {n i : Nat} {f : Nat → Int} {w : World} (h : IsAt a (n * 6) f w) (hi : i < n) : ∃ b, a = some ⟨b, 0, none⟩ ∧ w.cell? ⟨b, i * 6, none⟩ = some (.int .i64 (f (i * 6))) ∧ w.cell? ⟨b, i * 6 + 1, none⟩ = some (.int .i64 (f (i * 6 + 1))) ∧ w.cell? ⟨b, i * 6 + 2, none⟩ = some (.int .i64 (f (i * 6 + 2))) ∧ w.cell? ⟨b, i * 6 + 3, none⟩ = some (.int .i64 (f (i * 6 + 3))) ∧ w.cell? ⟨b, i * 6 + 4, none⟩ = some (.int .i64 (f (i * 6 + 4))) ∧ w.cell? ⟨b, i * 6 + 5, none⟩ = some (.int .i64 (f (i * 6 + 5))) := by
  obtain ⟨b, e, k⟩ := h.pos (by omega)
  exact ⟨b, e, k _ (by omega), k _ (by omega), k _ (by omega), k _ (by omega), k _ (by omega), k _ (by omega)⟩
theorem IsIn.at6 {a : Option Addr} {n i : Nat} {f : Nat → Int} {w : World} (h : IsIn a (n * 6) f w) (hi : i < n) : ∃ b o, a = some ⟨b, o, none⟩ ∧ w.cell? ⟨b, o + i * 6, none⟩ = some (.int .i64 (f (i * 6))) ∧ w.cell? ⟨b, o + i * 6 + 1, none⟩ = some (.int .i64 (f (i * 6 + 1))) ∧ w.cell? ⟨b, o + i * 6 + 2, none⟩ = some (.int .i64 (f (i * 6 + 2))) ∧ w.cell? ⟨b, o + i * 6 + 3, none⟩ = some (.int .i64 (f (i * 6 + 3))) ∧ w.cell? ⟨b, o + i * 6 + 4, none⟩ = some (.int .i64 (f (i * 6 + 4))) ∧ w.cell? ⟨b, o + i * 6 + 5, none⟩ = some (.int .i64 (f (i * 6 + 5))) := by
  obtain ⟨b, o, e, k⟩ := h.pos (by omega)
  exact ⟨b, o, e, k (i * 6) (by omega), k (i * 6 + 1) (by omega), k (i * 6 + 2) (by omega), k (i * 6 + 3) (by omega), k (i * 6 + 4) (by omega), k (i * 6 + 5) (by omega)⟩
theorem rowN8 {w : World} {g : Nat} {t : TypeId} {a0 a1 a2 a3 a4 a5 a6 a7 : Value} (h : w.rowIs g t 8 (rowN [a0, a1, a2, a3, a4, a5, a6, a7])) : (w.cell? ⟨g, 0, none⟩ = some a0 ∧ w.cell? ⟨g, 1, none⟩ = some a1 ∧ w.cell? ⟨g, 2, none⟩ = some a2 ∧ w.cell? ⟨g, 3, none⟩ = some a3 ∧ w.cell? ⟨g, 4, none⟩ = some a4 ∧ w.cell? ⟨g, 5, none⟩ = some a5 ∧ w.cell? ⟨g, 6, none⟩ = some a6 ∧ w.cell? ⟨g, 7, none⟩ = some a7) ∧ (w.frozen? ⟨g, 0, none⟩ = false ∧ w.frozen? ⟨g, 1, none⟩ = false ∧ w.frozen? ⟨g, 2, none⟩ = false ∧ w.frozen? ⟨g, 3, none⟩ = false ∧ w.frozen? ⟨g, 4, none⟩ = false ∧ w.frozen? ⟨g, 5, none⟩ = false ∧ w.frozen? ⟨g, 6, none⟩ = false ∧ w.frozen? ⟨g, 7, none⟩ = false) :=
  ⟨⟨h.cell (by omega), h.cell (by omega), h.cell (by omega), h.cell (by omega), h.cell (by omega), h.cell (by omega), h.cell (by omega), h.cell (by omega)⟩, h.frozen 0, h.frozen 1, h.frozen 2, h.frozen 3, h.frozen 4, h.frozen 5, h.frozen 6, h.frozen 7⟩
/-- 6 cells laid one behind the other. -/
theorem al6put {T : TypeId} {g : Nat} {W : World} {l : List Value} (h : W.rowIs g T 6 (rowN l)) (hl : l.length = 6) (v0 v1 v2 v3 v4 v5 : Value) :
    ((((((W.setCell ⟨g, 0, none⟩ v0).setCell ⟨g, 1, none⟩ v1).setCell ⟨g, 2, none⟩ v2).setCell ⟨g, 3, none⟩ v3).setCell ⟨g, 4, none⟩ v4).setCell ⟨g, 5, none⟩ v5).rowIs g T 6 (rowN [v0, v1, v2, v3, v4, v5]) := by
  match l, hl with
  | [x0, x1, x2, x3, x4, x5], _ => exact (rowN_put (rowN_put (rowN_put (rowN_put (rowN_put (rowN_put h 0 v0 (by simp)) 1 v1 (by simp)) 2 v2 (by simp)) 3 v3 (by simp)) 4 v4 (by simp)) 5 v5 (by simp))
theorem al6bel {B g : Nat} {w W : World} (h : Below B w W) (hg : B ≤ g) (v0 v1 v2 v3 v4 v5 : Value) : Below B w ((((((W.setCell ⟨g, 0, none⟩ v0).setCell ⟨g, 1, none⟩ v1).setCell ⟨g, 2, none⟩ v2).setCell ⟨g, 3, none⟩ v3).setCell ⟨g, 4, none⟩ v4).setCell ⟨g, 5, none⟩ v5) := ((((((h.setCell (p := ⟨g, 0, none⟩) hg _).setCell (p := ⟨g, 1, none⟩) hg _).setCell (p := ⟨g, 2, none⟩) hg _).setCell (p := ⟨g, 3, none⟩) hg _).setCell (p := ⟨g, 4, none⟩) hg _).setCell (p := ⟨g, 5, none⟩) hg _)
theorem al6blk {g k : Nat} {W : World} (hk : k ≠ g) (v0 v1 v2 v3 v4 v5 : Value) : ((((((W.setCell ⟨g, 0, none⟩ v0).setCell ⟨g, 1, none⟩ v1).setCell ⟨g, 2, none⟩ v2).setCell ⟨g, 3, none⟩ v3).setCell ⟨g, 4, none⟩ v4).setCell ⟨g, 5, none⟩ v5).heap[k]? = W.heap[k]? := by
  repeat rw [Below.heap_setCell _ _ _ _ (by show k ≠ g; exact hk)]
/-- 8 cells laid one behind the other. -/
theorem al8put {T : TypeId} {g : Nat} {W : World} {l : List Value} (h : W.rowIs g T 8 (rowN l)) (hl : l.length = 8) (v0 v1 v2 v3 v4 v5 v6 v7 : Value) :
    ((((((((W.setCell ⟨g, 0, none⟩ v0).setCell ⟨g, 1, none⟩ v1).setCell ⟨g, 2, none⟩ v2).setCell ⟨g, 3, none⟩ v3).setCell ⟨g, 4, none⟩ v4).setCell ⟨g, 5, none⟩ v5).setCell ⟨g, 6, none⟩ v6).setCell ⟨g, 7, none⟩ v7).rowIs g T 8 (rowN [v0, v1, v2, v3, v4, v5, v6, v7]) := by
  match l, hl with
  | [x0, x1, x2, x3, x4, x5, x6, x7], _ => exact (rowN_put (rowN_put (rowN_put (rowN_put (rowN_put (rowN_put (rowN_put (rowN_put h 0 v0 (by simp)) 1 v1 (by simp)) 2 v2 (by simp)) 3 v3 (by simp)) 4 v4 (by simp)) 5 v5 (by simp)) 6 v6 (by simp)) 7 v7 (by simp))
theorem al8bel {B g : Nat} {w W : World} (h : Below B w W) (hg : B ≤ g) (v0 v1 v2 v3 v4 v5 v6 v7 : Value) : Below B w ((((((((W.setCell ⟨g, 0, none⟩ v0).setCell ⟨g, 1, none⟩ v1).setCell ⟨g, 2, none⟩ v2).setCell ⟨g, 3, none⟩ v3).setCell ⟨g, 4, none⟩ v4).setCell ⟨g, 5, none⟩ v5).setCell ⟨g, 6, none⟩ v6).setCell ⟨g, 7, none⟩ v7) := ((((((((h.setCell (p := ⟨g, 0, none⟩) hg _).setCell (p := ⟨g, 1, none⟩) hg _).setCell (p := ⟨g, 2, none⟩) hg _).setCell (p := ⟨g, 3, none⟩) hg _).setCell (p := ⟨g, 4, none⟩) hg _).setCell (p := ⟨g, 5, none⟩) hg _).setCell (p := ⟨g, 6, none⟩) hg _).setCell (p := ⟨g, 7, none⟩) hg _)
theorem al8blk {g k : Nat} {W : World} (hk : k ≠ g) (v0 v1 v2 v3 v4 v5 v6 v7 : Value) : ((((((((W.setCell ⟨g, 0, none⟩ v0).setCell ⟨g, 1, none⟩ v1).setCell ⟨g, 2, none⟩ v2).setCell ⟨g, 3, none⟩ v3).setCell ⟨g, 4, none⟩ v4).setCell ⟨g, 5, none⟩ v5).setCell ⟨g, 6, none⟩ v6).setCell ⟨g, 7, none⟩ v7).heap[k]? = W.heap[k]? := by
  repeat rw [Below.heap_setCell _ _ _ _ (by show k ≠ g; exact hk)]
/-- The value of an alarm. -/
abbrev alV (a : Al.A) : Value := .agg #[.int .i64 a.hi, .int .i64 a.lo, .int .i64 a.dl, .int .i64 a.st, .int .i64 a.ct, .int .i64 a.sh]
abbrev alL (a : Al.A) : List Value := [.int .i64 a.hi, .int .i64 a.lo, .int .i64 a.dl, .int .i64 a.st, .int .i64 a.ct, .int .i64 a.sh]
/-- The value of an answer. -/
abbrev aoV (a : Al.A) (l : Option Addr) (n c : Nat) (x : Int) : Value := .agg #[.int .i64 a.hi, .int .i64 a.lo, .int .i64 a.dl, .int .i64 a.st, .int .i64 a.ct, .int .i64 a.sh, .slice l n c, .int .i64 x]
abbrev aoL (a : Al.A) (l : Option Addr) (n c : Nat) (x : Int) : List Value := [.int .i64 a.hi, .int .i64 a.lo, .int .i64 a.dl, .int .i64 a.st, .int .i64 a.ct, .int .i64 a.sh, .slice l n c, .int .i64 x]
theorem awrap_id {x : Int} (h1 : -9223372036854775808 ≤ x) (h2 : x ≤ 9223372036854775807) : IntKind.i64.wrap x = x := by simp [IntKind.wrap, IntKind.bits, IntKind.signed]; omega
/-- No alarm at all. -/
def Al.none : Al.A := ⟨0, 0, 0, 0, 0, 0⟩
end Go.Proofs.YtmejmpdljckfgaaDoor
