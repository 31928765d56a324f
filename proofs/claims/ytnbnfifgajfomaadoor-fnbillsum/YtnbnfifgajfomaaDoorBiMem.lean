/-
  Tariffs, bills and accounts as they lie in memory.
-/
import Derived.Test.YtnbnfifgajfomaaDoorNtMem
import Derived.Test.YtnbnfifgajfomaaDoorMnMem
import Derived.Test.YtnbnfifgajfomaaDoorBiMath
namespace Go.Proofs.YtnbnfifgajfomaaDoor
open Go.RowKit Go.Deep

theorem rowN7 {w : World} {g : Nat} {t : TypeId} {a b c d e f k : Value} (h : w.rowIs g t 7 (rowN [a, b, c, d, e, f, k])) : (w.cell? ⟨g, 0, none⟩ = some a ∧ w.cell? ⟨g, 1, none⟩ = some b ∧ w.cell? ⟨g, 2, none⟩ = some c ∧ w.cell? ⟨g, 3, none⟩ = some d ∧ w.cell? ⟨g, 4, none⟩ = some e ∧ w.cell? ⟨g, 5, none⟩ = some f ∧ w.cell? ⟨g, 6, none⟩ = some k) ∧ (w.frozen? ⟨g, 0, none⟩ = false ∧ w.frozen? ⟨g, 1, none⟩ = false ∧ w.frozen? ⟨g, 2, none⟩ = false ∧ w.frozen? ⟨g, 3, none⟩ = false ∧ w.frozen? ⟨g, 4, none⟩ = false ∧ w.frozen? ⟨g, 5, none⟩ = false ∧ w.frozen? ⟨g, 6, none⟩ = false) :=
  ⟨⟨h.cell (by omega), h.cell (by omega), h.cell (by omega), h.cell (by omega), h.cell (by omega), h.cell (by omega), h.cell (by omega)⟩, h.frozen 0, h.frozen 1, h.frozen 2, h.frozen 3, h.frozen 4, h.frozen 5, h.frozen 6⟩
theorem biwrap {x : Int} (h1 : -9223372036854775808 ≤ x) (h2 : x ≤ 9223372036854775807) : IntKind.i64.wrap x = x := by simp [IntKind.wrap, IntKind.bits, IntKind.signed]; omega
theorem bihs (w : World) (g k : Nat) (h : g ≠ k) (i : Nat) (v : Value) : (w.setCell ⟨k, i, none⟩ v).heap[g]? = w.heap[g]? := Below.heap_setCell _ _ _ _ (by show g ≠ k; exact h)
/-- The value of a tariff. -/
abbrev tfV (t : Bi.T) (a : Option Addr) (k : Nat) : Value := .agg #[.int .i64 t.day, .slice a t.bn k, .int .i64 t.sew, .int .i64 t.tax]
abbrev tfL (t : Bi.T) (a : Option Addr) (k : Nat) : List Value := [.int .i64 t.day, .slice a t.bn k, .int .i64 t.sew, .int .i64 t.tax]
/-- The value of a bill. -/
abbrev blV (X : Bi.Bl) (n : Nat) (a : Option Addr) (k : Nat) : Value := .agg #[.int .i64 X.days, .slice a n k, .int .i64 X.sew, .int .i64 X.net, .int .i64 X.tax, .int .i64 X.gross, .int .i64 X.code]
abbrev blL (X : Bi.Bl) (n : Nat) (a : Option Addr) (k : Nat) : List Value := [.int .i64 X.days, .slice a n k, .int .i64 X.sew, .int .i64 X.net, .int .i64 X.tax, .int .i64 X.gross, .int .i64 X.code]
/-- The value of an account. -/
abbrev acV (cr pd cd : Int) (n : Nat) (a : Option Addr) (k : Nat) : Value := .agg #[.slice a n k, .int .i64 cr, .int .i64 pd, .int .i64 cd]
abbrev acL (cr pd cd : Int) (n : Nat) (a : Option Addr) (k : Nat) : List Value := [.slice a n k, .int .i64 cr, .int .i64 pd, .int .i64 cd]
end Go.Proofs.YtnbnfifgajfomaaDoor
