/-
  Meters, reads and uses as they lie in memory.
-/
import Derived.Test.YtmejmpdljckfgaaDoorNtMem
import Derived.Test.YtmejmpdljckfgaaDoorMnMem
import Derived.Test.YtmejmpdljckfgaaDoorMtMath
namespace Go.Proofs.YtmejmpdljckfgaaDoor
open Go.RowKit Go.Deep

theorem IsAt.at4 {a : Option Addr} {n i : Nat} {f : Nat → Int} {w : World} (h : IsAt a (n * 4) f w) (hi : i < n) : ∃ b, a = some ⟨b, 0, none⟩ ∧ w.cell? ⟨b, i * 4, none⟩ = some (.int .i64 (f (i * 4))) ∧ w.cell? ⟨b, i * 4 + 1, none⟩ = some (.int .i64 (f (i * 4 + 1))) ∧ w.cell? ⟨b, i * 4 + 2, none⟩ = some (.int .i64 (f (i * 4 + 2))) ∧ w.cell? ⟨b, i * 4 + 3, none⟩ = some (.int .i64 (f (i * 4 + 3))) := by
  obtain ⟨b, e, k⟩ := h.pos (by omega)
  exact ⟨b, e, k _ (by omega), k _ (by omega), k _ (by omega), k _ (by omega)⟩
theorem IsIn.at4 {a : Option Addr} {n i : Nat} {f : Nat → Int} {w : World} (h : IsIn a (n * 4) f w) (hi : i < n) : ∃ b o, a = some ⟨b, o, none⟩ ∧ w.cell? ⟨b, o + i * 4, none⟩ = some (.int .i64 (f (i * 4))) ∧ w.cell? ⟨b, o + i * 4 + 1, none⟩ = some (.int .i64 (f (i * 4 + 1))) ∧ w.cell? ⟨b, o + i * 4 + 2, none⟩ = some (.int .i64 (f (i * 4 + 2))) ∧ w.cell? ⟨b, o + i * 4 + 3, none⟩ = some (.int .i64 (f (i * 4 + 3))) := by
  obtain ⟨b, o, e, k⟩ := h.pos (by omega)
  exact ⟨b, o, e, k (i * 4) (by omega), k (i * 4 + 1) (by omega), k (i * 4 + 2) (by omega), k (i * 4 + 3) (by omega)⟩
/-- The value of a meter. -/
abbrev mtV (m : Mt.M) : Value := .agg #[.int .i64 m.d, .int .i64 m.u, .int .i64 m.day, .int .i64 m.s]
abbrev mtL (m : Mt.M) : List Value := [.int .i64 m.d, .int .i64 m.u, .int .i64 m.day, .int .i64 m.s]
/-- The value of an answer. -/
abbrev muV (m : Mt.M) (a : Option Addr) (n c : Nat) (x : Int) : Value := .agg #[.int .i64 m.d, .int .i64 m.u, .int .i64 m.day, .int .i64 m.s, .slice a n c, .int .i64 x]
abbrev muL (m : Mt.M) (a : Option Addr) (n c : Nat) (x : Int) : List Value := [.int .i64 m.d, .int .i64 m.u, .int .i64 m.day, .int .i64 m.s, .slice a n c, .int .i64 x]
theorem mwrap_id {x : Int} (h1 : -9223372036854775808 ≤ x) (h2 : x ≤ 9223372036854775807) : IntKind.i64.wrap x = x := by simp [IntKind.wrap, IntKind.bits, IntKind.signed]; omega
/-- No meter at all. -/
def Mt.none : Mt.M := ⟨0, 0, 0, 0⟩
end Go.Proofs.YtmejmpdljckfgaaDoor
