/-
  Assets and what is told of renewals, as they lie in memory.
-/
import Derived.Test.YtbkpedcabbppbaaDoorNtMem
import Derived.Test.YtbkpedcabbppbaaDoorMnMem
import Derived.Test.YtbkpedcabbppbaaDoorBiLs
import Derived.Test.YtbkpedcabbppbaaDoorRnMath
namespace Go.Proofs.YtbkpedcabbppbaaDoor
open Go.RowKit Go.Deep

theorem rwrap {x : Int} (h1 : -9223372036854775808 ≤ x) (h2 : x ≤ 9223372036854775807) : IntKind.i64.wrap x = x := by simp [IntKind.wrap, IntKind.bits, IntKind.signed]; omega
theorem rhs (w : World) (g k : Nat) (h : g ≠ k) (i : Nat) (v : Value) : (w.setCell ⟨k, i, none⟩ v).heap[g]? = w.heap[g]? := Below.heap_setCell _ _ _ _ (by show g ≠ k; exact h)
/-- The value of what is told. -/
abbrev roV (cs wo cd : Int) (n : Nat) (a : Option Addr) (k : Nat) : Value := .agg #[.slice a n k, .int .i64 cs, .int .i64 wo, .int .i64 cd]
abbrev roL (cs wo cd : Int) (n : Nat) (a : Option Addr) (k : Nat) : List Value := [.slice a n k, .int .i64 cs, .int .i64 wo, .int .i64 cd]
end Go.Proofs.YtbkpedcabbppbaaDoor
