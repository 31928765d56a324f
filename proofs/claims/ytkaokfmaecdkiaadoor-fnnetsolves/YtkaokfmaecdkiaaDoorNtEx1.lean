/-
  The laws' conversions, comparisons and marks of links, fixed heads, fractions and numbers.
-/
import Derived.Test.YtkaokfmaecdkiaaDoorNtMem
import Derived.Test.YtkaokfmaecdkiaaDoorReg
namespace Go.Proofs.YtkaokfmaecdkiaaDoor
open Go.RowKit Go.Deep



theorem ninfo_Frac : (Tryd.prog.info? 34).map (fun i => (i.zero, i.size, i.bytes)) = some (some (.agg #[.int .i64 0, .int .i64 0]), 2, 16) := by kernel_rfl
theorem nmk_Frac (n : Nat) (hn : n ≤ 1048576) (w : World) : (Instr.makeSlice 29 (.int .i64 (n : Int)) (.int .i64 (n : Int))).run Tryd.prog w = .ok (.slice (some ⟨w.heap.size, 0, none⟩) n n) (w.alloc (.cells (madeCells #[.int .i64 0, .int .i64 0] (n * 2)) 34)) := by
  obtain ⟨i0, hi, hz0, hz1, hz2⟩ := info_parts ninfo_Frac
  have := run_make (P := Tryd.prog) w 29 34 i0 _ Tryd.underlying29 hi hz0 .i64 .i64 n n (by omega) (Int.le_refl _) (by rw [hz2]; omega) (by omega)
  rw [hz1] at this
  simp only [Int.toNat_natCast] at this
  exact this


end Go.Proofs.YtkaokfmaecdkiaaDoor
