/-
  The program's test of the blocks of a program.
-/
import Derived.Test.YtjfeipgeppegcaaPgI3
namespace Go.Proofs.Ytjfeipgeppegcaa
open Go.RowKit Go.Deep

namespace Pg
/-- The names of the first blocks, with their places. -/
def nmL (B : Nat → Bk) (i : Nat) : SL := (List.range i).map (fun k => ((B k).name, Value.int .i64 ((k : Nat) : Int)))
theorem nmL_len (B : Nat → Bk) (i : Nat) : (nmL B i).length = i := by simp [nmL]
theorem nmL_succ (B : Nat → Bk) (i : Nat) : nmL B (i + 1) = nmL B i ++ [((B i).name, Value.int .i64 ((i : Nat) : Int))] := by
  unfold nmL
  rw [List.range_succ, List.map_append]
  rfl
theorem nmL_new {B : Nat → Bk} {i : Nat} {s : ByteArray} : sget (nmL B i) s = none ↔ New B i s := by
  rw [sget_none_iff]
  constructor
  · intro h k hk
    exact h ((B k).name, .int .i64 ((k : Nat) : Int)) (List.mem_map.2 ⟨k, List.mem_range.2 hk, rfl⟩)
  · intro h x hx
    obtain ⟨k, hk, rfl⟩ := List.mem_map.1 hx
    exact h k (List.mem_range.1 hk)
end Pg
end Go.Proofs.Ytjfeipgeppegcaa
