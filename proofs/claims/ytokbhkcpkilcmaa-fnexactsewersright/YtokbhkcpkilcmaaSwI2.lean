/-
  The contracts of the program's copies of sewers and of numbers.
-/
import Derived.Test.YtokbhkcpkilcmaaSwI1
import Derived.Lib.SliceRun
namespace Go.Proofs.Ytokbhkcpkilcmaa
open Go.RowKit Go.Deep

theorem info_rc : (Try.prog.info? 30).map (fun i => (i.zero, i.size, i.bytes)) = some (some (.agg #[.int .i64 0, .int .i64 0, .int .i64 0, .int .i64 0, .int .i64 0, .int .i64 0]), 6, 48) := by kernel_rfl
theorem info_i64 : (Try.prog.info? 2).map (fun i => (i.zero, i.size, i.bytes)) = some (some (.int .i64 0), 1, 8) := by kernel_rfl
theorem made_blk (w : World) (n : Nat) : InBlk w.heap.size n (fun _ => 0) (w.alloc (.cells (madeCells #[.int .i64 0] n) 2)) :=
  ⟨n, _, Nat.le_refl _, World.rowIs_made w (.int .i64 0) n 2, fun _ _ => rfl⟩
abbrev mkO (n : Nat) : Obj := .cells (madeCells #[.int .i64 0] n) 2
theorem RcBlk.alloc {g n : Nat} {rs : Nat → Sw.Rc} {w : World} (h : RcBlk g n rs w) (o : Obj) : RcBlk g n rs (w.alloc o) := h.block (blk_alloc_lt _ _ _ h.lt)
theorem IsBlk.alloc {T : TypeId} {g n : Nat} {f : Nat → Int} {w : World} (h : IsBlk T g n f w) (o : Obj) : IsBlk T g n f (w.alloc o) := h.block (blk_alloc_lt _ _ _ h.lt)
theorem InBlk.alloc {g n : Nat} {f : Nat → Int} {w : World} (h : InBlk g n f w) (o : Obj) : InBlk g n f (w.alloc o) := h.block (blk_alloc_lt _ _ _ h.lt)

end Go.Proofs.Ytokbhkcpkilcmaa
