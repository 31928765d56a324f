/-
  The contracts of the program's copy of a river and of the answer of no step.
-/
import Derived.Test.YtcbdpbkkpdaolamRvI1
import Derived.Lib.SliceRun
namespace Go.Proofs.Ytcbdpbkkpdaolam
open Go.RowKit Go.Deep

theorem info_rc : (Try.prog.info? 35).map (fun i => (i.zero, i.size, i.bytes)) = some (some (.agg #[.int .i64 0, .int .i64 0, .int .i64 0, .int .i64 0, .int .i64 0]), 5, 40) := by kernel_rfl
theorem info_i64 : (Try.prog.info? 2).map (fun i => (i.zero, i.size, i.bytes)) = some (some (.int .i64 0), 1, 8) := by kernel_rfl

theorem rc_cell {b n : Nat} {rs : Nat → Rv.Rc} {w : World} (h : ∀ i, i < n → RcCells b (i * 5) (rs i) w) (j : Nat) (hj : j < n * 5) : w.cell? ⟨b, j, none⟩ = some (rcRow rs j) := by
  obtain ⟨c0, c1, c2, c3, c4⟩ := h (j / 5) (by omega)
  have hk : j % 5 = 0 ∨ j % 5 = 1 ∨ j % 5 = 2 ∨ j % 5 = 3 ∨ j % 5 = 4 := by omega
  unfold rcRow
  rcases hk with e | e | e | e | e
  · rw [e]; have : j = j / 5 * 5 := by omega
    rw [← this] at c0; exact c0
  · rw [e]; have : j = j / 5 * 5 + 1 := by omega
    rw [← this] at c1; exact c1
  · rw [e]; have : j = j / 5 * 5 + 2 := by omega
    rw [← this] at c2; exact c2
  · rw [e]; have : j = j / 5 * 5 + 3 := by omega
    rw [← this] at c3; exact c3
  · rw [e]; have : j = j / 5 * 5 + 4 := by omega
    rw [← this] at c4; exact c4

theorem made_blk (w : World) (n : Nat) : InBlk w.heap.size n (fun _ => 0) (w.alloc (.cells (madeCells #[.int .i64 0] n) 2)) :=
  ⟨n, _, Nat.le_refl _, World.rowIs_made w (.int .i64 0) n 2, fun _ _ => rfl⟩
abbrev mkO (n : Nat) : Obj := .cells (madeCells #[.int .i64 0] n) 2
theorem RcBlk.alloc {g n : Nat} {rs : Nat → Rv.Rc} {w : World} (h : RcBlk g n rs w) (o : Obj) : RcBlk g n rs (w.alloc o) := h.block (blk_alloc_lt _ _ _ h.lt)
theorem InBlk.alloc {g n : Nat} {f : Nat → Int} {w : World} (h : InBlk g n f w) (o : Obj) : InBlk g n f (w.alloc o) := h.block (blk_alloc_lt _ _ _ h.lt)

end Go.Proofs.Ytcbdpbkkpdaolam
