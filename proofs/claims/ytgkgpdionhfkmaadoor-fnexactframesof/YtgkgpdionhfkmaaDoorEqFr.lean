/-
  The laws' comparisons of frames, at what is the same.
-/
import Derived.Test.YtgkgpdionhfkmaaDoorFrRead
namespace Go.Proofs.YtgkgpdionhfkmaaDoor
open Go.RowKit

set_option maxRecDepth 100000 in
set_option maxHeartbeats 2000000 in
theorem eqFrame_same (u k q : Int) (b : ByteArray) (w : World) :
    Calls Tryd.prog 28 #[.agg #[.int .i64 u, .int .i64 k, .int .i64 q, .string b], .agg #[.int .i64 u, .int .i64 k, .int .i64 q, .string b]] w fun e w' => e = .returned (.bool true) ∧ Below w.heap.size w w' := by
  go_enter Tryd.func28, Tryd.ntmps28
  go_wp2_with fail
  go_ret
  exact ⟨rfl, ((Below.refl _ _).alloc (Nat.le_refl _) _).alloc (by simp) _⟩
set_option maxRecDepth 100000 in
set_option maxHeartbeats 2000000 in
theorem eqFrameOut_same (o : Fr.Out) (w : World) :
    Calls Tryd.prog 14 #[Fr.val o, Fr.val o] w fun e w' => e = .returned (.bool true) ∧ Below w.heap.size w w' := by
  unfold Fr.val
  go_enter Tryd.func14, Tryd.ntmps14
  go_wp2_with fail
  refine (eqFrame_same o.u o.k o.s ⟨o.b.toArray⟩ _).mono ?_
  rintro e w1 ⟨rfl, hb⟩
  have q0 : w1.cell? ⟨w.heap.size, 4, none⟩ = some (.int .i64 o.used) := (hb.cell (p := ⟨w.heap.size, 4, none⟩) (by simp <;> omega)).trans (by simp)
  have q1 : w1.cell? ⟨w.heap.size, 5, none⟩ = some (.int .i64 o.code) := (hb.cell (p := ⟨w.heap.size, 5, none⟩) (by simp <;> omega)).trans (by simp)
  have q2 : w1.cell? ⟨w.heap.size + 1, 4, none⟩ = some (.int .i64 o.used) := (hb.cell (p := ⟨w.heap.size + 1, 4, none⟩) (by simp <;> omega)).trans (by simp)
  have q3 : w1.cell? ⟨w.heap.size + 1, 5, none⟩ = some (.int .i64 o.code) := (hb.cell (p := ⟨w.heap.size + 1, 5, none⟩) (by simp <;> omega)).trans (by simp)
  have HB : Hid (Below w.heap.size w w1) := (((Below.refl w.heap.size w).alloc (Nat.le_refl _) _).alloc (by simp) _).trans (hb.mono (by simp <;> omega))
  clear hb
  go_wp2_with fail
  go_ret
  exact ⟨rfl, HB.out⟩
end Go.Proofs.YtgkgpdionhfkmaaDoor
