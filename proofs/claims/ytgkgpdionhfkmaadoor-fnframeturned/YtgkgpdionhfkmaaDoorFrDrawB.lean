/-
  The contract of the draw of a frame out of bytes.
-/
import Derived.Test.YtgkgpdionhfkmaaDoorFrDraw
import Derived.Test.YtgkgpdionhfkmaaDoorSource
namespace Go.Proofs.YtgkgpdionhfkmaaDoor
open Go.RowKit Go.Deep

set_option maxRecDepth 100000 in
set_option maxHeartbeats 1000000 in
theorem drawFrame_any (a : Option Addr) (len cap : Nat) (w : World) (h : Bytes a len w) (hl : len ≤ 4194304) :
    Calls Tryd.prog 19 #[.slice a len cap] w fun e w' => (∃ (u k q : Int) (b : ByteArray), e = .returned (.agg #[.int .i64 u, .int .i64 k, .int .i64 q, .string b]) ∧ ((-9223372036854775808 ≤ u ∧ u ≤ 9223372036854775807) ∧ (-9223372036854775808 ≤ k ∧ k ≤ 9223372036854775807) ∧ (-9223372036854775808 ≤ q ∧ q ≤ 9223372036854775807) ∧ b.size ≤ 65)) ∧ Below w.heap.size w w' := by
  have H : Hid (Bytes a len w) := h
  clear h
  go_enter Tryd.func19, Tryd.ntmps19
  go_wp2_with fail
  have hb0 : Below w.heap.size w (w.alloc (.cells #[.int .i64 0, .int .i64 0, .int .i64 0, .string ⟨#[]⟩] 27)) := (Below.refl _ _).alloc (Nat.le_refl _) _
  have hr0 := World.rowIs_alloc w #[.int .i64 0, .int .i64 0, .int .i64 0, .string ⟨#[]⟩] 27 _ (fr4_row 0 0 0 ⟨#[]⟩)
  have e2 : (w.alloc (.cells #[.int .i64 0, .int .i64 0, .int .i64 0, .string ⟨#[]⟩] 27)).heap.size = w.heap.size + 1 := by simp
  have R0 : Hid (Below w.heap.size w (w.alloc (.cells #[.int .i64 0, .int .i64 0, .int .i64 0, .string ⟨#[]⟩] 27)) ∧ (w.alloc (.cells #[.int .i64 0, .int .i64 0, .int .i64 0, .string ⟨#[]⟩] 27)).rowIs w.heap.size 27 4 (fr4 0 0 0 ⟨#[]⟩)) := ⟨hb0, hr0⟩
  clear hb0 hr0
  refine (source_any a len cap _ (H.out.below R0.out.1) hl).mono ?_
  rintro e w1 ⟨rfl, hS, hb⟩
  rw [e2] at hS ⊢
  have R1 : Hid (Below w.heap.size w w1 ∧ w1.rowIs w.heap.size 27 4 (fr4 0 0 0 ⟨#[]⟩) ∧ Src (w.heap.size + 1) w1) := ⟨R0.out.1.trans (hb.mono (by rw [e2]; omega)), rowIs_below R0.out.2 hb, hS⟩
  clear hS hb e2 R0 H
  go_wp2_with fail
  refine (frame_any _ _ R1.out.2.2).mono ?_
  rintro e w2 ⟨⟨u, k, q, b, rfl, hin⟩, hD⟩
  have R2 : Hid (Below w.heap.size w w2 ∧ w2.rowIs w.heap.size 27 4 (fr4 0 0 0 ⟨#[]⟩)) := ⟨R1.out.1.trans (hD.2.below (by omega) R1.out.1.size), rowIs_drew R1.out.2.1 hD (by omega)⟩
  clear hD R1
  have r0 : w2.cell? ⟨w.heap.size, 0, none⟩ = some (.int .i64 0) := R2.out.2.cell (i := 0) (by omega)
  have r1 : w2.cell? ⟨w.heap.size, 1, none⟩ = some (.int .i64 0) := R2.out.2.cell (i := 1) (by omega)
  have r2 : w2.cell? ⟨w.heap.size, 2, none⟩ = some (.int .i64 0) := R2.out.2.cell (i := 2) (by omega)
  have r3 : w2.cell? ⟨w.heap.size, 3, none⟩ = some (.string ⟨#[]⟩) := R2.out.2.cell (i := 3) (by omega)
  have g0 : w2.frozen? ⟨w.heap.size, 0, none⟩ = false := R2.out.2.frozen 0
  have g1 : w2.frozen? ⟨w.heap.size, 1, none⟩ = false := R2.out.2.frozen 1
  have g2 : w2.frozen? ⟨w.heap.size, 2, none⟩ = false := R2.out.2.frozen 2
  have g3 : w2.frozen? ⟨w.heap.size, 3, none⟩ = false := R2.out.2.frozen 3
  have HI := Lib.hid hin
  clear hin
  go_wp2_with fail
  exact bodyPost_ret (v := .agg #[.int .i64 u, .int .i64 k, .int .i64 q, .string b]) (by simp [results, Tryd.results19, go_sem, r0, r1, r2, r3]) rfl ⟨⟨u, k, q, b, rfl, HI.out⟩, (((R2.out.1.setCell (p := ⟨w.heap.size, 0, none⟩) (Nat.le_refl _) _).setCell (p := ⟨w.heap.size, 1, none⟩) (Nat.le_refl _) _).setCell (p := ⟨w.heap.size, 2, none⟩) (Nat.le_refl _) _).setCell (p := ⟨w.heap.size, 3, none⟩) (Nat.le_refl _) _⟩
end Go.Proofs.YtgkgpdionhfkmaaDoor
