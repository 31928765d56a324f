/-
  Fractions as pairs: the raw quotients of the four operations, their codes and values; the program's sure and whole.
-/
import Derived.Test.YtkaokfmaecdkiaaGreatDoorOpAdd
import Derived.Test.YtkaokfmaecdkiaaGreatDoorOpSub
import Derived.Test.YtkaokfmaecdkiaaGreatDoorOpMul
import Derived.Test.YtkaokfmaecdkiaaGreatDoorOpDiv
import Derived.Test.YtkaokfmaecdkiaaGreatDoorOf2
import Derived.Test.YtkaokfmaecdkiaaGreatDoorNtMem
import Derived.Test.YtkaokfmaecdkiaaGreatDoorNtFq
import Derived.WalkLawsBesides
namespace Go.Proofs.YtkaokfmaecdkiaaGreatDoor
open Go.RowKit Go.Deep

/-- A fraction, an answer of an operation, as values. -/
abbrev frV (x : Int × Int) : Value := .agg #[.int .i64 x.1, .int .i64 x.2]
abbrev foV (q : Int × Int) : Value := .agg #[.int .i64 (Fq.val q).1, .int .i64 (Fq.val q).2, .int .i64 (Fq.code q)]
/-- The variable errors.errorType holds its handle. -/
def NEt (w : World) : Prop := w.cell? ⟨0, 0, none⟩ = some (.iface 153 (.agg #[.pointer (some ⟨1, 99, none⟩)]))
theorem NEt.below {w w' : World} (h : NEt w) (hb : Below w.heap.size w w') : NEt w' := (hb.cell (World.block_lt_of_cell? _ _ h)).trans h
theorem right_lims {x : Int × Int} (h : Fq.R x) : (-9223372036854775808 ≤ x.1 ∧ x.1 ≤ 9223372036854775807) ∧ (-9223372036854775808 ≤ x.2 ∧ x.2 ≤ 9223372036854775807) := by have := h.bd; omega
theorem nimplSub (x y : Int × Int) (w : World) (hx : Fq.R x) (hy : Fq.R y) (hg : NEt w) : Calls Tryz.prog 71 #[frV x, frV y] w fun e w' => e = .returned (foV (Fq.sub x y)) ∧ Below w.heap.size w w' := by
  have a := right_lims hx; have b := right_lims hy
  have h := implSub_any x.1 x.2 y.1 y.2 w a.1.1 a.1.2 a.2.1 a.2.2 b.1.1 b.1.2 b.2.1 b.2.2 hg
  unfold Fq.R at hx hy
  rw [hx, hy] at h
  exact h
theorem nimplAdd (x y : Int × Int) (w : World) (hx : Fq.R x) (hy : Fq.R y) (hg : NEt w) : Calls Tryz.prog 72 #[frV x, frV y] w fun e w' => e = .returned (foV (Fq.add x y)) ∧ Below w.heap.size w w' := by
  have a := right_lims hx; have b := right_lims hy
  have h := implAdd_any x.1 x.2 y.1 y.2 w a.1.1 a.1.2 a.2.1 a.2.2 b.1.1 b.1.2 b.2.1 b.2.2 hg
  unfold Fq.R at hx hy
  rw [hx, hy] at h
  exact h
theorem nimplMul (x y : Int × Int) (w : World) (hx : Fq.R x) (hy : Fq.R y) (hg : NEt w) : Calls Tryz.prog 92 #[frV x, frV y] w fun e w' => e = .returned (foV (Fq.mul x y)) ∧ Below w.heap.size w w' := by
  have a := right_lims hx; have b := right_lims hy
  have h := implMul_any x.1 x.2 y.1 y.2 w a.1.1 a.1.2 a.2.1 a.2.2 b.1.1 b.1.2 b.2.1 b.2.2 hg
  unfold Fq.R at hx hy
  rw [hx, hy] at h
  exact h
theorem nimplDiv (x y : Int × Int) (w : World) (hx : Fq.R x) (hy : Fq.R y) (hg : NEt w) : Calls Tryz.prog 88 #[frV x, frV y] w fun e w' => e = .returned (foV (Fq.div x y)) ∧ Below w.heap.size w w' := by
  have a := right_lims hx; have b := right_lims hy
  have h := implDiv_any x.1 x.2 y.1 y.2 w a.1.1 a.1.2 a.2.1 a.2.2 b.1.1 b.1.2 b.2.1 b.2.2 hg
  unfold Fq.R at hx hy
  rw [hx, hy] at h
  exact h
theorem nspecSub (x y : Int × Int) (w : World) (hx : Fq.R x) (hy : Fq.R y) : Calls Tryz.prog 28 #[frV x, frV y] w fun e w' => e = .returned (foV (Fq.sub x y)) ∧ Below w.heap.size w w' := by
  have h := specSub_any x.1 x.2 y.1 y.2 w
  unfold Fq.R at hx hy
  rw [hx, hy] at h
  exact h
theorem nspecAdd (x y : Int × Int) (w : World) (hx : Fq.R x) (hy : Fq.R y) : Calls Tryz.prog 26 #[frV x, frV y] w fun e w' => e = .returned (foV (Fq.add x y)) ∧ Below w.heap.size w w' := by
  have h := specAdd_any x.1 x.2 y.1 y.2 w
  unfold Fq.R at hx hy
  rw [hx, hy] at h
  exact h
theorem nspecMul (x y : Int × Int) (w : World) (hx : Fq.R x) (hy : Fq.R y) : Calls Tryz.prog 29 #[frV x, frV y] w fun e w' => e = .returned (foV (Fq.mul x y)) ∧ Below w.heap.size w w' := by
  have h := specMul_any x.1 x.2 y.1 y.2 w
  unfold Fq.R at hx hy
  rw [hx, hy] at h
  exact h
theorem nspecDiv (x y : Int × Int) (w : World) (hx : Fq.R x) (hy : Fq.R y) : Calls Tryz.prog 27 #[frV x, frV y] w fun e w' => e = .returned (foV (Fq.div x y)) ∧ Below w.heap.size w w' := by
  have h := specDiv_any x.1 x.2 y.1 y.2 w
  unfold Fq.R at hx hy
  rw [hx, hy] at h
  exact h
/-- What is thrown. -/
abbrev thrown (s : ByteArray) (c : Int) : Ending := .panicked [{ v := errV s c, recovered := false }]
set_option maxHeartbeats 1000000 in
theorem sure_ok (a b : Int) (w : World) :
    Calls Tryz.prog 70 #[.agg #[.int .i64 a, .int .i64 b, .int .i64 0]] w fun e w' => e = .returned (.agg #[.int .i64 a, .int .i64 b]) ∧ Below w.heap.size w w' := by
  go_enter Tryz.func70, Tryz.ntmps70
  go_wp2_with fail
  exact bodyPost_ret (v := .agg #[.int .i64 a, .int .i64 b]) (by simp [results, Tryz.results70, go_sem]) rfl ⟨rfl, ((Below.refl _ _).alloc (Nat.le_refl _) _).alloc (by simp) _⟩
set_option maxHeartbeats 1000000 in
theorem sure_bad (a b c : Int) (hc : c ≠ 0) (w : World) :
    Calls Tryz.prog 70 #[.agg #[.int .i64 a, .int .i64 b, .int .i64 c]] w fun e w' => (∃ s, e = thrown s c) ∧ Below w.heap.size w w' := by
  have hc' : (c != 0) = true := by simp [hc]
  go_enter Tryz.func70, Tryz.ntmps70
  go_wp2_with fail
  exact ⟨rfl, ⟨_, rfl⟩, ((Below.refl _ _).alloc (Nat.le_refl _) _).alloc (by simp) _⟩
set_option maxHeartbeats 1000000 in
theorem whole_any (z : Int) (w : World) (h1 : -2147483647 ≤ z) (h2 : z ≤ 2147483647) (hg : NEt w) :
    Calls Tryz.prog 69 #[.int .i64 z] w fun e w' => e = .returned (.agg #[.int .i64 z, .int .i64 1]) ∧ Below w.heap.size w w' := by
  obtain ⟨k1, k2, k3, _⟩ := Fq.whole_ok h1 h2
  have HO := Lib.hid (implOf_any z 1 (w.alloc (.cells #[.int .i64 0, .int .i64 0] 35)) (by omega) (by omega) (by omega) (by omega) (hg.below (nbel_alloc _ _)))
  rw [k1, k2, k3] at HO
  have HB := Lib.hid (nbel_alloc w (.cells #[.int .i64 0, .int .i64 0] 35))
  have HR := Lib.hid (rowN_alloc w [.int .i64 0, .int .i64 0] 35)
  clear k1 k2 k3 hg
  go_enter Tryz.func69, Tryz.ntmps69
  go_wp2_with fail
  refine HO.out.mono ?_
  rintro e w1 ⟨rfl, hb1⟩
  have HB1 : Hid (Below w.heap.size w w1) := HB.out.trans (hb1.mono HB.out.size)
  have HR1 := Lib.hid (nrow_below HR.out hb1)
  clear hb1 HB HR
  go_wp2_with fail
  refine (sure_ok z 1 _).mono ?_
  rintro e w2 ⟨rfl, hb2⟩
  have HB2 : Hid (Below w.heap.size w w2) := HB1.out.trans (hb2.mono HB1.out.size)
  have R2 := nrow_below HR1.out hb2
  obtain ⟨⟨c0, c1⟩, f0, f1⟩ := rowN2 R2
  have hz := R2.lt
  have RX := Lib.hid (rowN_put (rowN_put R2 0 (.int .i64 z) (by simp)) 1 (.int .i64 1) (by simp))
  clear hb2 HB1 HR1 R2
  go_wp2_with fail
  obtain ⟨⟨x0, x1⟩, _⟩ := rowN2 RX.out
  exact bodyPost_ret (v := .agg #[.int .i64 z, .int .i64 1]) (by simp [results, Tryz.results69, go_sem, x0, x1]) rfl ⟨rfl, (HB2.out.setCell (p := ⟨w.heap.size, 0, none⟩) (Nat.le_refl _) _).setCell (p := ⟨w.heap.size, 1, none⟩) (Nat.le_refl _) _⟩
end Go.Proofs.YtkaokfmaecdkiaaGreatDoor
