/-
  What a day costs: what stands in an answer; the program's tank behind a slot and what is paid for it.
-/
import Derived.Test.YtmfokilpfbcicaaDoorDyI2
import Derived.Test.YtmfokilpfbcicaaDoorDyOw
import Derived.Deep.QuietTactic
namespace Go.Proofs.YtmfokilpfbcicaaDoor
open Go.RowKit Go.Deep

/-- The value of an answer. -/
abbrev doV (a : Option Addr) (k c : Nat) (x y z : Int) : Value := .agg #[.slice a k c, .int .i64 x, .int .i64 y, .int .i64 z]
abbrev doL (a : Option Addr) (k c : Nat) (x y z : Int) : List Value := [.slice a k c, .int .i64 x, .int .i64 y, .int .i64 z]
namespace Dy
def FormC (n : Day) (k : Nat) (f : Nat → Int) : Prop := Right n ∧ k = n.wn ∧ AllIn k f ((n.mn : Int) - 1)
/-- The code that is told. -/
noncomputable def codeC (n : Day) (k : Nat) (f : Nat → Int) : Int := if 400 < k then 2 else if dB (FormC n k f) = false then 1 else if dB (Plan n k f) = false then 6 else 0
theorem codeC_size {n : Day} {k : Nat} {f : Nat → Int} (h : 400 < k) : codeC n k f = 2 := by unfold codeC; rw [if_pos h]
theorem codeC_form {n : Day} {k : Nat} {f : Nat → Int} (h : ¬ 400 < k) (h2 : ¬ FormC n k f) : codeC n k f = 1 := by unfold codeC; rw [if_neg h, if_pos (dB_ff h2)]
theorem codeC_short {n : Day} {k : Nat} {f : Nat → Int} (h : ¬ 400 < k) (h2 : FormC n k f) (h3 : ¬ Plan n k f) : codeC n k f = 6 := by unfold codeC; rw [if_neg h, if_neg (by rw [dB_tt h2]; simp), if_pos (dB_ff h3)]
theorem codeC_ok {n : Day} {k : Nat} {f : Nat → Int} (h : ¬ 400 < k) (h2 : FormC n k f) (h3 : Plan n k f) : codeC n k f = 0 := by unfold codeC; rw [if_neg h, if_neg (by rw [dB_tt h2]; simp), if_neg (by rw [dB_tt h3]; simp)]
theorem FormC.mode {n : Day} {k : Nat} {f : Nat → Int} (h : FormC n k f) {i : Nat} (hi : i < k) : ∃ m : Nat, f i = (m : Int) ∧ m < n.mn ∧ ModeOk n m := by
  have h1 := h.2.2 i hi
  exact ⟨(f i).toNat, by omega, by omega, h.1.2.1.ms _ (by omega)⟩
end Dy
/-- What is told of a plan. -/
def DcEnd (B : Nat) (n : Dy.Day) (k : Nat) (f : Nat → Int) (e : Ending) (W : World) : Prop :=
  (Dy.codeC n k f ≠ 0 ∧ e = .returned (doV none 0 0 0 0 (Dy.codeC n k f))) ∨ (Dy.codeC n k f = 0 ∧ 1 ≤ k ∧ k ≤ 400 ∧ ∃ g c, e = .returned (doV (some ⟨g, 0, none⟩) k c (Dy.costA n f k) (Dy.endA n f k) 0) ∧ B ≤ g ∧ IsBlk 2 g k f W)
set_option maxRecDepth 100000 in
set_option maxHeartbeats 4000000 in
theorem behind_any (n : Dy.Day) (la : Option Addr) (lk : Nat) (fa : Option Addr) (fk : Nat) (wa : Option Addr) (wk : Nat) (i m : Nat) (x : Int) (w : World) (h : DyAt n la fa wa w) (hr : Dy.Right n) (hi : i < n.wn) (hm : m < n.mn) (hx : 0 ≤ x ∧ x ≤ 300) :
    Calls Tryd.prog 31 #[dyV n la lk fa fk wa wk, .int .i64 i, .int .i64 m, .int .i64 x] w fun e w' => e = .returned (.tuple #[.int .i64 (x + (n.M (m * 2) - n.W i)), .bool (dB (Dy.Fits n (x + (n.M (m * 2) - n.W i))))]) ∧ Below w.heap.size w w' := by
  obtain ⟨W, hW⟩ : ∃ W, W = w.alloc (.cells #[.slice la n.mn lk, .slice fa n.wn fk, .slice wa n.pn wk, .int .i64 n.tank, .int .i64 n.low, .int .i64 n.high] 32) := ⟨_, rfl⟩
  have HB : Hid (Below w.heap.size w W) := by show Below _ _ _; rw [hW]; exact nbel_alloc _ _
  have HR : Hid (W.rowIs w.heap.size 32 6 (rowN (dyL n la lk fa fk wa wk))) := by show W.rowIs _ _ _ _; rw [hW]; exact rowN_alloc w _ _
  have HA := h.below HB.out
  have hmod := (hr.2.1.ms m hm).1
  have hwan := hr.1.ws i hi
  obtain ⟨b, e, c0, c1⟩ := HA.l.at2 hm
  subst e
  obtain ⟨b2, e, d0⟩ := HA.f.at1 hi
  subst e
  have HW := Lib.hid hW
  have hmz : (m : Int) < (n.mn : Int) := by omega
  have hiz : (i : Int) < (n.wn : Int) := by omega
  obtain ⟨⟨p0, p1, p2, p3, p4, p5⟩, _⟩ := rowN6 HR.out
  obtain ⟨L, hL⟩ : ∃ L, L = n.M (m * 2) := ⟨_, rfl⟩
  obtain ⟨U, hU⟩ : ∃ U, U = n.W i := ⟨_, rfl⟩
  rw [← hL] at c0 hmod ⊢
  rw [← hU] at d0 hwan ⊢
  have k1 : -1000 ≤ L - U ∧ L - U ≤ 300 := by omega
  have k2 : -1000 ≤ x + (L - U) ∧ x + (L - U) ≤ 600 := by omega
  have zl : w.heap.size < W.heap.size := HR.out.lt
  clear hW h HA hr c1 hL hU
  go_enter Tryd.func31, Tryd.ntmps31
  go_wp2_with fail
  rw [← HW.out]
  clear HW
  go_quiet (fail)
  go_wp2_with fail
  obtain ⟨y, hy⟩ : ∃ y, y = x + (L - U) := ⟨_, rfl⟩
  rw [← hy]
  have HY := Lib.hid hy
  clear hy
  by_cases q1 : n.low ≤ y
  · have d1 : decide (n.low ≤ y) = true := by simpa using q1
    by_cases q2 : y ≤ n.high
    · have d2 : decide (y ≤ n.high) = true := by simpa using q2
      have HE : Hid (dB (Dy.Fits n y) = true) := dB_tt ⟨q1, q2⟩
      go_quiet (fail)
      go_wp2_with fail
      exact bodyPost_ret (v := .tuple #[.int .i64 y, .bool true]) (by simp only [results, Tryd.results31]; simp [go_sem]) rfl ⟨by rw [← HY.out, HE.out], by first | exact ndrewN HB.out _ | exact ndrewN (ndrewN HB.out _) _⟩
    · have d2 : decide (y ≤ n.high) = false := by simpa using q2
      have HE : Hid (dB (Dy.Fits n y) = false) := dB_ff (fun h => q2 h.2)
      go_quiet (fail)
      go_wp2_with fail
      exact bodyPost_ret (v := .tuple #[.int .i64 y, .bool false]) (by simp only [results, Tryd.results31]; simp [go_sem]) rfl ⟨by rw [← HY.out, HE.out], by first | exact ndrewN HB.out _ | exact ndrewN (ndrewN HB.out _) _⟩
  · have d1 : decide (n.low ≤ y) = false := by simpa using q1
    have HE : Hid (dB (Dy.Fits n y) = false) := dB_ff (fun h => q1 h.1)
    go_quiet (fail)
    go_wp2_with fail
    exact bodyPost_ret (v := .tuple #[.int .i64 y, .bool false]) (by simp only [results, Tryd.results31]; simp [go_sem]) rfl ⟨by rw [← HY.out, HE.out], by first | exact ndrewN HB.out _ | exact ndrewN (ndrewN HB.out _) _⟩
set_option maxRecDepth 100000 in
set_option maxHeartbeats 4000000 in
theorem paid_any (n : Dy.Day) (la : Option Addr) (lk : Nat) (fa : Option Addr) (fk : Nat) (wa : Option Addr) (wk : Nat) (i m : Nat) (w : World) (h : DyAt n la fa wa w) (hr : Dy.Right n) (hi : i < n.wn) (hm : m < n.mn) :
    Calls Tryd.prog 33 #[dyV n la lk fa fk wa wk, .int .i64 i, .int .i64 m] w fun e w' => e = .returned (.int .i64 (n.M (m * 2 + 1) * n.P i)) ∧ Below w.heap.size w w' := by
  obtain ⟨W, hW⟩ : ∃ W, W = w.alloc (.cells #[.slice la n.mn lk, .slice fa n.wn fk, .slice wa n.pn wk, .int .i64 n.tank, .int .i64 n.low, .int .i64 n.high] 32) := ⟨_, rfl⟩
  have HB : Hid (Below w.heap.size w W) := by show Below _ _ _; rw [hW]; exact nbel_alloc _ _
  have HR : Hid (W.rowIs w.heap.size 32 6 (rowN (dyL n la lk fa fk wa wk))) := by show W.rowIs _ _ _ _; rw [hW]; exact rowN_alloc w _ _
  have HA := h.below HB.out
  have hmod := (hr.2.1.ms m hm).2
  have hip : i < n.pn := by have := hr.1.p; omega
  have hwan := hr.1.ps i hip
  obtain ⟨b, e, c0, c1⟩ := HA.l.at2 hm
  subst e
  obtain ⟨b2, e, d0⟩ := HA.w.at1 hip
  subst e
  have HW := Lib.hid hW
  have hmz : (m : Int) < (n.mn : Int) := by omega
  have hiz : (i : Int) < (n.pn : Int) := by omega
  obtain ⟨⟨p0, p1, p2, p3, p4, p5⟩, _⟩ := rowN6 HR.out
  obtain ⟨L, hL⟩ : ∃ L, L = n.M (m * 2 + 1) := ⟨_, rfl⟩
  obtain ⟨U, hU⟩ : ∃ U, U = n.P i := ⟨_, rfl⟩
  rw [← hL] at c1 hmod ⊢
  rw [← hU] at d0 hwan ⊢
  have k1 : 0 ≤ L * U := Int.mul_nonneg hmod.1 hwan.1
  have k2 : L * U ≤ 1000 * 1000 := Int.mul_le_mul hmod.2 hwan.2 hwan.1 (by omega)
  have zl : w.heap.size < W.heap.size := HR.out.lt
  clear hW h HA hr c0 hL hU
  go_enter Tryd.func33, Tryd.ntmps33
  go_wp2_with fail
  rw [← HW.out]
  clear HW
  go_quiet (fail)
  go_wp2_with fail
  go_ret
  exact ⟨rfl, ndrewN HB.out _⟩
theorem dput4 {V : World} {g : Nat} {x0 x1 x2 x3 : Value} {t : TypeId} (h : V.rowIs g t 4 (rowN [x0, x1, x2, x3])) (y0 y1 y2 y3 : Value) : ((((V.setCell ⟨g, 0, none⟩ y0).setCell ⟨g, 1, none⟩ y1).setCell ⟨g, 2, none⟩ y2).setCell ⟨g, 3, none⟩ y3).rowIs g t 4 (rowN [y0, y1, y2, y3]) :=
  rowN_put (rowN_put (rowN_put (rowN_put h 0 _ (by simp)) 1 _ (by simp)) 2 _ (by simp)) 3 _ (by simp)
theorem dbel4 {V w : World} {B g : Nat} (h : Below B w V) (hg : B ≤ g) (y0 y1 y2 y3 : Value) : Below B w ((((V.setCell ⟨g, 0, none⟩ y0).setCell ⟨g, 1, none⟩ y1).setCell ⟨g, 2, none⟩ y2).setCell ⟨g, 3, none⟩ y3) :=
  (((h.setCell (p := ⟨g, 0, none⟩) hg _).setCell (p := ⟨g, 1, none⟩) hg _).setCell (p := ⟨g, 2, none⟩) hg _).setCell (p := ⟨g, 3, none⟩) hg _
theorem dblk4 (V : World) {g k : Nat} (hk : k ≠ g) (y0 y1 y2 y3 : Value) : ((((V.setCell ⟨g, 0, none⟩ y0).setCell ⟨g, 1, none⟩ y1).setCell ⟨g, 2, none⟩ y2).setCell ⟨g, 3, none⟩ y3).heap[k]? = V.heap[k]? := by
  rw [Below.heap_setCell _ _ _ _ (by show k ≠ g; exact hk), Below.heap_setCell _ _ _ _ (by show k ≠ g; exact hk), Below.heap_setCell _ _ _ _ (by show k ≠ g; exact hk), Below.heap_setCell _ _ _ _ (by show k ≠ g; exact hk)]
end Go.Proofs.YtmfokilpfbcicaaDoor
