/-
  The program's BurstAt.
-/
import Derived.Test.YtlipgnjknfmikaaLkI3
namespace Go.Proofs.Ytlipgnjknfmikaa
open Go.RowKit Go.Deep
attribute [local go_sem] lrun_store_float

namespace Lk
def buOk (z : Int) (t : Nat) : Bool := decide (2 ≤ z ∧ z ≤ 400) && (Fl.measB t && !Fl.ltW t 0)
def bAt (f : Nat → Nat) (n : Nat) (z : Int) (t : Nat) : Int := if n ≤ 400 then (if buOk z t then buAt f z.toNat t n else -1) else 0
def bAb (f : Nat → Nat) (n : Nat) (z : Int) (t : Nat) : Nat := if n ≤ 400 then (if buOk z t then buAb f z.toNat t n else 0) else 0
theorem b_long {f : Nat → Nat} {n : Nat} {z : Int} {t : Nat} (h : ¬ n ≤ 400) : bAt f n z t = 0 ∧ bAb f n z t = 0 := by unfold bAt bAb; rw [if_neg h, if_neg h]; exact ⟨rfl, rfl⟩
theorem b_no {f : Nat → Nat} {n : Nat} {z : Int} {t : Nat} (h : n ≤ 400) (k : buOk z t = false) : bAt f n z t = -1 ∧ bAb f n z t = 0 := by unfold bAt bAb; rw [if_pos h, if_pos h, k]; exact ⟨rfl, rfl⟩
theorem b_yes {f : Nat → Nat} {n : Nat} {z : Int} {t : Nat} (h : n ≤ 400) (k : buOk z t = true) : bAt f n z t = buAt f z.toNat t n ∧ bAb f n z t = buAb f z.toNat t n := by unfold bAt bAb; rw [if_pos h, if_pos h, k]; exact ⟨rfl, rfl⟩
end Lk

set_option maxHeartbeats 4000000 in
theorem iBurst_any (a : Option Addr) (n cap : Nat) (f : Nat → Nat) (z : Int) (t : Nat) (w : World) (h : FlAt a n f w) :
    Calls Try.prog 18 #[.slice a n cap, .int .i64 z, .float .f64 t] w fun e w' => e = .returned (buV (Lk.bAt f n z t) (Lk.bAb f n z t)) ∧ Below w.heap.size w w' := by
  have H := Lib.hid h
  clear h
  by_cases hn : n ≤ 400
  rotate_left
  · have HA := Lib.hid (Lk.b_long (f := f) (z := z) (t := t) hn)
    have hz : (400 : Int) < (n : Int) := by omega
    clear hn
    go_enter Try.func18, Try.ntmps18
    go_wp2_with fail
    exact bodyPost_ret (v := buV 0 0) (by simp [results, Try.results18, go_sem]) rfl ⟨by rw [HA.out.1, HA.out.2], bel_alloc _ _⟩
  have hz : ¬ (400 : Int) < (n : Int) := by omega
  by_cases h2 : z < 2
  · have HA := Lib.hid (Lk.b_no (f := f) (z := z) (t := t) hn (by unfold Lk.buOk; rw [decide_eq_false (fun h => by omega)]; rfl))
    go_enter Try.func18, Try.ntmps18
    go_wp2_with fail
    exact bodyPost_ret (v := buV (-1) 0) (by simp [results, Try.results18, go_sem]) rfl ⟨by rw [HA.out.1, HA.out.2], bel_alloc _ _⟩
  by_cases h4 : 400 < z
  · have HA := Lib.hid (Lk.b_no (f := f) (z := z) (t := t) hn (by unfold Lk.buOk; rw [decide_eq_false (fun h => by omega)]; rfl))
    go_enter Try.func18, Try.ntmps18
    go_wp2_with fail
    exact bodyPost_ret (v := buV (-1) 0) (by simp [results, Try.results18, go_sem]) rfl ⟨by rw [HA.out.1, HA.out.2], bel_alloc _ _⟩
  cases hm : Fl.measB t
  · have HA := Lib.hid (Lk.b_no (f := f) (z := z) (t := t) hn (by unfold Lk.buOk; rw [hm, Bool.false_and, Bool.and_false]))
    go_enter Try.func18, Try.ntmps18
    go_wp2_with fail
    refine (implMeas_any _ _).mono ?_
    rintro e w1 ⟨rfl, rfl⟩
    go_wp2_with fail
    exact bodyPost_ret (v := buV (-1) 0) (by simp [results, Try.results18, go_sem]) rfl ⟨by rw [HA.out.1, HA.out.2], bel_alloc _ _⟩
  cases hl : Fl.ltW t 0
  rotate_left
  · have HA := Lib.hid (Lk.b_no (f := f) (z := z) (t := t) hn (by unfold Lk.buOk; rw [hl, Bool.not_true, Bool.and_false, Bool.and_false]))
    unfold Fl.ltW at hl
    go_enter Try.func18, Try.ntmps18
    go_wp2_with fail
    refine (implMeas_any _ _).mono ?_
    rintro e w1 ⟨rfl, rfl⟩
    go_wp2_with fail
    exact bodyPost_ret (v := buV (-1) 0) (by simp [results, Try.results18, go_sem]) rfl ⟨by rw [HA.out.1, HA.out.2], bel_alloc _ _⟩
  have HA := Lib.hid (Lk.b_yes (f := f) (z := z) (t := t) hn (by unfold Lk.buOk; rw [hm, hl, decide_eq_true (show 2 ≤ z ∧ z ≤ 400 from ⟨by omega, by omega⟩)]; rfl))
  unfold Fl.ltW at hl
  obtain ⟨s, hs, hzs⟩ : ∃ s : Nat, z.toNat = s ∧ z = (s : Int) := ⟨z.toNat, rfl, by omega⟩
  rw [hs] at HA
  subst hzs
  go_enter Try.func18, Try.ntmps18
  go_wp2_with fail
  refine (implMeas_any _ _).mono ?_
  rintro e w1 ⟨rfl, hw1⟩
  have HW := Lib.hid hw1
  clear hw1
  have HB1 : Hid (Below w.heap.size w w1) := by show Below _ _ _; rw [HW.out]; exact bel_alloc _ _
  have HR1 : Hid (w1.rowIs w.heap.size 35 2 (rowL (buL 0 0))) := by show World.rowIs _ _ _ _ _; rw [HW.out]; exact rowL_alloc w (buL 0 0) _
  clear HW
  go_wp2_with fail
  refine (readsOf_any a n cap f _ (H.out.below HB1.out) hn).mono ?_
  rintro e w2 ⟨rfl, hr2, hb2⟩
  have HR2 := Lib.hid (wrow_below HR1.out hb2)
  have HB2 := Lib.hid (HB1.out.trans (hb2.mono HB1.out.size))
  have HD := Lib.hid hr2
  clear hr2 hb2 HR1 HB1
  go_wp2_with fail
  refine (firstBurst_any _ n _ s t f _ HD.out (by omega) (by omega) hm hn).mono ?_
  rintro e w3 ⟨rfl, hb3⟩
  have HR3 := Lib.hid (wrow_below HR2.out hb3)
  have HB3 := Lib.hid (HB2.out.trans (hb3.mono HB2.out.size))
  clear hb3 HR2 HB2
  obtain ⟨c0, c1, f0, f1, l0⟩ := told2 HR3.out
  go_wp2_with fail
  exact bodyPost_ret (v := buV (Lk.buAt f s t n) (Lk.buAb f s t n)) (by simp [results, Try.results18, go_sem, c0, c1]) rfl ⟨by rw [HA.out.1, HA.out.2], lbelow_set2 HB3.out (Nat.le_refl _) _ _⟩
end Go.Proofs.Ytlipgnjknfmikaa
