/-
  The sum and the count of the measures of a list of float64 words, from the left. No program is named here.
-/
import Derived.Test.YtlipgnjknfmikaaFloat
namespace Go.Proofs.Ytlipgnjknfmikaa.Fl
open Ieee

/-- The k-th word. -/
def el (zs : List Nat) (k : Nat) : Nat := zs.getD k 0
def addF (acc x : Nat) : Nat := if measB x then (floatBits .add .f64 acc x).getD 0 else acc
def sumTo (zs : List Nat) (k : Nat) : Nat := (zs.take k).foldl addF 0
def cntTo (zs : List Nat) (k : Nat) : Nat := ((zs.take k).filter measB).length

theorem take_snoc (zs : List Nat) (k : Nat) (h : k < zs.length) : zs.take (k + 1) = zs.take k ++ [el zs k] := by
  rw [List.take_succ_eq_append_getElem h]
  simp [el, List.getD, List.getElem?_eq_getElem h]

theorem sumTo_succ (zs : List Nat) (k : Nat) (h : k < zs.length) : sumTo zs (k + 1) = addF (sumTo zs k) (el zs k) := by
  unfold sumTo; rw [take_snoc zs k h, List.foldl_append]; rfl

theorem cntTo_succ (zs : List Nat) (k : Nat) (h : k < zs.length) : cntTo zs (k + 1) = cntTo zs k + if measB (el zs k) then 1 else 0 := by
  unfold cntTo; rw [take_snoc zs k h, List.filter_append, List.length_append]
  cases hm : measB (el zs k) <;> simp [hm]

theorem cntTo_le (zs : List Nat) (k : Nat) : cntTo zs k ≤ k := by
  unfold cntTo
  have h1 := List.length_filter_le measB (zs.take k)
  have h2 := List.length_take_le k zs
  omega

theorem good_addF (acc x : Nat) (h : good (double.read acc)) : good (double.read (addF acc x)) ∧ (measB x = true → floatBits .add .f64 acc x = some (addF acc x)) := by
  unfold addF
  cases hm : measB x
  · exact ⟨by simpa using h, fun k => by cases k⟩
  · obtain ⟨s, m, e, hr, _⟩ := meas_read x hm
    obtain ⟨r, h1, h2⟩ := add_good acc x h ⟨s, m, e, hr⟩
    rw [h1]
    exact ⟨by simpa using h2, fun _ => by simp⟩

theorem good_zero : good (double.read 0) := by rw [zero_read]; intro s t; simp

theorem good_fold (l : List Nat) (acc : Nat) (h : good (double.read acc)) : good (double.read (l.foldl addF acc)) := by
  induction l generalizing acc with
  | nil => exact h
  | cons x l ih => exact ih _ (good_addF acc x h).1

theorem good_sumTo (zs : List Nat) (k : Nat) : good (double.read (sumTo zs k)) := good_fold _ _ good_zero

/-- A count from 1 to 400 as a float64 is a number that is not nought. -/
def cntOk (n : Nat) : Bool := match double.read (floatOfInt .f64 (n : Int)) with
  | .number _ m _ => m != 0
  | _ => false
theorem cnt_all : (List.range 400).all (fun n => cntOk (n + 1)) = true := by decide +kernel
theorem cnt_read (n : Nat) (h0 : n ≠ 0) (h : n ≤ 400) : ∃ s m e, double.read (floatOfInt .f64 (n : Int)) = .number s m e ∧ m ≠ 0 := by
  have hk := List.all_eq_true.1 cnt_all (n - 1) (by simp; omega)
  rw [show n - 1 + 1 = n by omega] at hk
  unfold cntOk at hk
  cases hd : double.read (floatOfInt .f64 (n : Int)) with
  | nan a b => rw [hd] at hk; cases hk
  | infinity a => rw [hd] at hk; cases hk
  | number s m e => rw [hd] at hk; exact ⟨s, m, e, rfl, by simpa using hk⟩

theorem mean_some (zs : List Nat) (k n : Nat) (h0 : n ≠ 0) (h : n ≤ 400) : ∃ r, floatBits .quo .f64 (sumTo zs k) (floatOfInt .f64 (n : Int)) = some r :=
  div_good _ _ (good_sumTo zs k) (cnt_read n h0 h)
end Go.Proofs.Ytlipgnjknfmikaa.Fl
