/-
  The numbers of a plant's run.
-/
import Derived.Test.YtcjeieagpcphjaaDoorWkMath
namespace Go.Proofs.YtcjeieagpcphjaaDoor
namespace Wk

/-- What a plant tells. -/
structure PO where
  clean : Bt
  waste : Bt
  fl : Fl
  washes : Int
  c : Int
def badP (c : Int) : PO := ⟨nil, nil, flNil, 0, c⟩
section
variable (m : Nat) (mi : Nat → Int) (bs : Nat → Bt) (f : Fl)
/-- The filter ahead of the i-th batch. -/
noncomputable def pfl : Nat → Fl
  | 0 => f
  | i + 1 => (step (pfl i) (settle (bs i) m mi).x).f
noncomputable def pse (i : Nat) : PA := settle (bs i) m mi
noncomputable def pst (i : Nat) : FO := step (pfl m mi bs f i) (pse m mi bs i).x
open Classical in
noncomputable def pfault (i : Nat) : Int := if (pse m mi bs i).c = 0 then (pst m mi bs f i).c else (pse m mi bs i).c
open Classical in
/-- The code of the first fault among the first batches. -/
noncomputable def pcode : Nat → Int
  | 0 => 0
  | i + 1 => if pcode i = 0 then pfault m mi bs f i else pcode i
noncomputable def pclean (i : Nat) : Bt := (pst m mi bs f i).clean
noncomputable def pwaste (j : Nat) : Bt := if j % 2 = 0 then (pse m mi bs (j / 2)).y else (pst m mi bs f (j / 2)).waste
open Classical in
noncomputable def pwash : Nat → Int
  | 0 => 0
  | i + 1 => pwash i + (if 0 < (pst m mi bs f i).waste.f 0 then 1 else 0)
open Classical in
noncomputable def plant (k : Nat) : PO :=
  if 400 < m ∨ 60 < k then badP 2
  else if pcode m mi bs f k = 0 then
    (if (mix k (pclean m mi bs f)).c = 0 then
      (if (mix (k * 2) (pwaste m mi bs f)).c = 0 then ⟨(mix k (pclean m mi bs f)).x, (mix (k * 2) (pwaste m mi bs f)).x, pfl m mi bs f k, pwash m mi bs f k, 0⟩
      else badP (mix (k * 2) (pwaste m mi bs f)).c)
    else badP (mix k (pclean m mi bs f)).c)
  else badP (pcode m mi bs f k)
variable {m mi bs f}
theorem pfl_succ (i : Nat) : pfl m mi bs f (i + 1) = (pst m mi bs f i).f := rfl
theorem pwaste_even (i : Nat) : pwaste m mi bs f (i * 2) = (pse m mi bs i).y := by
  unfold pwaste; rw [if_pos (by omega), show i * 2 / 2 = i by omega]
theorem pwaste_odd (i : Nat) : pwaste m mi bs f (i * 2 + 1) = (pst m mi bs f i).waste := by
  unfold pwaste; rw [if_neg (by omega), show (i * 2 + 1) / 2 = i by omega]
theorem pcode_stop {i k : Nat} (h : pcode m mi bs f i = 0) (h2 : pfault m mi bs f i ≠ 0) (hi : i < k) : pcode m mi bs f k = pfault m mi bs f i := by
  induction k with
  | zero => omega
  | succ k ih =>
    by_cases e : i = k
    · subst e; simp only [pcode]; rw [if_pos h]
    · have := ih (by omega)
      simp only [pcode]; rw [if_neg (by rw [this]; exact h2), this]
theorem pcode_next {i : Nat} (h : pcode m mi bs f i = 0) (h1 : (pse m mi bs i).c = 0) (h2 : (pst m mi bs f i).c = 0) : pcode m mi bs f (i + 1) = 0 := by
  simp only [pcode]; rw [if_pos h]; unfold pfault; rw [if_pos h1]; exact h2
theorem plant_big (k : Nat) (h : 400 < m ∨ 60 < k) : plant m mi bs f k = badP 2 := by unfold plant; rw [if_pos h]
theorem plant_settle {i k : Nat} (hs : ¬ (400 < m ∨ 60 < k)) (h : pcode m mi bs f i = 0) (h1 : (pse m mi bs i).c ≠ 0) (hi : i < k) : plant m mi bs f k = badP (pse m mi bs i).c := by
  have e : pfault m mi bs f i = (pse m mi bs i).c := by unfold pfault; rw [if_neg h1]
  have e2 := pcode_stop h (by rw [e]; exact h1) hi
  unfold plant; rw [if_neg hs, if_neg (by rw [e2, e]; exact h1), e2, e]
theorem plant_filter {i k : Nat} (hs : ¬ (400 < m ∨ 60 < k)) (h : pcode m mi bs f i = 0) (h1 : (pse m mi bs i).c = 0) (h2 : (pst m mi bs f i).c ≠ 0) (hi : i < k) : plant m mi bs f k = badP (pst m mi bs f i).c := by
  have e : pfault m mi bs f i = (pst m mi bs f i).c := by unfold pfault; rw [if_pos h1]
  have e2 := pcode_stop h (by rw [e]; exact h2) hi
  unfold plant; rw [if_neg hs, if_neg (by rw [e2, e]; exact h2), e2, e]
theorem plant_clean {k : Nat} (hs : ¬ (400 < m ∨ 60 < k)) (h : pcode m mi bs f k = 0) (h1 : (mix k (pclean m mi bs f)).c ≠ 0) : plant m mi bs f k = badP (mix k (pclean m mi bs f)).c := by
  unfold plant; rw [if_neg hs, if_pos h, if_neg h1]
theorem plant_waste {k : Nat} (hs : ¬ (400 < m ∨ 60 < k)) (h : pcode m mi bs f k = 0) (h1 : (mix k (pclean m mi bs f)).c = 0) (h2 : (mix (k * 2) (pwaste m mi bs f)).c ≠ 0) : plant m mi bs f k = badP (mix (k * 2) (pwaste m mi bs f)).c := by
  unfold plant; rw [if_neg hs, if_pos h, if_pos h1, if_neg h2]
theorem plant_ok {k : Nat} (hs : ¬ (400 < m ∨ 60 < k)) (h : pcode m mi bs f k = 0) (h1 : (mix k (pclean m mi bs f)).c = 0) (h2 : (mix (k * 2) (pwaste m mi bs f)).c = 0) : plant m mi bs f k = ⟨(mix k (pclean m mi bs f)).x, (mix (k * 2) (pwaste m mi bs f)).x, pfl m mi bs f k, pwash m mi bs f k, 0⟩ := by
  unfold plant; rw [if_neg hs, if_pos h, if_pos h1, if_pos h2]
theorem pwash_bounds (i : Nat) : 0 ≤ pwash m mi bs f i ∧ pwash m mi bs f i ≤ i := by
  induction i with
  | zero => simp [pwash]
  | succ i ih =>
    simp only [pwash]
    split <;> omega
end
/-- A step that goes well. -/
theorem step_good {f : Fl} {b : Bt} (h : (step f b).c = 0) : StepOk f b ∧ ¬ 1000000000 < f.held + caught f b ∧ step f b = filt f b := by
  unfold step at h ⊢
  split at h
  · rename_i h1
    split at h
    · simp [badF] at h
    · rename_i h2
      rw [if_pos h1, if_neg h2]; exact ⟨h1, h2, rfl⟩
  · simp [badF] at h
theorem filt_n (f : Fl) (b : Bt) : (filt f b).clean.n = b.n ∧ (filt f b).waste.n = b.n := by
  unfold filt; split <;> exact ⟨rfl, rfl⟩
/-- A wash is told both by the filter and by the waste. -/
theorem wash_iff {f : Fl} {b : Bt} (h : (step f b).c = 0) : ((step f b).f.held < f.held ∨ ((step f b).f.held = 0 ∧ 0 < (step f b).waste.f 0)) ↔ 0 < (step f b).waste.f 0 := by
  obtain ⟨h1, h2, h3⟩ := step_good h
  have hc := caught_bounds h1
  have hf := h1.1
  rw [h3]
  unfold filt
  split
  · rename_i hw
    have := hw.1
    have := hf.2.1.1
    simp only [upd0]
    simp
    omega
  · simp
    omega
theorem waste0 {f : Fl} {b : Bt} (h : (step f b).c = 0) : 0 ≤ (step f b).waste.f 0 ∧ (step f b).waste.f 0 ≤ 2000000000 := by
  obtain ⟨h1, h2, h3⟩ := step_good h
  have hc := caught_bounds h1
  have hf := h1.1
  have := hf.1.1
  rw [h3]
  unfold filt
  split
  · simp only [upd0]; simp; omega
  · simp
theorem settle_good {b : Bt} {m : Nat} {mi : Nat → Int} (h : (settle b m mi).c = 0) : SettleOk b m mi ∧ settle b m mi = ⟨cut b 0 (sett b mi), ⟨0, b.n, sett b mi⟩, 0⟩ := by
  unfold settle at h ⊢
  split at h
  · simp [bad] at h
  · rename_i h1
    split at h
    · rename_i h2
      rw [if_neg h1, if_pos h2]; exact ⟨h2, rfl⟩
    · simp [bad] at h
theorem settle_bad {b : Bt} {m : Nat} {mi : Nat → Int} (hm : ¬ 400 < m) (h : ¬ SettleOk b m mi) : settle b m mi = bad 1 := by unfold settle; rw [if_neg hm, if_neg h]
theorem settle_ok {b : Bt} {m : Nat} {mi : Nat → Int} (hm : ¬ 400 < m) (h : SettleOk b m mi) : settle b m mi = ⟨cut b 0 (sett b mi), ⟨0, b.n, sett b mi⟩, 0⟩ := by unfold settle; rw [if_neg hm, if_pos h]
end Wk
end Go.Proofs.YtcjeieagpcphjaaDoor
