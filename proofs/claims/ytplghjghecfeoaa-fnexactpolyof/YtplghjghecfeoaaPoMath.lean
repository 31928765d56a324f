/-
  The coefs of a product of factors, as plain functions of words.
-/
import Derived.Test.YtplghjghecfeoaaLpPo
namespace Go.Proofs.Ytplghjghecfeoaa.Fl
open Ieee

def one1 : Nat := 4607182418800017408
/-- The coefs behind m roots. -/
def pf (r s : Nat → Nat) : Nat → Nat → Nat × Nat
  | 0, k => if k = 0 then (one1, 0) else (0, 0)
  | m + 1, k => (subW (if k = 0 then (0, 0) else pf r s m (k - 1)).1 (cRe (if k ≤ m then pf r s m k else (0, 0)).1 (if k ≤ m then pf r s m k else (0, 0)).2 (r m) (s m)), subW (if k = 0 then (0, 0) else pf r s m (k - 1)).2 (cIm (if k ≤ m then pf r s m k else (0, 0)).1 (if k ≤ m then pf r s m k else (0, 0)).2 (r m) (s m)))
/-- What stands at a place ahead: what stood one lower. -/
def low (r s : Nat → Nat) (m k : Nat) : Nat × Nat := if k = 0 then (0, 0) else pf r s m (k - 1)
def own (r s : Nat → Nat) (m k : Nat) : Nat × Nat := if k ≤ m then pf r s m k else (0, 0)
theorem pf_succ (r s : Nat → Nat) (m k : Nat) : pf r s (m + 1) k = (subW (low r s m k).1 (cRe (own r s m k).1 (own r s m k).2 (r m) (s m)), subW (low r s m k).2 (cIm (own r s m k).1 (own r s m k).2 (r m) (s m))) := rfl
def rights (r s : Nat → Nat) (n : Nat) : Prop := ∀ i, i < n → rightB (r i) (s i) = true
theorem one_bd : Bd 29 one1 := ⟨false, 4503599627370496, -52, one_read, Or.inr (by decide)⟩
theorem pf_bd {r s : Nat → Nat} : ∀ m k : Nat, rights r s m → m ≤ 15 → Bd (29 + 36 * m) (pf r s m k).1 ∧ Bd (29 + 36 * m) (pf r s m k).2
  | 0, k, _, _ => by
    show Bd _ (if k = 0 then (one1, 0) else (0, 0) : Nat × Nat).1 ∧ Bd _ (if k = 0 then (one1, 0) else (0, 0) : Nat × Nat).2
    by_cases e : k = 0
    · rw [if_pos e]; exact ⟨one_bd.mono (by omega), bd_zero _⟩
    · rw [if_neg e]; exact ⟨bd_zero _, bd_zero _⟩
  | m + 1, k, h, hm => by
    have ih := fun k => pf_bd m k (fun i hi => h i (by omega)) (by omega)
    have hl : Bd (29 + 36 * m) (low r s m k).1 ∧ Bd (29 + 36 * m) (low r s m k).2 := by
      unfold low
      by_cases e : k = 0
      · rw [if_pos e]; exact ⟨bd_zero _, bd_zero _⟩
      · rw [if_neg e]; exact ih _
    have ho : Bd (29 + 36 * m) (own r s m k).1 ∧ Bd (29 + 36 * m) (own r s m k).2 := by
      unfold own
      by_cases e : k ≤ m
      · rw [if_pos e]; exact ih _
      · rw [if_neg e]; exact ⟨bd_zero _, bd_zero _⟩
    have hr := rightB_iff (h m (by omega))
    have hc := cmul_bd ho.1 ho.2 hr.1 hr.2 (by omega) (by omega)
    have a1 := subW_bd (hl.1.mono (by omega)) hc.bre (by omega) (by omega)
    have a2 := subW_bd (hl.2.mono (by omega)) hc.bim (by omega) (by omega)
    rw [pf_succ]
    exact ⟨a1.2.mono (by omega), a2.2.mono (by omega)⟩
/-- A step at one place. -/
structure PfStep (r s : Nat → Nat) (m k : Nat) : Prop where
  mul : ∃ q, CMul q (own r s m k).1 (own r s m k).2 (r m) (s m)
  re : floatBits .sub .f64 (low r s m k).1 (cRe (own r s m k).1 (own r s m k).2 (r m) (s m)) = some (pf r s (m + 1) k).1
  im : floatBits .sub .f64 (low r s m k).2 (cIm (own r s m k).1 (own r s m k).2 (r m) (s m)) = some (pf r s (m + 1) k).2
theorem pf_step {r s : Nat → Nat} {m : Nat} (k : Nat) (h : rights r s (m + 1)) (hm : m + 1 ≤ 15) : PfStep r s m k := by
  have ih := fun k => pf_bd m k (fun i hi => h i (by omega)) (by omega)
  have hl : Bd (29 + 36 * m) (low r s m k).1 ∧ Bd (29 + 36 * m) (low r s m k).2 := by
    unfold low
    by_cases e : k = 0
    · rw [if_pos e]; exact ⟨bd_zero _, bd_zero _⟩
    · rw [if_neg e]; exact ih _
  have ho : Bd (29 + 36 * m) (own r s m k).1 ∧ Bd (29 + 36 * m) (own r s m k).2 := by
    unfold own
    by_cases e : k ≤ m
    · rw [if_pos e]; exact ih _
    · rw [if_neg e]; exact ⟨bd_zero _, bd_zero _⟩
  have hr := rightB_iff (h m (by omega))
  have hc := cmul_bd ho.1 ho.2 hr.1 hr.2 (by omega) (by omega)
  have a1 := subW_bd (hl.1.mono (by omega)) hc.bre (by omega) (by omega)
  have a2 := subW_bd (hl.2.mono (by omega)) hc.bim (by omega) (by omega)
  exact ⟨⟨_, hc⟩, by rw [pf_succ]; exact a1.1, by rw [pf_succ]; exact a2.1⟩
theorem PfStep.bits {r s : Nat → Nat} {m k : Nat} (h : PfStep r s m k) : cSumBits .sub .f64 (low r s m k).1 (low r s m k).2 (cRe (own r s m k).1 (own r s m k).2 (r m) (s m)) (cIm (own r s m k).1 (own r s m k).2 (r m) (s m)) = some ((pf r s (m + 1) k).1, (pf r s (m + 1) k).2) := by
  unfold cSumBits
  rw [h.re, h.im]
  rfl
theorem mul_zero {x : Nat} (h : Bd 29 x) : mulW 0 x = 0 ∨ mulW 0 x = 9223372036854775808 := by
  obtain ⟨t, n, f, hr, _⟩ := h
  have hm : double.mul 0 x = some (double.write (.number (false ^^ t) (0 * n) (-1074 + f))) := by
    unfold Format.mul
    rw [zero_read, hr]
    rfl
  have hw : mulW 0 x = double.write (.number (false ^^ t) (0 * n) (-1074 + f)) := by
    unfold mulW
    show (double.mul 0 x).getD 0 = _
    rw [hm]; rfl
  rw [hw, Nat.zero_mul]
  show double.nearest _ 0 _ = 0 ∨ double.nearest _ 0 _ = _
  unfold Format.nearest
  rw [if_pos rfl]
  unfold Format.word
  rw [double_sw]
  cases t
  · left; rfl
  · right; rfl
theorem sub_dec : (subW 0 0 = 0 ∧ subW 0 9223372036854775808 = 0) ∧ (subW 9223372036854775808 0 = 9223372036854775808 ∧ subW 9223372036854775808 9223372036854775808 = 0) ∧ (subW one1 0 = one1 ∧ subW one1 9223372036854775808 = one1) := by decide +kernel
theorem add_dec : (addW 0 0 = 0 ∧ addW 0 9223372036854775808 = 0) ∧ (addW 9223372036854775808 0 = 0 ∧ addW 9223372036854775808 9223372036854775808 = 9223372036854775808) := by decide +kernel
theorem lead_step {r s : Nat} (hr : Bd 29 r) (hs : Bd 29 s) : subW one1 (cRe 0 0 r s) = one1 ∧ subW 0 (cIm 0 0 r s) = 0 := by
  obtain ⟨⟨s1, s2⟩, ⟨s3, s4⟩, s5, s6⟩ := sub_dec
  obtain ⟨⟨a1, a2⟩, a3, a4⟩ := add_dec
  have h1 : cRe 0 0 r s = 0 ∨ cRe 0 0 r s = 9223372036854775808 := by
    unfold cRe
    rcases mul_zero hr with e | e <;> rcases mul_zero hs with e' | e' <;> rw [e, e'] <;> simp [s1, s2, s3, s4]
  have h2 : cIm 0 0 r s = 0 ∨ cIm 0 0 r s = 9223372036854775808 := by
    unfold cIm
    rcases mul_zero hr with e | e <;> rcases mul_zero hs with e' | e' <;> rw [e, e'] <;> simp [a1, a2, a3, a4]
  constructor
  · rcases h1 with e | e <;> rw [e]
    · exact s5
    · exact s6
  · rcases h2 with e | e <;> rw [e]
    · exact s1
    · exact s2
theorem pf_lead {r s : Nat → Nat} : ∀ m, rights r s m → pf r s m m = (one1, 0)
  | 0, _ => rfl
  | m + 1, h => by
    have ih := pf_lead m (fun i hi => h i (by omega))
    have hr := rightB_iff (h m (by omega))
    have e1 : low r s m (m + 1) = (one1, 0) := by unfold low; rw [if_neg (by omega)]; exact ih
    have e2 : own r s m (m + 1) = (0, 0) := by unfold own; rw [if_neg (by omega)]
    rw [pf_succ, e1, e2]
    have := lead_step hr.1 hr.2
    show (subW one1 (cRe 0 0 (r m) (s m)), subW 0 (cIm 0 0 (r m) (s m))) = _
    rw [this.1, this.2]
/-- The last place of the new list is the last of the old one. -/
theorem low_last {r s : Nat → Nat} (m : Nat) (h : rights r s (m + 1)) : low r s m (m + 1) = pf r s (m + 1) (m + 1) := by
  rw [pf_lead (m + 1) h]
  unfold low
  rw [if_neg (by omega)]
  exact pf_lead m (fun i hi => h i (by omega))
theorem own_in {r s : Nat → Nat} {m k : Nat} (h : k ≤ m) : own r s m k = pf r s m k := by unfold own; rw [if_pos h]
end Go.Proofs.Ytplghjghecfeoaa.Fl
