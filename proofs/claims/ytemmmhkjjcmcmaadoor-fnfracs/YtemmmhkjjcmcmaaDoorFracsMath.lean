/-
  Plain arithmetic of two right fractions: what was added and multiplied comes back.
-/
import Derived.Test.YtemmmhkjjcmcmaaDoorCmp
import Derived.Test.YtemmmhkjjcmcmaaDoorOpCommon
namespace Go.Proofs.YtemmmhkjjcmcmaaDoor.M

theorem dvd_of_coprime {a b c : Nat} (h : Nat.gcd a b = 1) (hd : a ∣ b * c) : a ∣ c := Nat.Coprime.dvd_of_dvd_mul_left h hd

/-- Lowest terms are unique. -/
theorem low_unique (n d p q : Int) (hr : rightB n d = true) (hq : q ≠ 0) (hp : p ≠ -9223372036854775808) (hq2 : q ≠ -9223372036854775808) (h : p * d = n * q) :
    codeF p q = 0 ∧ oN p q = n ∧ oD p q = d := by
  have r := (rightB_iff n d).1 hr
  obtain ⟨r1, r2, r3, r4, r5⟩ := r
  obtain ⟨f1, _, _, f4, f5⟩ := low_facts p q hq
  have key : lowN p q * d = n * lowD p q := by
    have : q * (lowN p q * d) = q * (n * lowD p q) := by
      calc q * (lowN p q * d) = (lowN p q * q) * d := by rw [← Int.mul_assoc, Int.mul_comm q]
        _ = (p * lowD p q) * d := by rw [f4]
        _ = (p * d) * lowD p q := by rw [Int.mul_assoc, Int.mul_comm (lowD p q), ← Int.mul_assoc]
        _ = (n * q) * lowD p q := by rw [h]
        _ = q * (n * lowD p q) := by rw [Int.mul_comm n q, Int.mul_assoc]
    exact Int.eq_of_mul_eq_mul_left hq this
  have hab : (lowN p q).natAbs * d.natAbs = n.natAbs * (lowD p q).natAbs := by
    rw [← Int.natAbs_mul, ← Int.natAbs_mul, key]
  have g1 : Nat.gcd d.natAbs n.natAbs = 1 := by rw [Nat.gcd_comm]; exact r5
  have g2 : Nat.gcd (lowD p q).natAbs (lowN p q).natAbs = 1 := by rw [Nat.gcd_comm]; exact f5
  have d1 : d.natAbs ∣ (lowD p q).natAbs := dvd_of_coprime g1 ⟨(lowN p q).natAbs, by rw [← hab, Nat.mul_comm]⟩
  have d2 : (lowD p q).natAbs ∣ d.natAbs := dvd_of_coprime g2 ⟨n.natAbs, by rw [hab, Nat.mul_comm]⟩
  have e1 : d.natAbs = (lowD p q).natAbs := Nat.dvd_antisymm d1 d2
  have e2 : lowD p q = d := by omega
  rw [e2] at key
  have e3 : lowN p q = n := Int.eq_of_mul_eq_mul_right (by omega) key
  have hc : codeF p q = 0 := by
    unfold codeF
    rw [if_neg hq, if_neg (by omega), e2, e3, if_neg (by omega)]
  unfold oN oD
  rw [if_pos hc, if_pos hc]
  exact ⟨hc, e3, e2⟩

theorem code_ok {p q : Int} (h : codeF p q = 0) : q ≠ 0 ∧ p ≠ -9223372036854775808 ∧ q ≠ -9223372036854775808 := by
  unfold codeF at h
  by_cases k : q = 0
  · rw [if_pos k] at h; omega
  · rw [if_neg k] at h
    by_cases k2 : p = -9223372036854775808 ∨ q = -9223372036854775808
    · rw [if_pos k2] at h; omega
    · exact ⟨k, by omega, by omega⟩

theorem o_right {p q : Int} (h : codeF p q = 0) : rightB (oN p q) (oD p q) = true ∧ oN p q * q = p * oD p q := by
  obtain ⟨k1, k2, k3⟩ := code_ok h
  unfold oN oD
  rw [if_pos h, if_pos h]
  exact ⟨(right_low p q k1 k2 k3).2 h, (low_facts p q k1).2.2.2.1⟩

/-- The sum less the second is the first. -/
theorem back_sub (n1 d1 n2 d2 : Int) (h1 : rightB n1 d1 = true) (h2 : rightB n2 d2 = true) (hc : codeF (n1 * d2 + n2 * d1) (d1 * d2) = 0) (x y : Int) (hx : x = oN (n1 * d2 + n2 * d1) (d1 * d2)) (hy : y = oD (n1 * d2 + n2 * d1) (d1 * d2)) :
    xN (rightB x y && rightB n2 d2) (x * d2 - n2 * y) (y * d2) = n1 ∧ xD (rightB x y && rightB n2 d2) (x * d2 - n2 * y) (y * d2) = d1 ∧ xC (rightB x y && rightB n2 d2) (x * d2 - n2 * y) (y * d2) = 0 := by
  obtain ⟨k1, k2⟩ := o_right hc
  rw [← hx, ← hy] at k1 k2
  have a := (rightB_iff x y).1 k1
  have b := (rightB_iff n2 d2).1 h2
  have p1 := prod_bd a.2.2.1 a.2.2.2.1 b.1 b.2.1
  have p2 := prod_bd b.2.2.1 b.2.2.2.1 a.1 a.2.1
  have p3 := prod_bd (a := y) (b := d2) (by omega) a.2.1 b.1 b.2.1
  have p4 := pos_prod a.1 b.1
  obtain ⟨c0, c1, c2⟩ := low_unique n1 d1 (x * d2 - n2 * y) (y * d2) h1 p4 (by omega) (by omega) (by
    have e1 : (x * d2 - n2 * y) * d1 = x * (d1 * d2) - n2 * d1 * y := by
      rw [Int.sub_mul, Int.mul_assoc x d2 d1, Int.mul_comm d2 d1, Int.mul_assoc n2 y d1, Int.mul_comm y d1, ← Int.mul_assoc n2 d1 y]
    rw [e1, k2, Int.add_mul, Int.add_sub_cancel, Int.mul_assoc, Int.mul_comm d2 y])
  rw [k1, h2]
  exact ⟨c1, c2, c0⟩

/-- The product by the second is the first. -/
theorem back_div (n1 d1 n2 d2 : Int) (h1 : rightB n1 d1 = true) (h2 : rightB n2 d2 = true) (hn : n2 ≠ 0) (hc : codeF (n1 * n2) (d1 * d2) = 0) (x y : Int) (hx : x = oN (n1 * n2) (d1 * d2)) (hy : y = oD (n1 * n2) (d1 * d2)) :
    xN (rightB x y && rightB n2 d2) (x * d2) (y * n2) = n1 ∧ xD (rightB x y && rightB n2 d2) (x * d2) (y * n2) = d1 ∧ xC (rightB x y && rightB n2 d2) (x * d2) (y * n2) = 0 := by
  obtain ⟨k1, k2⟩ := o_right hc
  rw [← hx, ← hy] at k1 k2
  have a := (rightB_iff x y).1 k1
  have b := (rightB_iff n2 d2).1 h2
  have p1 := prod_bd a.2.2.1 a.2.2.2.1 b.1 b.2.1
  have p3 := prod_bd2 (a := y) (b := n2) (by omega) a.2.1 b.2.2.1 b.2.2.2.1
  obtain ⟨c0, c1, c2⟩ := low_unique n1 d1 (x * d2) (y * n2) h1 (Int.mul_ne_zero (by omega) hn) (by omega) (by omega) (by
    rw [Int.mul_assoc, Int.mul_comm d2 d1, k2, Int.mul_assoc, Int.mul_comm n2 y])
  rw [k1, h2]
  exact ⟨c1, c2, c0⟩

theorem cmp_sign (n1 d1 n2 d2 : Int) (h1 : rightB n1 d1 = true) (h2 : rightB n2 d2 = true) (hc : codeF (n1 * d2 - n2 * d1) (d1 * d2) = 0) :
    decide (0 < oN (n1 * d2 - n2 * d1) (d1 * d2)) = decide (0 < cmpF n1 d1 n2 d2) := by
  obtain ⟨k1, k2⟩ := o_right hc
  have a := (rightB_iff n1 d1).1 h1
  have b := (rightB_iff n2 d2).1 h2
  have r := (rightB_iff _ _).1 k1
  generalize oN (n1 * d2 - n2 * d1) (d1 * d2) = x at *
  generalize oD (n1 * d2 - n2 * d1) (d1 * d2) = y at *
  have hQ : 0 < d1 * d2 := Int.mul_pos (by omega) (by omega)
  unfold cmpF
  rw [h1, h2]
  simp only [Bool.and_self, if_true]
  unfold cmpI
  generalize n1 * d2 = u at *
  generalize n2 * d1 = v at *
  generalize d1 * d2 = q at *
  by_cases hlt : v < u
  · have : 0 < (u - v) * y := Int.mul_pos (by omega) (by omega)
    have hx : 0 < x := by
      rcases Int.lt_or_le 0 x with k | k
      · exact k
      · have := Int.mul_nonpos_of_nonpos_of_nonneg k (Int.le_of_lt hQ); omega
    rw [if_neg (by omega), if_pos hlt]; simp [hx]
  · have : (u - v) * y ≤ 0 := Int.mul_nonpos_of_nonpos_of_nonneg (by omega) (by omega)
    have hx : ¬ 0 < x := by
      intro k
      have := Int.mul_pos k hQ; omega
    rw [if_neg hlt]
    split <;> simp [hx] <;> omega

theorem cmp_self (n d : Int) : cmpF n d n d = 0 := by
  unfold cmpF cmpI
  split
  · rw [if_neg (Int.lt_irrefl _), if_neg (Int.lt_irrefl _)]
  · rfl

theorem cmp_turn (n1 d1 n2 d2 : Int) : cmpF n1 d1 n2 d2 = - cmpF n2 d2 n1 d1 ∧ -1 ≤ cmpF n2 d2 n1 d1 ∧ cmpF n2 d2 n1 d1 ≤ 1 := by
  unfold cmpF cmpI
  rw [Bool.and_comm]
  split
  · split
    · omega
    · split <;> omega
  · omega
end Go.Proofs.YtemmmhkjjcmcmaaDoor.M
