/-
  Plain arithmetic for the numbers of the document: when a quotient in lowest terms is the pair that was handed in. No program is named here.
-/
namespace Go.Proofs.YtogfjomfhenhfaaGreatDoor.M

/-- Is the pair a right fraction: below from 1 to 2147483647, above from -2147483647 to 2147483647, no number above 1 divides both. -/
def rightB (n d : Int) : Bool := decide (1 ≤ d) && decide (d ≤ 2147483647) && decide (-2147483647 ≤ n) && decide (n ≤ 2147483647) && decide (Int.gcd n d = 1)

theorem rightB_iff (n d : Int) : rightB n d = true ↔ (1 ≤ d ∧ d ≤ 2147483647 ∧ -2147483647 ≤ n ∧ n ≤ 2147483647 ∧ Int.gcd n d = 1) := by
  unfold rightB
  simp only [Bool.and_eq_true, decide_eq_true_eq]
  constructor
  · rintro ⟨⟨⟨⟨a, b⟩, c⟩, d⟩, e⟩; exact ⟨a, b, c, d, e⟩
  · rintro ⟨a, b, c, d, e⟩; exact ⟨⟨⟨⟨a, b⟩, c⟩, d⟩, e⟩

theorem gcd_pos (n d : Int) (h : d ≠ 0) : 1 ≤ (Int.gcd n d : Int) := by
  have := Int.gcd_pos_of_ne_zero_right n h
  omega

theorem gcd_le (n d : Int) (h : 0 < d) : (Int.gcd n d : Int) ≤ d := by
  have h1 : (Int.gcd n d : Int) ∣ d := Int.gcd_dvd_right n d
  exact Int.le_of_dvd h h1

/-- num/g, exact -/
theorem tdiv_mul (n d : Int) : (n.tdiv (Int.gcd n d)) * (Int.gcd n d) = n :=
  Int.tdiv_mul_cancel (Int.gcd_dvd_left n d)
theorem tdiv_mul' (n d : Int) : (d.tdiv (Int.gcd n d)) * (Int.gcd n d) = d :=
  Int.tdiv_mul_cancel (Int.gcd_dvd_right n d)

theorem gcd_low (n d : Int) (h : d ≠ 0) : Int.gcd (n.tdiv (Int.gcd n d)) (d.tdiv (Int.gcd n d)) = 1 := by
  have hg : 0 < Int.gcd n d := by have := gcd_pos n d h; omega
  have e1 := tdiv_mul n d
  have e2 := tdiv_mul' n d
  have h2 : Int.gcd ((n.tdiv (Int.gcd n d)) * (Int.gcd n d)) ((d.tdiv (Int.gcd n d)) * (Int.gcd n d)) = Int.gcd (n.tdiv (Int.gcd n d)) (d.tdiv (Int.gcd n d)) * Int.gcd n d := by
    rw [Int.gcd_mul_right]; simp
  rw [e1, e2] at h2
  have h3 : 1 * Int.gcd n d = Int.gcd (n.tdiv (Int.gcd n d)) (d.tdiv (Int.gcd n d)) * Int.gcd n d := by omega
  exact (Nat.eq_of_mul_eq_mul_right hg h3).symm

theorem gcd_natAbs (n d : Int) : Int.gcd (n.natAbs : Int) d = Int.gcd n d := by
  simp [Int.gcd]

theorem gcd_step (x y : Int) (hx : 0 ≤ x) (hy : 0 ≤ y) : Int.gcd (y % x) x = Int.gcd x y := by
  obtain ⟨n, rfl⟩ := Int.eq_ofNat_of_zero_le hx
  obtain ⟨m, rfl⟩ := Int.eq_ofNat_of_zero_le hy
  rw [← Int.natCast_emod]
  simp only [Int.gcd, Int.natAbs_natCast]
  exact (Nat.gcd_rec n m).symm

theorem gcd_step' (x y : Int) (hx : 0 ≤ x) (hy : 0 ≤ y) : Int.gcd y (x % y) = Int.gcd x y := by
  rw [Int.gcd_comm, gcd_step y x hy hx, Int.gcd_comm]

theorem tdiv_bd (n g : Int) : (n.tdiv g).natAbs ≤ n.natAbs := by
  rw [Int.natAbs_tdiv]; exact Nat.div_le_self _ _

/-- The quotient in lowest terms, the part below above nought. -/
def lowN (n d : Int) : Int := if d < 0 then (-n).tdiv (Int.gcd n d) else n.tdiv (Int.gcd n d)
def lowD (n d : Int) : Int := if d < 0 then (-d).tdiv (Int.gcd n d) else d.tdiv (Int.gcd n d)
/-- The code of a quotient: 1 of one by nought, 5 of one that has no right fraction, 0 else. -/
def codeF (n d : Int) : Int := if d = 0 then 1 else if n = -9223372036854775808 ∨ d = -9223372036854775808 then 5 else if 2147483647 < ((lowN n d).natAbs : Int) ∨ 2147483647 < lowD n d then 5 else 0

theorem low_facts (n d : Int) (h : d ≠ 0) : 0 < lowD n d ∧ lowD n d * (Int.gcd n d) = (d.natAbs : Int) ∧ (lowN n d).natAbs * (Int.gcd n d) = n.natAbs ∧ lowN n d * d = n * lowD n d ∧ Int.gcd (lowN n d) (lowD n d) = 1 := by
  have hg := gcd_pos n d h
  have e1 := tdiv_mul n d
  have e2 := tdiv_mul' n d
  have e0 := gcd_low n d h
  generalize hG : Int.gcd n d = g at *
  have en : (-n).tdiv g = -(n.tdiv g) := Int.neg_tdiv ..
  have ed : (-d).tdiv g = -(d.tdiv g) := Int.neg_tdiv ..
  unfold lowN lowD
  rw [hG, en, ed]
  generalize n.tdiv g = x at *
  generalize d.tdiv g = y at *
  have hn : n.natAbs = x.natAbs * g := by rw [← e1]; simp [Int.natAbs_mul]
  have hd : d.natAbs = y.natAbs * g := by rw [← e2]; simp [Int.natAbs_mul]
  by_cases hd0 : d < 0
  · simp only [hd0, if_true]
    have hy : y < 0 := by
      rcases Int.lt_or_le y 0 with k | k
      · exact k
      · have : 0 ≤ y * (g : Int) := Int.mul_nonneg k (by omega)
        omega
    refine ⟨by omega, ?_, ?_, ?_, ?_⟩
    · rw [Int.neg_mul, e2]; omega
    · rw [hn]; simp
    · rw [Int.neg_mul, ← e2, ← e1, Int.mul_neg]
      congr 1
      rw [Int.mul_assoc, Int.mul_comm (g : Int) y]
    · simpa using e0
  · simp only [hd0, if_false]
    have hy : 0 < y := by
      rcases Int.lt_or_le 0 y with k | k
      · exact k
      · have : y * (g : Int) ≤ 0 := Int.mul_nonpos_of_nonpos_of_nonneg k (by omega)
        omega
    refine ⟨hy, ?_, ?_, ?_, e0⟩
    · rw [e2]; omega
    · rw [hn]
    · rw [← e2, ← e1, Int.mul_assoc, Int.mul_comm (g : Int) y]

/-- The pair is right just where it is its own lowest terms. -/
theorem right_iff_low (n d : Int) (h1 : -9223372036854775808 ≤ n) (h2 : n ≤ 9223372036854775807) (h3 : -9223372036854775808 ≤ d) (h4 : d ≤ 9223372036854775807) :
    rightB n d = true ↔ (codeF n d = 0 ∧ lowN n d = n ∧ lowD n d = d) := by
  rw [rightB_iff]
  constructor
  · rintro ⟨a, b, c, e, g⟩
    have hn : lowN n d = n := by unfold lowN; rw [if_neg (by omega), g]; simp
    have hd : lowD n d = d := by unfold lowD; rw [if_neg (by omega), g]; simp
    refine ⟨?_, hn, hd⟩
    unfold codeF
    rw [if_neg (by omega), if_neg (by omega), hn, hd, if_neg (by omega)]
  · rintro ⟨hc, hn, hd⟩
    have h0 : d ≠ 0 := by
      intro k; subst k; simp [codeF] at hc
    obtain ⟨f1, f2, f3, f4, f5⟩ := low_facts n d h0
    unfold codeF at hc
    rw [if_neg h0] at hc
    by_cases k : n = -9223372036854775808 ∨ d = -9223372036854775808
    · rw [if_pos k] at hc; omega
    · rw [if_neg k] at hc
      by_cases k2 : 2147483647 < ((lowN n d).natAbs : Int) ∨ 2147483647 < lowD n d
      · rw [if_pos k2] at hc; omega
      · rw [hn, hd] at k2 f5
        rw [hd] at f1
        exact ⟨by omega, by omega, by omega, by omega, f5⟩

theorem right_low (n d : Int) (h0 : d ≠ 0) (h1 : n ≠ -9223372036854775808) (h2 : d ≠ -9223372036854775808) : rightB (lowN n d) (lowD n d) = true ↔ codeF n d = 0 := by
  obtain ⟨f1, _, _, _, f5⟩ := low_facts n d h0
  rw [rightB_iff]
  unfold codeF
  rw [if_neg h0, if_neg (by omega)]
  by_cases k2 : 2147483647 < ((lowN n d).natAbs : Int) ∨ 2147483647 < lowD n d
  · rw [if_pos k2]; constructor
    · rintro ⟨_, _, _, _, _⟩; omega
    · intro h; omega
  · rw [if_neg k2]; constructor
    · intro _; rfl
    · intro _; exact ⟨by omega, by omega, by omega, by omega, f5⟩

/-- What is handed back of a quotient: its lowest terms beside the code 0, noughts beside another one. -/
def oN (n d : Int) : Int := if codeF n d = 0 then lowN n d else 0
def oD (n d : Int) : Int := if codeF n d = 0 then lowD n d else 0
theorem codeF_cases (n d : Int) : codeF n d = 0 ∨ codeF n d = 1 ∨ codeF n d = 5 := by
  unfold codeF; split
  · simp
  · split
    · simp
    · split <;> simp

end Go.Proofs.YtogfjomfhenhfaaGreatDoor.M
