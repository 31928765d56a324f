/-
  Plain facts on words of IEEE 754: when a measure's nearest single is finite, when a sum and a quotient have an answer. No program is named here.
-/
import Derived.Laws.FloatArith
namespace Go.Proofs.Ytlipgnjknfmikaa.Fl
open Ieee

theorem double_binade : double.binade = 4503599627370496 := by decide +kernel
theorem double_inf : double.infRung = 9218868437227405312 := by decide +kernel
theorem double_sw : double.signWeight = 9223372036854775808 := by decide +kernel
theorem double_least : double.leastPlace = -1074 := by decide +kernel
theorem single_binade : single.binade = 8388608 := by decide +kernel
theorem single_inf : single.infRung = 2139095040 := by decide +kernel
theorem single_sw : single.signWeight = 2147483648 := by decide +kernel
theorem single_least : single.leastPlace = -149 := by decide +kernel

/-- No NaN. -/
def good (d : Datum) : Prop := ∀ s t, d ≠ .nan s t

theorem read_word_double (s : Bool) (r : Nat) (h : r ≤ double.infRung) : good (double.read (double.word s r)) := by
  intro a b
  rw [double_inf] at h
  have hm : double.word s r % double.signWeight = r := by
    unfold Format.word; rw [double_sw]; split <;> omega
  unfold Format.read
  simp only [hm]
  rw [double_binade, double_inf]
  split
  · simp
  · split
    · simp
    · split
      · simp
      · omega

theorem good_write (d : Datum) (h : good d) : good (double.read (double.write d)) := by
  cases d with
  | nan s t => exact absurd rfl (h s t)
  | infinity s => exact read_word_double s _ (Nat.le_refl _)
  | number s m e =>
    show good (double.read (double.nearest s m e))
    unfold Format.nearest
    dsimp only
    split
    · exact read_word_double s 0 (Nat.zero_le _)
    · exact read_word_double s _ (Nat.min_le_right _ _)

/-- A sum of a word that is no NaN and a number has an answer, which is no NaN. -/
theorem add_good (x y : Nat) (hx : good (double.read x)) (hy : ∃ s m e, double.read y = .number s m e) : ∃ r, floatBits .add .f64 x y = some r ∧ good (double.read r) := by
  obtain ⟨s, m, e, hy⟩ := hy
  show ∃ r, double.add x y = some r ∧ _
  unfold Format.add
  rw [hy]
  cases hd : double.read x with
  | nan a b => exact absurd hd (hx a b)
  | infinity a => exact ⟨_, rfl, good_write _ (by intro s t; simp)⟩
  | number a b c => exact ⟨_, rfl, good_write _ (by intro s t; simp)⟩

theorem div_good (x y : Nat) (hx : good (double.read x)) (hy : ∃ s m e, double.read y = .number s m e ∧ m ≠ 0) : ∃ r, floatBits .quo .f64 x y = some r := by
  obtain ⟨s, m, e, hy, hm⟩ := hy
  show ∃ r, double.div x y = some r
  unfold Format.div
  rw [hy]
  cases hd : double.read x with
  | nan a b => exact absurd hd (hx a b)
  | infinity a => exact ⟨_, rfl⟩
  | number a b c => simp only [Datum.quotient, if_neg hm]; exact ⟨_, rfl⟩

theorem one_read : double.read 4607182418800017408 = .number false 4503599627370496 (-52) := by decide +kernel

theorem zero_read : double.read 0 = .number false 0 (-1074) := by decide +kernel

/-- One by a nought of either sign. -/
theorem div_zero (x : Nat) (h : FloatKind.f64.format.order x 0 = some .eq) : ∃ r, floatBits .quo .f64 4607182418800017408 x = some r := by
  show ∃ r, double.div 4607182418800017408 x = some r
  unfold Format.div
  rw [one_read]
  have h2 : (double.read x).order (double.read 0) = some .eq := h
  rw [zero_read] at h2
  cases hd : double.read x with
  | nan a b => rw [hd] at h2; cases h2
  | infinity a => rw [hd] at h2; cases a <;> cases h2
  | number a b c =>
    simp only [Datum.quotient]
    split
    · exact ⟨_, rfl⟩
    · exact ⟨_, rfl⟩

/-- What is neither below -1000000000 nor above 1000000000 (and no NaN). -/
def measB (x : Nat) : Bool := (FloatKind.f64.format.order x 13965043853221167104 == some .gt || FloatKind.f64.format.order x 13965043853221167104 == some .eq) && (FloatKind.f64.format.order x 4741671816366391296 == some .lt || FloatKind.f64.format.order x 4741671816366391296 == some .eq)

theorem hi_read : double.read 4741671816366391296 = .number false 8388608000000000 (-23) := by decide +kernel
theorem lo_read : double.read 13965043853221167104 = .number true 8388608000000000 (-23) := by decide +kernel

theorem two_pow_log2 (m : Nat) (h : m ≠ 0) : 2 ^ m.log2 ≤ m := Nat.log2_self_le h

/-- The magnitude of a measure: 'm * 2 ^ e' is at most 1000000000. -/
theorem bound_of_le (m : Nat) (e : Int) (h : m <<< (e - min e (-23)).toNat ≤ 8388608000000000 <<< ((-23 : Int) - min e (-23)).toNat) (hm : m ≠ 0) : e + m.log2 ≤ 29 := by
  rcases Int.lt_or_le 29 (e + m.log2) with k | k
  · exfalso
    have hl := two_pow_log2 m hm
    rw [Nat.shiftLeft_eq, Nat.shiftLeft_eq] at h
    rcases Int.le_total e (-23) with c | c
    · rw [Int.min_eq_left c] at h
      have z : (e - e).toNat = 0 := by omega
      rw [z] at h
      -- m ≤ 8388608000000000 * 2 ^ (-23 - e)
      have hq : m.log2 = 53 + ((-23 : Int) - e).toNat + (m.log2 - 53 - ((-23 : Int) - e).toNat) := by omega
      have h53 : 8388608000000000 < 2 ^ 53 := by decide
      have p1 : 2 ^ (53 + ((-23 : Int) - e).toNat) ≤ 2 ^ m.log2 := Nat.pow_le_pow_right (by decide) (by omega)
      have p2 : 8388608000000000 * 2 ^ ((-23 : Int) - e).toNat < 2 ^ 53 * 2 ^ ((-23 : Int) - e).toNat := Nat.mul_lt_mul_of_pos_right h53 (Nat.two_pow_pos _)
      rw [← Nat.pow_add] at p2
      omega
    · rw [Int.min_eq_right c] at h
      have z : ((-23 : Int) - -23).toNat = 0 := by omega
      rw [z] at h
      have p1 : 2 ^ 53 ≤ 2 ^ (m.log2 + (e - -23).toNat) := Nat.pow_le_pow_right (by decide) (by omega)
      have p2 : 2 ^ m.log2 * 2 ^ (e - -23).toNat ≤ m * 2 ^ (e - -23).toNat := Nat.mul_le_mul_right _ hl
      rw [← Nat.pow_add] at p2
      have h53 : 8388608000000000 < 2 ^ 53 := by decide
      omega
  · exact k

theorem meas_read (x : Nat) (h : measB x = true) : ∃ s m e, double.read x = .number s m e ∧ (m = 0 ∨ e + m.log2 ≤ 29) := by
  unfold measB at h
  have h1 : (double.read x).order (double.read 13965043853221167104) = some .gt ∨ (double.read x).order (double.read 13965043853221167104) = some .eq := by
    have := (Bool.and_eq_true_iff.1 h).1
    rcases Bool.or_eq_true_iff.1 this with k | k
    · left; exact eq_of_beq k
    · right; exact eq_of_beq k
  have h2 : (double.read x).order (double.read 4741671816366391296) = some .lt ∨ (double.read x).order (double.read 4741671816366391296) = some .eq := by
    have := (Bool.and_eq_true_iff.1 h).2
    rcases Bool.or_eq_true_iff.1 this with k | k
    · left; exact eq_of_beq k
    · right; exact eq_of_beq k
  rw [lo_read] at h1
  rw [hi_read] at h2
  cases hd : double.read x with
  | nan a b => rw [hd] at h1; rcases h1 with k | k <;> cases k
  | infinity a =>
    rw [hd] at h1 h2
    cases a
    · rcases h2 with k | k <;> cases k
    · rcases h1 with k | k <;> cases k
  | number s m e =>
    refine ⟨s, m, e, rfl, ?_⟩
    by_cases hm : m = 0
    · exact .inl hm
    · right
      rw [hd] at h1 h2
      simp only [Datum.order, Option.some.injEq] at h1 h2
      cases s with
      | false =>
        apply bound_of_le m e _ hm
        have : compare (signed false m (e - min e (-23)).toNat) (signed false 8388608000000000 ((-23 : Int) - min e (-23)).toNat) ≠ .gt := by
          rcases h2 with k | k <;> rw [k] <;> decide
        have k := Int.compare_ne_gt.1 this
        unfold signed at k
        rw [if_neg (by decide), if_neg (by decide)] at k
        exact Int.ofNat_le.1 k
      | true =>
        apply bound_of_le m e _ hm
        have : compare (signed true m (e - min e (-23)).toNat) (signed true 8388608000000000 ((-23 : Int) - min e (-23)).toNat) ≠ .lt := by
          rcases h1 with k | k <;> rw [k] <;> decide
        have k := Int.compare_ne_lt.1 this
        unfold signed at k
        rw [if_pos rfl, if_pos rfl] at k
        exact Int.ofNat_le.1 (Int.neg_le_neg_iff.1 k)

theorem cut_le (s : Bool) (n drop B : Nat) (h : n < B * 2 ^ drop) (hB : 1 ≤ B) : Toward.even.cut s n drop ≤ B := by
  have hlow : n / (1 <<< min drop (n.log2 + 2)) + 1 ≤ B := by
    rw [Nat.shiftLeft_eq, Nat.one_mul]
    rcases Nat.le_total drop (n.log2 + 2) with c | c
    · rw [Nat.min_eq_left c]
      exact Nat.div_lt_of_lt_mul (by rw [Nat.mul_comm]; exact h)
    · rw [Nat.min_eq_right c]
      have hn : n < 2 ^ (n.log2 + 2) := Nat.lt_of_lt_of_le (Nat.lt_log2_self (n := n)) (Nat.pow_le_pow_right (by decide) (by omega))
      rw [Nat.div_eq_of_lt hn]
      omega
  unfold Toward.cut
  dsimp only
  generalize n / (1 <<< min drop (n.log2 + 2)) = low at *
  generalize (decide (1 <<< min drop (n.log2 + 2) < 2 * (n % 1 <<< min drop (n.log2 + 2))) || (1 <<< min drop (n.log2 + 2) == 2 * (n % 1 <<< min drop (n.log2 + 2)) && low % 2 == 1)) = b
  cases b
  · show low + 0 ≤ B; omega
  · show low + 1 ≤ B; omega

theorem lt_two_pow_log2 (m : Nat) : m < 2 ^ (m.log2 + 1) := Nat.lt_log2_self

/-- What is kept of a magnitude: at most one digit more than the fraction field has, and one. -/
theorem kept_le (s : Bool) (m : Nat) (e last : Int) (F : Nat) (h : e + m.log2 - F ≤ last) :
    Toward.even.cut s (m <<< (e - last).toNat) (last - e).toNat ≤ 2 ^ (F + 1) := by
  apply cut_le _ _ _ _ _ (Nat.two_pow_pos _)
  rw [Nat.shiftLeft_eq]
  have hm := lt_two_pow_log2 m
  have p : 2 ^ (m.log2 + 1) * 2 ^ (e - last).toNat ≤ 2 ^ (F + 1) * 2 ^ (last - e).toNat := by
    rw [← Nat.pow_add, ← Nat.pow_add]
    exact Nat.pow_le_pow_right (by decide) (by omega)
  exact Nat.lt_of_lt_of_le (Nat.mul_lt_mul_of_pos_right hm (Nat.two_pow_pos _)) p

theorem read_word_single (s : Bool) (r : Nat) (h : r < single.infRung) : ∃ m e, single.read (single.word s r) = .number s m e ∧ e + m.log2 ≤ 127 := by
  rw [single_inf] at h
  have hm : single.word s r % single.signWeight = r := by
    unfold Format.word; rw [single_sw]; split <;> omega
  have hs : (single.word s r / single.signWeight % 2 == 1) = s := by
    unfold Format.word; rw [single_sw]
    cases s
    · rw [if_neg (by decide)]; have : r / 2147483648 = 0 := by omega
      rw [this]; rfl
    · rw [if_pos rfl]; have : (2147483648 + r) / 2147483648 = 1 := by omega
      rw [this]; rfl
  unfold Format.read
  simp only [hm, hs]
  rw [single_binade, single_inf, single_least]
  have lg : ∀ n k : Nat, n < 2 ^ (k + 1) → n.log2 ≤ k := by
    intro n k hn
    by_cases h0 : n = 0
    · subst h0; simp
    · have := (Nat.log2_lt h0).2 hn; omega
  split
  · refine ⟨_, _, rfl, ?_⟩
    have := lg r 23 (by omega)
    omega
  · refine ⟨_, _, rfl, ?_⟩
    have := lg (8388608 + r % 8388608) 23 (by omega)
    omega

/-- A measure's nearest single is finite, and that single's double too. -/
theorem keep_some (x : Nat) (h : measB x = true) : ∃ r, floatToFloatBits .f64 x .f32 = some r ∧ ∃ q, floatToFloatBits .f32 r .f64 = some q := by
  obtain ⟨s, m, e, hr, hb⟩ := meas_read x h
  have hs : ∃ rung, single.write (.number s m e) = single.word s rung ∧ rung < single.infRung := by
    show ∃ rung, single.nearest s m e = single.word s rung ∧ _
    unfold Format.nearest
    dsimp only
    by_cases hm : m = 0
    · rw [if_pos hm]; exact ⟨0, rfl, by rw [single_inf]; decide⟩
    · rw [if_neg hm]
      refine ⟨_, rfl, ?_⟩
      have hE : e + m.log2 ≤ 29 := by omega
      have hl1 : e + m.log2 - (single.fractionBits : Nat) ≤ max (e + m.log2 - (single.fractionBits : Nat)) single.leastPlace := Int.le_max_left _ _
      have hk := kept_le s m e _ _ hl1
      have hF : single.fractionBits = 23 := rfl
      have hl2 : max (e + m.log2 - (single.fractionBits : Nat)) single.leastPlace ≤ 6 := by rw [single_least, hF]; omega
      generalize max (e + m.log2 - (single.fractionBits : Nat)) single.leastPlace = last at *
      rw [hF] at hk
      generalize Toward.even.cut s (m <<< (e - last).toNat) (last - e).toNat = kept at *
      rw [single_inf, single_binade, single_least]
      have : 2 ^ (23 + 1) = 16777216 := by decide
      omega
  obtain ⟨rung, hw, hlt⟩ := hs
  have hfin : ∃ m' e', single.read (single.write (.number s m e)) = .number s m' e' ∧ e' + m'.log2 ≤ 127 := by rw [hw]; exact read_word_single s rung hlt
  obtain ⟨m', e', hr', hb'⟩ := hfin
  refine ⟨single.write (.number s m e), ?_, ?_⟩
  · unfold floatToFloatBits
    rw [if_neg (by decide)]
    have hdec : FloatKind.f64.decode x = .number s m e := hr
    rw [hdec]
    have h2 : (FloatKind.f32.decode (FloatKind.f32.encode (.number s m e))) = .number s m' e' := hr'
    simp only [h2]
    rfl
  · unfold floatToFloatBits
    rw [if_neg (by decide)]
    have hdec : FloatKind.f32.decode (single.write (.number s m e)) = .number s m' e' := hr'
    rw [hdec]
    have h3 : (FloatKind.f64.decode (FloatKind.f64.encode (.number s m' e'))).isInfinity = false := by
      show (double.read (double.nearest s m' e')).isInfinity = false
      have hd : ∃ rg, double.nearest s m' e' = double.word s rg ∧ rg < double.infRung := by
        unfold Format.nearest
        dsimp only
        by_cases hm : m' = 0
        · rw [if_pos hm]; exact ⟨0, rfl, by rw [double_inf]; decide⟩
        · rw [if_neg hm]
          refine ⟨_, rfl, ?_⟩
          have hl1 : e' + m'.log2 - (double.fractionBits : Nat) ≤ max (e' + m'.log2 - (double.fractionBits : Nat)) double.leastPlace := Int.le_max_left _ _
          have hk := kept_le s m' e' _ _ hl1
          have hF : double.fractionBits = 52 := rfl
          have hl2 : max (e' + m'.log2 - (double.fractionBits : Nat)) double.leastPlace ≤ 75 := by rw [double_least, hF]; omega
          generalize max (e' + m'.log2 - (double.fractionBits : Nat)) double.leastPlace = last at *
          rw [hF] at hk
          generalize Toward.even.cut s (m' <<< (e' - last).toNat) (last - e').toNat = kept at *
          rw [double_inf, double_binade, double_least]
          have : 2 ^ (52 + 1) = 9007199254740992 := by decide
          omega
      obtain ⟨rg, hw2, hlt2⟩ := hd
      rw [hw2]
      rw [double_inf] at hlt2
      have hm : double.word s rg % double.signWeight = rg := by
        unfold Format.word; rw [double_sw]; split <;> omega
      unfold Format.read
      simp only [hm]
      rw [double_binade, double_inf]
      split
      · rfl
      · rfl
    simp only [h3]
    exact ⟨_, rfl⟩
end Go.Proofs.Ytlipgnjknfmikaa.Fl
