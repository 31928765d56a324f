/-
  Plain facts on words of IEEE 754 that stay far from the greatest one: what sums, products and quotients of them give, and what a turned sign does. No program is named here.
-/
import Derived.Test.YtlipgnjknfmikaaFloat
import Derived.Laws.ComplexArith
namespace Go.Proofs.Ytlipgnjknfmikaa.Fl
open Ieee

/-- A finite word whose magnitude is below 2 ^ (k + 1). -/
def Bd (k : Int) (x : Nat) : Prop := ∃ s m e, double.read x = .number s m e ∧ (m = 0 ∨ e + m.log2 ≤ k)

theorem Bd.mono {k l : Int} {x : Nat} (h : Bd k x) (hk : k ≤ l) : Bd l x := by
  obtain ⟨s, m, e, h1, h2⟩ := h
  exact ⟨s, m, e, h1, by omega⟩

theorem meas_bd {x : Nat} (h : measB x = true) : Bd 29 x := meas_read x h

theorem log2_le {n k : Nat} (h : n < 2 ^ (k + 1)) : n.log2 ≤ k := by
  by_cases h0 : n = 0
  · subst h0; simp
  · have := (Nat.log2_lt h0).2 h; omega

/-- What the word of a small rung is read as. -/
theorem read_word (s : Bool) (r R : Nat) (h : r ≤ R * 4503599627370496) (hR : R < 2047) : ∃ m e, double.read (double.word s r) = .number s m e ∧ (r = 0 → m = 0) ∧ (r ≠ 0 → m ≠ 0) ∧ (m = 0 ∨ e + m.log2 ≤ R - 1023) := by
  have hm : double.word s r % double.signWeight = r := by
    unfold Format.word; rw [double_sw]; split <;> omega
  have hs : (double.word s r / double.signWeight % 2 == 1) = s := by
    unfold Format.word; rw [double_sw]
    cases s
    · rw [if_neg (by decide)]; have : r / 9223372036854775808 = 0 := by omega
      rw [this]; rfl
    · rw [if_pos rfl]; have : (9223372036854775808 + r) / 9223372036854775808 = 1 := by omega
      rw [this]; rfl
  unfold Format.read
  simp only [hm, hs]
  rw [double_binade, double_inf, double_least]
  split
  · refine ⟨_, _, rfl, id, id, ?_⟩
    right
    have := log2_le (n := r) (k := 51) (by omega)
    omega
  · rw [if_pos (by omega)]
    refine ⟨_, _, rfl, by omega, by omega, ?_⟩
    right
    have := log2_le (n := 4503599627370496 + r % 4503599627370496) (k := 52) (by omega)
    omega

/-- What a small number is written as. -/
theorem read_write (s : Bool) (m : Nat) (e K : Int) (h : m = 0 ∨ e + m.log2 ≤ K) (h1 : -1000 ≤ K) (h2 : K ≤ 1000) : ∃ r R, double.write (.number s m e) = double.word s r ∧ r ≤ R * 4503599627370496 ∧ R < 2047 ∧ (R : Int) - 1023 ≤ K + 1 ∧ (m = 0 → r = 0) := by
  show ∃ r R, double.nearest s m e = double.word s r ∧ _
  unfold Format.nearest
  dsimp only
  by_cases hm : m = 0
  · rw [if_pos hm]; exact ⟨0, 0, rfl, by omega, by omega, by omega, fun _ => rfl⟩
  · rw [if_neg hm]
    have hl1 : e + m.log2 - (double.fractionBits : Nat) ≤ max (e + m.log2 - (double.fractionBits : Nat)) double.leastPlace := Int.le_max_left _ _
    have hk := kept_le s m e _ _ hl1
    have hF : double.fractionBits = 52 := rfl
    have hl2 : max (e + m.log2 - (double.fractionBits : Nat)) double.leastPlace ≤ K - 52 := by rw [double_least, hF]; omega
    have hl3 : -1074 ≤ max (e + m.log2 - (double.fractionBits : Nat)) double.leastPlace := by rw [double_least]; omega
    generalize max (e + m.log2 - (double.fractionBits : Nat)) double.leastPlace = last at *
    rw [hF] at hk
    generalize Toward.even.cut s (m <<< (e - last).toNat) (last - e).toNat = kept at *
    rw [double_inf, double_binade, double_least]
    have p : 2 ^ (52 + 1) = 9007199254740992 := by decide
    rw [p] at hk
    refine ⟨_, (last - -1074).toNat + 2, rfl, ?_, by omega, by omega, fun h => absurd h hm⟩
    refine Nat.le_trans (Nat.min_le_left _ _) ?_
    rw [Nat.add_mul]
    omega

theorem bd_write (s : Bool) (m : Nat) (e K : Int) (h : m = 0 ∨ e + m.log2 ≤ K) (h1 : -1000 ≤ K) (h2 : K ≤ 1000) : Bd (K + 1) (double.write (.number s m e)) ∧ (∃ m' e', double.read (double.write (.number s m e)) = .number s m' e' ∧ (m = 0 → m' = 0)) := by
  obtain ⟨r, R, hw, hr, hR, hK, h0⟩ := read_write s m e K h h1 h2
  obtain ⟨m', e', hm, hz, _, hb⟩ := read_word s r R hr hR
  rw [hw]
  exact ⟨⟨s, m', e', hm, by omega⟩, m', e', hm, fun h => hz (h0 h)⟩

/-- The number behind a product. -/
theorem prod_le (m n : Nat) (i j a b : Int) (h1 : m = 0 ∨ i + m.log2 ≤ a) (h2 : n = 0 ∨ j + n.log2 ≤ b) : m * n = 0 ∨ i + j + (m * n).log2 ≤ a + b + 1 := by
  rcases h1 with h1 | h1
  · left; rw [h1, Nat.zero_mul]
  rcases h2 with h2 | h2
  · left; rw [h2, Nat.mul_zero]
  right
  have : (m * n).log2 ≤ m.log2 + n.log2 + 1 := by
    apply log2_le
    have p1 := lt_two_pow_log2 m
    have p2 := lt_two_pow_log2 n
    have : 2 ^ (m.log2 + n.log2 + 1 + 1) = 2 ^ (m.log2 + 1) * 2 ^ (n.log2 + 1) := by rw [← Nat.pow_add]; congr 1; omega
    rw [this]
    exact Nat.mul_lt_mul'' p1 p2
  omega

theorem mul_bd {a b : Int} {x y : Nat} (hx : Bd a x) (hy : Bd b y) (h1 : -1000 ≤ a + b + 1) (h2 : a + b + 1 ≤ 1000) : ∃ r, floatBits .mul .f64 x y = some r ∧ Bd (a + b + 2) r := by
  obtain ⟨s, m, e, hr, hb⟩ := hx
  obtain ⟨t, n, f, hr2, hb2⟩ := hy
  refine ⟨double.write (.number (s ^^ t) (m * n) (e + f)), ?_, ?_⟩
  · show double.mul x y = _
    unfold Format.mul
    rw [hr, hr2]
    rfl
  · have := (bd_write (s ^^ t) (m * n) (e + f) (a + b + 1) (prod_le m n e f a b hb hb2) h1 h2).1
    exact this.mono (by omega)

theorem natAbs_signed (s : Bool) (m u : Nat) : (signed s m u).natAbs = m * 2 ^ u := by
  unfold signed
  rw [Nat.shiftLeft_eq]
  split <;> simp [Int.natAbs_mul, Int.natAbs_pow]

theorem sum_le (s t : Bool) (m n : Nat) (i j K : Int) (h1 : m = 0 ∨ i + m.log2 ≤ K) (h2 : n = 0 ∨ j + n.log2 ≤ K) :
    (signed s m (i - min i j).toNat + signed t n (j - min i j).toNat).natAbs = 0 ∨ min i j + (signed s m (i - min i j).toNat + signed t n (j - min i j).toNat).natAbs.log2 ≤ K + 1 := by
  have hA := Int.natAbs_add_le (signed s m (i - min i j).toNat) (signed t n (j - min i j).toNat)
  rw [natAbs_signed, natAbs_signed] at hA
  generalize (signed s m (i - min i j).toNat + signed t n (j - min i j).toNat).natAbs = T at *
  by_cases hT : T = 0
  · exact .inl hT
  right
  have hKb : min i j ≤ K := by
    rcases h1 with h1 | h1
    · rcases h2 with h2 | h2
      · rw [h1, h2] at hA; simp at hA; omega
      · omega
    · omega
  have q1 : m * 2 ^ (i - min i j).toNat < 2 ^ ((K - min i j).toNat + 1) := by
    rcases h1 with h1 | h1
    · rw [h1, Nat.zero_mul]; exact Nat.two_pow_pos _
    · refine Nat.lt_of_lt_of_le (Nat.mul_lt_mul_of_pos_right (lt_two_pow_log2 m) (Nat.two_pow_pos _)) ?_
      rw [← Nat.pow_add]
      exact Nat.pow_le_pow_right (by decide) (by omega)
  have q2 : n * 2 ^ (j - min i j).toNat < 2 ^ ((K - min i j).toNat + 1) := by
    rcases h2 with h2 | h2
    · rw [h2, Nat.zero_mul]; exact Nat.two_pow_pos _
    · refine Nat.lt_of_lt_of_le (Nat.mul_lt_mul_of_pos_right (lt_two_pow_log2 n) (Nat.two_pow_pos _)) ?_
      rw [← Nat.pow_add]
      exact Nat.pow_le_pow_right (by decide) (by omega)
  have q3 : T < 2 ^ ((K - min i j).toNat + 1 + 1) := by
    rw [Nat.pow_succ]
    omega
  have := log2_le q3
  omega

theorem add_read {x y : Nat} {s t : Bool} {m n : Nat} {i j : Int} (hx : double.read x = .number s m i) (hy : double.read y = .number t n j) :
    floatBits .add .f64 x y = some (double.write (.number (if signed s m (i - min i j).toNat + signed t n (j - min i j).toNat = 0 then s && t else signed s m (i - min i j).toNat + signed t n (j - min i j).toNat < 0) (signed s m (i - min i j).toNat + signed t n (j - min i j).toNat).natAbs (min i j))) := by
  show double.add x y = _
  unfold Format.add
  rw [hx, hy]
  rfl

theorem add_bd {k : Int} {x y : Nat} (hx : Bd k x) (hy : Bd k y) (h1 : -1000 ≤ k + 1) (h2 : k + 1 ≤ 1000) : ∃ r, floatBits .add .f64 x y = some r ∧ Bd (k + 2) r := by
  obtain ⟨s, m, e, hr, hb⟩ := hx
  obtain ⟨t, n, f, hr2, hb2⟩ := hy
  refine ⟨_, add_read hr hr2, ?_⟩
  have := (bd_write (if signed s m (e - min e f).toNat + signed t n (f - min e f).toNat = 0 then s && t else signed s m (e - min e f).toNat + signed t n (f - min e f).toNat < 0) _ (min e f) (k + 1) (sum_le s t m n e f k hb hb2) h1 h2).1
  exact this.mono (by omega)

/-- The word with its sign turned. -/
def ng (x : Nat) : Nat := Op.negFloat .f64 x

theorem xor_low (x : Nat) : (x ^^^ 9223372036854775808) % 9223372036854775808 = x % 9223372036854775808 := by
  have h : (9223372036854775808 : Nat) = 2 ^ 63 := by decide
  rw [h]
  apply Nat.eq_of_testBit_eq
  intro i
  simp only [Nat.testBit_mod_two_pow, Nat.testBit_xor, Nat.testBit_two_pow]
  by_cases hi : i < 63
  · have : ¬ (63 = i) := by omega
    simp [hi, this]
  · simp [hi]

theorem xor_high (x : Nat) : ((x ^^^ 9223372036854775808) / 9223372036854775808 % 2 == 1) = !(x / 9223372036854775808 % 2 == 1) := by
  have h : (9223372036854775808 : Nat) = 2 ^ 63 := by decide
  have t : ∀ y : Nat, (y / 9223372036854775808 % 2 == 1) = y.testBit 63 := by
    intro y
    rw [Nat.testBit_eq_decide_div_mod_eq, h]
    rfl
  rw [t, t, Nat.testBit_xor, h, Nat.testBit_two_pow]
  simp

theorem read_ng (x : Nat) : double.read (ng x) = (double.read x).opposite := by
  have hn : ng x = x ^^^ 9223372036854775808 := rfl
  rw [hn]
  unfold Format.read
  rw [double_sw, double_binade, double_inf]
  simp only [xor_low, xor_high]
  split
  · rfl
  · split
    · rfl
    · split
      · rfl
      · rfl

theorem opp_opp (d : Datum) : d.opposite.opposite = d := by cases d <;> simp [Datum.opposite]

theorem bd_ng {k : Int} {x : Nat} (h : Bd k x) : Bd k (ng x) := by
  obtain ⟨s, m, e, hr, hb⟩ := h
  exact ⟨!s, m, e, by rw [read_ng, hr]; rfl, hb⟩

/-- To take off is to add the turned one. -/
theorem sub_ng (x y : Nat) : floatBits .sub .f64 x y = floatBits .add .f64 x (ng y) := by
  show double.sub x y = double.add x (ng y)
  unfold Format.sub Format.add
  rw [read_ng]

theorem sub_bd {k : Int} {x y : Nat} (hx : Bd k x) (hy : Bd k y) (h1 : -1000 ≤ k + 1) (h2 : k + 1 ≤ 1000) : ∃ r, floatBits .sub .f64 x y = some r ∧ Bd (k + 2) r := by
  rw [sub_ng]
  exact add_bd hx (bd_ng hy) h1 h2

theorem sum_comm (a b : Datum) : a.sum b = b.sum a := by
  cases a <;> cases b <;> simp only [Datum.sum]
  case number.number s m i t n j =>
    rw [Int.min_comm, Int.add_comm, Bool.and_comm]
  case infinity.infinity s t =>
    by_cases h : s = t
    · subst h; rfl
    · rw [if_neg h, if_neg (Ne.symm h)]

theorem add_comm (x y : Nat) : floatBits .add .f64 x y = floatBits .add .f64 y x := by
  show double.add x y = double.add y x
  unfold Format.add
  rw [sum_comm]

theorem product_comm (a b : Datum) : a.product b = b.product a := by
  cases a <;> cases b <;> simp only [Datum.product]
  case number.number s m i t n j =>
    rw [Bool.xor_comm, Nat.mul_comm, Int.add_comm]
  case infinity.infinity s t => rw [Bool.xor_comm]

theorem mul_comm (x y : Nat) : floatBits .mul .f64 x y = floatBits .mul .f64 y x := by
  show double.mul x y = double.mul y x
  unfold Format.mul
  rw [product_comm]

/-- Both signs turned. -/
theorem mul_ng_ng (x y : Nat) : floatBits .mul .f64 (ng x) (ng y) = floatBits .mul .f64 x y := by
  show double.mul (ng x) (ng y) = double.mul x y
  unfold Format.mul
  rw [read_ng, read_ng]
  congr 1
  cases double.read x <;> cases double.read y <;> simp [Datum.opposite, Datum.product]

/-- One sign turned: the product's datum is the opposite one. -/
theorem mul_ng {a b : Int} {x y r : Nat} (hx : Bd a x) (hy : Bd b y) (h1 : -1000 ≤ a + b + 1) (h2 : a + b + 1 ≤ 1000) (h : floatBits .mul .f64 x y = some r) : ∃ q, floatBits .mul .f64 x (ng y) = some q ∧ Bd (a + b + 2) q ∧ double.read q = (double.read r).opposite := by
  obtain ⟨s, m, e, hr, hb⟩ := hx
  obtain ⟨t, n, f, hr2, hb2⟩ := hy
  have hmm : double.mul x y = some (double.write (.number (s ^^ t) (m * n) (e + f))) := by
    unfold Format.mul
    rw [hr, hr2]
    rfl
  have h' : double.mul x y = some r := h
  rw [hmm] at h'
  obtain rfl := Option.some.inj h'
  have hp := prod_le m n e f a b hb hb2
  refine ⟨double.write (.number (s ^^ !t) (m * n) (e + f)), ?_, ((bd_write _ _ _ _ hp h1 h2).1).mono (by omega), ?_⟩
  · show double.mul x (ng y) = _
    unfold Format.mul
    rw [hr, read_ng, hr2]
    rfl
  · have e1 : ∀ S, double.read (double.write (.number S (m * n) (e + f))) = .number S (match double.read (double.write (.number false (m * n) (e + f))) with | .number _ m _ => m | _ => 0) (match double.read (double.write (.number false (m * n) (e + f))) with | .number _ _ e => e | _ => 0) := by
      intro S
      have hw : ∃ r R, (∀ S, double.write (.number S (m * n) (e + f)) = double.word S r) ∧ r ≤ R * 4503599627370496 ∧ R < 2047 := by
        obtain ⟨r0, R0, w0, a0, b0, _⟩ := read_write false (m * n) (e + f) (a + b + 1) hp h1 h2
        refine ⟨r0, R0, ?_, a0, b0⟩
        intro S
        have : double.write (.number S (m * n) (e + f)) = double.word S (double.write (.number false (m * n) (e + f))) := by
          show double.nearest S _ _ = double.word S (double.nearest false _ _)
          unfold Format.nearest
          dsimp only
          have hc : ∀ n d, Toward.even.cut S n d = Toward.even.cut false n d := fun _ _ => rfl
          split <;> simp [Format.word, hc]
        rw [this, w0]
        simp [Format.word]
      obtain ⟨r, R, hw, ha, hb⟩ := hw
      rw [hw, hw]
      have key : ∀ S, double.read (double.word S r) = .number S (match double.read (double.word false r) with | .number _ m _ => m | _ => 0) (match double.read (double.word false r) with | .number _ _ e => e | _ => 0) := by
        intro S
        have hm : ∀ S, double.word S r % double.signWeight = r := by
          intro S
          unfold Format.word; rw [double_sw]; split <;> omega
        have hs : ∀ S, (double.word S r / double.signWeight % 2 == 1) = S := by
          intro s
          unfold Format.word; rw [double_sw]
          cases s
          · rw [if_neg (by decide)]; have : r / 9223372036854775808 = 0 := by omega
            rw [this]; rfl
          · rw [if_pos rfl]; have : (9223372036854775808 + r) / 9223372036854775808 = 1 := by omega
            rw [this]; rfl
        unfold Format.read
        simp only [hm, hs]
        rw [double_binade, double_inf, double_least]
        split
        · rfl
        · have hlt : r < 9218868437227405312 := by omega
          simp only [if_pos hlt]
      exact key S
    rw [e1, e1 (s ^^ t)]
    simp [Datum.opposite]

end Go.Proofs.Ytlipgnjknfmikaa.Fl
