/-
  Plain facts on words of IEEE 754: sums of measures stay small, and so their means and their squares have answers; the order of words that are numbers. No program is named here.
-/
import Derived.Test.YtlipgnjknfmikaaLdMath
import Derived.Test.YtlipgnjknfmikaaSumMath
namespace Go.Proofs.Ytlipgnjknfmikaa.Fl
open Ieee

/-- A number whose magnitude is at most T. -/
def Le (T : Nat) (x : Nat) : Prop := ∃ s m e, double.read x = .number s m e ∧ m * 2 ^ e.toNat ≤ T * 2 ^ (-e).toNat

theorem le_write (s : Bool) (m : Nat) (e : Int) (T : Nat) (h : m * 2 ^ e.toNat < T * 2 ^ (-e).toNat) (hT : T ≤ 2 ^ 52) : Le T (double.write (.number s m e)) := by
  unfold Le
  rw [write_rg, read_rung s _ (rg_le m e)]
  by_cases hm : m = 0
  · have e0 : rg m e = 0 := by unfold rg; rw [if_pos hm]
    rw [e0, if_pos (by decide)]
    exact ⟨s, 0, -1074, rfl, by rw [Nat.zero_mul]; exact Nat.zero_le _⟩
  have hL : e + m.log2 < 52 := by
    have h1 : 2 ^ m.log2 * 2 ^ e.toNat < 2 ^ 52 * 2 ^ (-e).toNat :=
      Nat.lt_of_le_of_lt (Nat.mul_le_mul_right _ (Nat.log2_self_le hm)) (Nat.lt_of_lt_of_le h (Nat.mul_le_mul_right _ hT))
    rw [← Nat.pow_add, ← Nat.pow_add] at h1
    have := (Nat.pow_lt_pow_iff_right (by decide : 1 < 2)).1 h1
    omega
  have hk := kept_le false m e (max (e + m.log2 - 52) (-1074)) 52 (Int.le_max_left _ _)
  have hg : max (e + m.log2 - 52) (-1074) ≠ -1074 → 2 ^ 52 ≤ Toward.even.cut false (m <<< (e - max (e + m.log2 - 52) (-1074)).toNat) (max (e + m.log2 - 52) (-1074) - e).toNat := by
    intro hne
    apply cut_ge
    rw [Nat.shiftLeft_eq]
    refine Nat.le_trans ?_ (Nat.mul_le_mul_right _ (Nat.log2_self_le hm))
    rw [← Nat.pow_add]
    exact Nat.pow_le_pow_right (by decide) (by omega)
  have hc : Toward.even.cut false (m <<< (e - max (e + m.log2 - 52) (-1074)).toNat) (max (e + m.log2 - 52) (-1074) - e).toNat ≤ T * 2 ^ (-max (e + m.log2 - 52) (-1074)).toNat := by
    have hl : max (e + m.log2 - 52) (-1074) < 0 := by omega
    generalize max (e + m.log2 - 52) (-1074) = last at *
    apply cut_le
    · rw [Nat.shiftLeft_eq]
      have h2 := Nat.mul_lt_mul_of_pos_right h (Nat.two_pow_pos ((-last).toNat + (last - e).toNat - (-e).toNat))
      rw [Nat.mul_assoc, Nat.mul_assoc, ← Nat.pow_add, ← Nat.pow_add] at h2
      rw [Nat.mul_assoc, ← Nat.pow_add]
      have e1 : e.toNat + ((-last).toNat + (last - e).toNat - (-e).toNat) = (e - last).toNat := by omega
      have e2 : (-e).toNat + ((-last).toNat + (last - e).toNat - (-e).toNat) = (-last).toNat + (last - e).toNat := by omega
      rw [e1, e2] at h2
      exact h2
    · refine Nat.mul_pos ?_ (Nat.two_pow_pos _)
      rcases Nat.eq_zero_or_pos T with h0 | h0
      · rw [h0] at h; simp at h
      · exact h0
  have e1 : rg m e = (max (e + m.log2 - 52) (-1074) - -1074).toNat * 4503599627370496 + Toward.even.cut false (m <<< (e - max (e + m.log2 - 52) (-1074)).toNat) (max (e + m.log2 - 52) (-1074) - e).toNat := by
    unfold rg; rw [if_neg hm]
    refine Nat.min_eq_left ?_
    have p : 2 ^ (52 + 1) = 9007199254740992 := by decide
    rw [p] at hk
    omega
  rw [e1]
  have hl : max (e + m.log2 - 52) (-1074) < 0 := by omega
  have hl2 : -1074 ≤ max (e + m.log2 - 52) (-1074) := by omega
  generalize Toward.even.cut false (m <<< (e - max (e + m.log2 - 52) (-1074)).toNat) (max (e + m.log2 - 52) (-1074) - e).toNat = c at *
  generalize max (e + m.log2 - 52) (-1074) = last at *
  have p : 2 ^ (52 + 1) = 9007199254740992 := by decide
  have p2 : 2 ^ 52 = 4503599627370496 := by decide
  rw [p] at hk
  rw [p2] at hg
  have big : ∀ (c' : Nat) (l' : Int), l' ≤ 0 → c' ≤ T * 2 ^ (-l').toNat → c' * 2 ^ l'.toNat ≤ T * 2 ^ (-l').toNat := by
    intro c' l' h1 h2
    rw [show l'.toNat = 0 by omega]; simpa using h2
  have half : c = 9007199254740992 → 4503599627370496 ≤ T * 2 ^ (-(last + 1)).toNat := by
    intro h1
    rw [h1] at hc
    have : (-last).toNat = (-(last + 1)).toNat + 1 := by omega
    rw [this, Nat.pow_succ, ← Nat.mul_assoc] at hc
    omega
  by_cases c1 : c < 4503599627370496
  · have hlast : last = -1074 := Classical.byContradiction fun h => absurd (hg h) (by omega)
    rw [if_pos (by omega)]
    refine ⟨s, c, last, ?_, big _ _ (by omega) hc⟩
    have q : (last - -1074).toNat * 4503599627370496 + c = c := by omega
    rw [q, hlast]
  · rw [if_neg (by omega), if_pos (by omega)]
    by_cases c2 : c = 9007199254740992
    · refine ⟨s, 4503599627370496, last + 1, ?_, big _ _ (by omega) (half c2)⟩
      have q : 4503599627370496 + ((last - -1074).toNat * 4503599627370496 + c) % 4503599627370496 = 4503599627370496 := by omega
      have r : (-1074 : Int) + ((((last - -1074).toNat * 4503599627370496 + c) / 4503599627370496 - 1 : Nat) : Int) = last + 1 := by omega
      rw [q, r]
    · refine ⟨s, c, last, ?_, big _ _ (by omega) hc⟩
      have q : 4503599627370496 + ((last - -1074).toNat * 4503599627370496 + c) % 4503599627370496 = c := by omega
      have r : (-1074 : Int) + ((((last - -1074).toNat * 4503599627370496 + c) / 4503599627370496 - 1 : Nat) : Int) = last := by omega
      rw [q, r]

theorem Le.bd {T : Nat} {x : Nat} {k : Nat} (h : Le T x) (hT : T < 2 ^ (k + 1)) : Bd k x := by
  obtain ⟨s, m, e, hr, hb⟩ := h
  refine ⟨s, m, e, hr, ?_⟩
  by_cases hm : m = 0
  · exact .inl hm
  · right
    have h1 : 2 ^ m.log2 * 2 ^ e.toNat < 2 ^ (k + 1) * 2 ^ (-e).toNat :=
      Nat.lt_of_le_of_lt (Nat.mul_le_mul_right _ (Nat.log2_self_le hm)) (Nat.lt_of_le_of_lt hb (Nat.mul_lt_mul_of_pos_right hT (Nat.two_pow_pos _)))
    rw [← Nat.pow_add, ← Nat.pow_add] at h1
    have := (Nat.pow_lt_pow_iff_right (by decide : 1 < 2)).1 h1
    omega
theorem Le.zero (T : Nat) : Le T 0 := ⟨false, 0, -1074, zero_read, by rw [Nat.zero_mul]; exact Nat.zero_le _⟩

theorem addW_of {x y r : Nat} (h : floatBits .add .f64 x y = some r) : addW x y = r := by unfold addW; rw [h]; rfl
theorem le_add {T : Nat} {x y : Nat} (hx : Le T x) (hy : measB y = true) (hT : T + 1073741824 ≤ 2 ^ 52) : floatBits .add .f64 x y = some (addW x y) ∧ Le (T + 1073741824) (addW x y) := by
  obtain ⟨s, m, i, hr, hb⟩ := hx
  obtain ⟨t, n, j, hr2, hb2⟩ := meas_read y hy
  have ha := add_read hr hr2
  rw [addW_of ha]
  refine ⟨ha, le_write _ _ _ _ ?_ hT⟩
  have hA := Int.natAbs_add_le (signed s m (i - min i j).toNat) (signed t n (j - min i j).toNat)
  rw [natAbs_signed, natAbs_signed] at hA
  generalize (signed s m (i - min i j).toNat + signed t n (j - min i j).toNat).natAbs = S at *
  have q1 : m * 2 ^ (i - min i j).toNat * 2 ^ (min i j).toNat ≤ T * 2 ^ (-min i j).toNat := by
    have h2 := Nat.mul_le_mul_right (2 ^ ((-min i j).toNat - (-i).toNat)) hb
    rw [Nat.mul_assoc, Nat.mul_assoc, ← Nat.pow_add, ← Nat.pow_add] at h2
    rw [Nat.mul_assoc, ← Nat.pow_add]
    have e1 : i.toNat + ((-min i j).toNat - (-i).toNat) = (i - min i j).toNat + (min i j).toNat := by omega
    have e2 : (-i).toNat + ((-min i j).toNat - (-i).toNat) = (-min i j).toNat := by omega
    rw [e1, e2] at h2
    exact h2
  have q2 : n * 2 ^ (j - min i j).toNat * 2 ^ (min i j).toNat < 1073741824 * 2 ^ (-min i j).toNat := by
    rcases hb2 with h0 | h0
    · rw [h0, Nat.zero_mul, Nat.zero_mul]; exact Nat.mul_pos (by decide) (Nat.two_pow_pos _)
    · rw [Nat.mul_assoc, ← Nat.pow_add]
      refine Nat.lt_of_lt_of_le (Nat.mul_lt_mul_of_pos_right (lt_two_pow_log2 n) (Nat.two_pow_pos _)) ?_
      rw [show (1073741824 : Nat) = 2 ^ 30 by decide, ← Nat.pow_add, ← Nat.pow_add]
      exact Nat.pow_le_pow_right (by decide) (by omega)
  have q3 := Nat.mul_le_mul_right (2 ^ (min i j).toNat) hA
  rw [Nat.add_mul] at q3
  rw [Nat.add_mul]
  omega

/-- The sum of a list's measures. -/
def sumL (ys : List Nat) : Nat := ys.foldl addF 0
theorem le_fold (l : List Nat) : ∀ (acc T : Nat), Le T acc → T + 1073741824 * l.length ≤ 2 ^ 52 → Le (T + 1073741824 * l.length) (l.foldl addF acc) := by
  induction l with
  | nil => intro acc T h _; exact h
  | cons x l ih =>
    intro acc T h hT
    rw [List.length_cons] at hT ⊢
    have : Le (T + 1073741824) (addF acc x) := by
      unfold addF
      cases hm : measB x
      · obtain ⟨s, m, e, hr, hb⟩ := h
        exact ⟨s, m, e, hr, Nat.le_trans hb (Nat.mul_le_mul_right _ (by omega))⟩
      · rw [if_pos rfl]
        have h3 : T + 1073741824 ≤ 2 ^ 52 := Nat.le_trans (Nat.add_le_add_left (Nat.le_mul_of_pos_right _ (Nat.succ_pos _)) T) hT
        have h4 := (le_add h hm h3).2
        unfold addW at h4
        exact h4
    have := ih _ _ this (by omega)
    rw [show T + 1073741824 * (l.length + 1) = T + 1073741824 + 1073741824 * l.length by omega]
    exact this
theorem sumL_bd {ys : List Nat} (h : ys.length ≤ 400) : Bd 38 (sumL ys) := by
  have h1 : 0 + 1073741824 * ys.length ≤ 2 ^ 52 := Nat.le_trans (m := 4503599627370496) (by omega) (by decide)
  have h2 : 0 + 1073741824 * ys.length < 2 ^ (38 + 1) := Nat.lt_of_lt_of_le (m := 549755813888) (by omega) (by decide)
  exact (le_fold ys 0 0 (Le.zero 0) h1).bd (k := 38) h2

/-- A count from 1 to 400 as a float64 is at least 1. -/
def cntLb (n : Nat) : Bool := match double.read (floatOfInt .f64 (n : Int)) with
  | .number s m e => !s && (m != 0 && decide (0 ≤ e + m.log2))
  | _ => false
theorem cntLb_all : (List.range 400).all (fun n => cntLb (n + 1)) = true := by decide +kernel
theorem cnt_lb (n : Nat) (h0 : n ≠ 0) (h : n ≤ 400) : Lb 0 (floatOfInt .f64 (n : Int)) := by
  have hk := List.all_eq_true.1 cntLb_all (n - 1) (by simp; omega)
  rw [show n - 1 + 1 = n by omega] at hk
  unfold cntLb at hk
  left
  cases hd : double.read (floatOfInt .f64 (n : Int)) with
  | nan a b => rw [hd] at hk; cases hk
  | infinity a => rw [hd] at hk; cases hk
  | number s m e =>
    rw [hd] at hk
    simp only [Bool.and_eq_true, Bool.not_eq_true', bne_iff_ne, ne_eq, decide_eq_true_eq] at hk
    obtain ⟨rfl, h1, h2⟩ := hk
    exact ⟨m, e, rfl, h1, h2⟩
/-- The mean of a list all of whose words are measures. -/
def meanL (ys : List Nat) : Nat := divW (sumL ys) (floatOfInt .f64 (ys.length : Int))
theorem meanL_bd {ys : List Nat} (h0 : ys.length ≠ 0) (h : ys.length ≤ 400) : floatBits .quo .f64 (sumL ys) (floatOfInt .f64 (ys.length : Int)) = some (meanL ys) ∧ Bd 40 (meanL ys) :=
  div_lb (K := 39) (sumL_bd h) (cnt_lb _ h0 h) (by omega) (by omega) (by omega)
/-- What a list's words are off from a mean, squared, together. -/
def offTo (m : Nat) (ys : List Nat) : Nat → Nat
  | 0 => 0
  | k + 1 => addW (offTo m ys k) (mulW (subW (el ys k) m) (subW (el ys k) m))
structure OffF (m : Nat) (ys : List Nat) (k : Nat) : Prop where
  sub : floatBits .sub .f64 (el ys k) m = some (subW (el ys k) m)
  mul : floatBits .mul .f64 (subW (el ys k) m) (subW (el ys k) m) = some (mulW (subW (el ys k) m) (subW (el ys k) m))
  add : floatBits .add .f64 (offTo m ys k) (mulW (subW (el ys k) m) (subW (el ys k) m)) = some (offTo m ys (k + 1))
theorem off_step {m : Nat} {ys : List Nat} {k : Nat} (hm : Bd 40 m) (hk : k < 400) (hy : measB (el ys k) = true) (ha : Bd (86 + 2 * k) (offTo m ys k)) : OffF m ys k ∧ Bd (86 + 2 * (k + 1)) (offTo m ys (k + 1)) := by
  have h1 := subW_bd (k := 40) ((meas_bd hy).mono (by omega)) hm (by omega) (by omega)
  have h2 := mulW_bd h1.2 h1.2 (by omega) (by omega)
  have h3 := addW_bd (k := 86 + 2 * k) ha (h2.2.mono (by omega)) (by omega) (by omega)
  exact ⟨⟨h1.1, h2.1, h3.1⟩, h3.2.mono (by omega)⟩
theorem off_bd {m : Nat} {ys : List Nat} (hm : Bd 40 m) (hy : ∀ i, i < ys.length → measB (el ys i) = true) (hl : ys.length ≤ 400) : ∀ k : Nat, k ≤ ys.length → Bd (86 + 2 * k) (offTo m ys k)
  | 0, _ => ⟨false, 0, -1074, zero_read, Or.inl rfl⟩
  | k + 1, h => (off_step hm (by omega) (hy k (by omega)) (off_bd hm hy hl k (by omega))).2
theorem off_f {m : Nat} {ys : List Nat} (hm : Bd 40 m) (hy : ∀ i, i < ys.length → measB (el ys i) = true) (hl : ys.length ≤ 400) {k : Nat} (h : k < ys.length) : OffF m ys k :=
  (off_step hm (by omega) (hy k h) (off_bd hm hy hl k (by omega))).1
/-- How far the words of a list lie apart. -/
def varL (ys : List Nat) : Nat := divW (offTo (meanL ys) ys ys.length) (floatOfInt .f64 (ys.length : Int))
structure FarF (x t : Nat) (ys : List Nat) : Prop where
  mean : floatBits .quo .f64 (sumL ys) (floatOfInt .f64 (ys.length : Int)) = some (meanL ys)
  off : ∀ k, k < ys.length → OffF (meanL ys) ys k
  var : floatBits .quo .f64 (offTo (meanL ys) ys ys.length) (floatOfInt .f64 (ys.length : Int)) = some (varL ys)
  d : floatBits .sub .f64 x (meanL ys) = some (subW x (meanL ys))
  dd : floatBits .mul .f64 (subW x (meanL ys)) (subW x (meanL ys)) = some (mulW (subW x (meanL ys)) (subW x (meanL ys)))
  tt : floatBits .mul .f64 t t = some (mulW t t)
  te : floatBits .mul .f64 (mulW t t) (varL ys) = some (mulW (mulW t t) (varL ys))
theorem far_f {x t : Nat} {ys : List Nat} (hx : measB x = true) (ht : measB t = true) (hy : ∀ i, i < ys.length → measB (el ys i) = true) (h0 : ys.length ≠ 0) (hl : ys.length ≤ 400) : FarF x t ys := by
  have h1 := meanL_bd h0 hl
  have h2 := off_bd h1.2 hy hl ys.length (Nat.le_refl _)
  have h3 := div_lb (K := 86 + 2 * ys.length + 1) h2 (cnt_lb _ h0 hl) (by omega) (by omega) (by omega)
  have h4 := subW_bd (k := 40) ((meas_bd hx).mono (by omega)) h1.2 (by omega) (by omega)
  have h5 := mulW_bd h4.2 h4.2 (by omega) (by omega)
  have h6 := mulW_bd (meas_bd ht) (meas_bd ht) (by omega) (by omega)
  have h7 := mulW_bd h6.2 h3.2 (by omega) (by omega)
  exact ⟨h1.1, fun k hk => off_f h1.2 hy hl hk, h3.1, h4.1, h5.1, h6.1, h7.1⟩
/-- Above. -/
def gtW (x y : Nat) : Bool := FloatKind.f64.format.order x y == some .gt
def ltW (x y : Nat) : Bool := FloatKind.f64.format.order x y == some .lt
def farB (x t : Nat) (ys : List Nat) : Bool := gtW (subW x (meanL ys)) 0 && gtW (mulW (subW x (meanL ys)) (subW x (meanL ys))) (mulW (mulW t t) (varL ys))

theorem signed_up (s : Bool) (m u v : Nat) : signed s m (u + v) = signed s m u * 2 ^ v := by
  unfold signed
  rw [Nat.shiftLeft_eq, Nat.shiftLeft_eq, Nat.pow_add, ← Nat.mul_assoc]
  split <;> simp [Int.natCast_mul, Int.neg_mul]
/-- The order of two numbers at any place that is low enough. -/
theorem order_at {x y : Nat} {s t : Bool} {m n : Nat} {i j : Int} (hx : double.read x = .number s m i) (hy : double.read y = .number t n j) (p : Int) (hi : p ≤ i) (hj : p ≤ j) :
    FloatKind.f64.format.order x y = some (compare (signed s m (i - p).toNat) (signed t n (j - p).toNat)) := by
  show (double.read x).order (double.read y) = _
  rw [hx, hy]
  simp only [Datum.order]
  have e1 : (i - p).toNat = (i - min i j).toNat + (min i j - p).toNat := by omega
  have e2 : (j - p).toNat = (j - min i j).toNat + (min i j - p).toNat := by omega
  rw [e1, e2, signed_up, signed_up]
  congr 1
  generalize signed s m (i - min i j).toNat = a
  generalize signed t n (j - min i j).toNat = b
  have hp : (0 : Int) < 2 ^ (min i j - p).toNat := Int.pow_pos (by decide)
  generalize (2 : Int) ^ (min i j - p).toNat = c at hp
  rcases Int.lt_trichotomy a b with h | h | h
  · rw [Int.compare_eq_lt.2 h, Int.compare_eq_lt.2 (Int.mul_lt_mul_of_pos_right h hp)]
  · subst h; rw [Int.compare_eq_eq.2 rfl, Int.compare_eq_eq.2 rfl]
  · rw [Int.compare_eq_gt.2 h, Int.compare_eq_gt.2 (Int.mul_lt_mul_of_pos_right h hp)]
theorem lt_trans {x y z : Nat} (hx : Nm x) (hy : Nm y) (hz : Nm z) (h1 : ltW x y = true) (h2 : ltW y z = true) : ltW x z = true := by
  obtain ⟨s, m, i, rx⟩ := hx
  obtain ⟨t, n, j, ry⟩ := hy
  obtain ⟨u, o, k, rz⟩ := hz
  unfold ltW at *
  rw [order_at rx ry (min i (min j k)) (by omega) (by omega)] at h1
  rw [order_at ry rz (min i (min j k)) (by omega) (by omega)] at h2
  rw [order_at rx rz (min i (min j k)) (by omega) (by omega)]
  have g1 : compare (_ : Int) (_ : Int) = Ordering.lt := Option.some.inj (eq_of_beq h1)
  have g2 : compare (_ : Int) (_ : Int) = Ordering.lt := Option.some.inj (eq_of_beq h2)
  rw [Int.compare_eq_lt] at g1 g2
  rw [Int.compare_eq_lt.2 (Int.lt_trans g1 g2)]
  rfl
/-- What is not above is at most. -/
theorem le_of_not {x y : Nat} (hx : Nm x) (hy : Nm y) (h : ltW y x = false) : FloatKind.f64.format.order x y = some .lt ∨ FloatKind.f64.format.order x y = some .eq := by
  obtain ⟨s, m, i, rx⟩ := hx
  obtain ⟨t, n, j, ry⟩ := hy
  unfold ltW at h
  rw [order_at ry rx (min i j) (by omega) (by omega)] at h
  rw [order_at rx ry (min i j) (by omega) (by omega)]
  generalize signed s m (i - min i j).toNat = a at *
  generalize signed t n (j - min i j).toNat = b at *
  rcases Int.lt_trichotomy a b with k | k | k
  · exact .inl (by rw [Int.compare_eq_lt.2 k])
  · exact .inr (by rw [Int.compare_eq_eq.2 k])
  · rw [Int.compare_eq_lt.2 k] at h; cases h
end Go.Proofs.Ytlipgnjknfmikaa.Fl
