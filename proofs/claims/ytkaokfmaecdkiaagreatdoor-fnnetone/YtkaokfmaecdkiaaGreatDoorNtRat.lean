/-
  Elimination over rational numbers: a square of numbers by which only noughts give nought keeps that, and its places on the diagonal are not nought; rows that are taken off other rows leave the answers as they are.
-/
namespace Go.Proofs.YtkaokfmaecdkiaaGreatDoor
namespace Nt

def sumR : Nat → (Nat → Rat) → Rat
  | 0, _ => 0
  | k + 1, f => sumR k f + f k
theorem sumR_congr {f g : Nat → Rat} : ∀ {n : Nat}, (∀ i, i < n → f i = g i) → sumR n f = sumR n g
  | 0, _ => rfl
  | k + 1, h => by rw [sumR, sumR, sumR_congr (fun i hi => h i (by omega)), h k (by omega)]
theorem sumR_add (f g : Nat → Rat) : ∀ n, sumR n (fun i => f i + g i) = sumR n f + sumR n g
  | 0 => by simp only [sumR]; grind
  | k + 1 => by rw [sumR, sumR, sumR, sumR_add f g k]; grind
theorem sumR_sub (f g : Nat → Rat) : ∀ n, sumR n (fun i => f i - g i) = sumR n f - sumR n g
  | 0 => by simp [sumR]; grind
  | k + 1 => by rw [sumR, sumR, sumR, sumR_sub f g k]; grind
theorem sumR_mul (c : Rat) (f : Nat → Rat) : ∀ n, sumR n (fun i => c * f i) = c * sumR n f
  | 0 => by simp [sumR]
  | k + 1 => by rw [sumR, sumR, sumR_mul c f k]; grind
theorem sumR_zero {f : Nat → Rat} : ∀ {n : Nat}, (∀ i, i < n → f i = 0) → sumR n f = 0
  | 0, _ => rfl
  | k + 1, h => by rw [sumR, sumR_zero (fun i hi => h i (by omega)), h k (by omega)]; grind
theorem sumR_one {f : Nat → Rat} {n j : Nat} (hj : j < n) (h : ∀ i, i < n → i ≠ j → f i = 0) : sumR n f = f j := by
  induction n with
  | zero => omega
  | succ k ih =>
    rw [sumR]
    by_cases e : j = k
    · subst e
      rw [sumR_zero (fun i hi => h i (by omega) (by omega))]; grind
    · rw [ih (by omega) (fun i hi he => h i (by omega) he), h k (by omega) (by omega)]; grind
theorem sumR_swap (f : Nat → Nat → Rat) (n : Nat) : ∀ m, sumR n (fun i => sumR m (fun j => f i j)) = sumR m (fun j => sumR n (fun i => f i j))
  | 0 => sumR_zero (fun _ _ => rfl)
  | m + 1 => by
    rw [sumR, ← sumR_swap f n m, ← sumR_add]
    rfl
theorem sumR_nonneg {f : Nat → Rat} : ∀ {n : Nat}, (∀ i, i < n → 0 ≤ f i) → 0 ≤ sumR n f
  | 0, _ => by simp [sumR]
  | k + 1, h => by
    have h1 := sumR_nonneg (f := f) (n := k) (fun i hi => h i (by omega))
    have h2 := h k (by omega)
    rw [sumR]; grind
theorem sumR_null {f : Nat → Rat} : ∀ {n : Nat}, (∀ i, i < n → 0 ≤ f i) → sumR n f = 0 → ∀ i, i < n → f i = 0
  | 0, _, _ => fun i hi => absurd hi (Nat.not_lt_zero _)
  | k + 1, h, h0 => by
    have h1 := sumR_nonneg (f := f) (n := k) (fun i hi => h i (by omega))
    have h2 := h k (by omega)
    rw [sumR] at h0
    have e1 : sumR k f = 0 := by grind
    have e2 : f k = 0 := by grind
    intro i hi
    by_cases e : i = k
    · rw [e]; exact e2
    · exact sumR_null (fun i hi => h i (by omega)) e1 i (by omega)
theorem sq_nonneg (x : Rat) : 0 ≤ x * x := by
  rcases Rat.le_total (a := 0) (b := x) with h | h
  · exact Rat.mul_nonneg h h
  · have : 0 ≤ -x := by grind
    have := Rat.mul_nonneg this this
    grind

/-- A row by a list of numbers. -/
def rowX (m : Nat) (U : Nat → Nat → Rat) (x : Nat → Rat) (r : Nat) : Rat := sumR m (fun c => U r c * x c)
/-- Only noughts give nought, where the first k are nought. -/
def Sure (m k : Nat) (U : Nat → Nat → Rat) : Prop := ∀ x : Nat → Rat, (∀ j, j < k → x j = 0) → sumR m (fun r => x r * rowX m U x r) = 0 → ∀ j, j < m → x j = 0
theorem Sure.pivot {m k : Nat} {U : Nat → Nat → Rat} (h : Sure m k U) (hk : k < m) : U k k ≠ 0 := by
  intro e
  have := h (fun j => if j = k then 1 else 0) (fun j hj => by simp; omega) (by
    rw [sumR_one (j := k) hk (fun i _ hne => by simp [hne])]
    simp only [if_true]
    unfold rowX
    rw [sumR_one (j := k) hk (fun i _ hne => by simp [hne])]
    simp [e]) k hk
  simp at this
theorem Sure.step {m k : Nat} {U V : Nat → Nat → Rat} (h : Sure m k U) (hk : k < m)
    (hV : ∀ r, k < r → r < m → ∀ c, k < c → c < m → V r c = U r c - U r k / U k k * U k c) : Sure m (k + 1) V := by
  intro x hx h0
  have hp := h.pivot hk
  obtain ⟨t, ht⟩ : ∃ t, t = -(rowX m U x k) / U k k := ⟨_, rfl⟩
  obtain ⟨y, hy⟩ : ∃ y : Nat → Rat, y = fun j => if j = k then t else x j := ⟨_, rfl⟩
  have xk : x k = 0 := hx k (by omega)
  have yr : ∀ r, rowX m U y r = rowX m U x r + U r k * t := by
    intro r
    unfold rowX
    have e1 : sumR m (fun c => U r c * y c) = sumR m (fun c => U r c * x c + (if c = k then U r k * t else 0)) := by
      apply sumR_congr
      intro c hc
      rw [hy]
      by_cases e : c = k
      · subst e; simp only [if_true]; rw [xk]; grind
      · simp only [e, if_false]; grind
    rw [e1, sumR_add]
    congr 1
    rw [sumR_one (j := k) hk (fun i _ hne => by simp [hne])]
    simp
  have yk : rowX m U y k = 0 := by
    rw [yr, ht]; grind
  have hq : sumR m (fun r => y r * rowX m U y r) = sumR m (fun r => x r * rowX m V x r) := by
    apply sumR_congr
    intro r hr
    by_cases e : r = k
    · subst e; rw [yk, xk]; grind
    · have e1 : y r = x r := by rw [hy]; simp [e]
      rw [e1]
      by_cases e2 : r < k
      · rw [hx r (by omega)]; grind
      · congr 1
        rw [yr]
        unfold rowX
        have e3 : sumR m (fun c => V r c * x c) = sumR m (fun c => U r c * x c - U r k / U k k * (U k c * x c)) := by
          apply sumR_congr
          intro c hc
          by_cases e4 : c ≤ k
          · rw [hx c (by omega)]; grind
          · rw [hV r (by omega) hr c (by omega) hc]; grind
        rw [e3, sumR_sub, sumR_mul, ht]
        unfold rowX
        grind
  have := h y (fun j hj => by rw [hy]; simp only [show j ≠ k by omega, if_false]; exact hx j (by omega)) (by rw [hq]; exact h0)
  intro j hj
  by_cases e : j = k
  · subst e; exact xk
  · have := this j hj
    rw [hy] at this
    simpa [e] using this
/-- All rows hold: the last number of a row is what it comes to. -/
def Holds (m : Nat) (U : Nat → Nat → Rat) (x : Nat → Rat) : Prop := ∀ r, r < m → rowX m U x r = U r m
theorem Holds.back {m k s : Nat} {U V : Nat → Nat → Rat} {x : Nat → Rat} {f : Rat} (h : Holds m V x) (hk : k < m) (hs : s < m) (hne : k ≠ s) (hV : ∀ c, c ≤ m → V s c = U s c - f * U k c) (hO : ∀ r, r ≠ s → ∀ c, c ≤ m → V r c = U r c) : Holds m U x := by
  have hrow : ∀ r, r ≠ s → rowX m U x r = rowX m V x r := fun r hr => sumR_congr (fun c hc => by rw [hO r hr c (by omega)])
  have hkk : rowX m U x k = U k m := by rw [hrow k hne, h k hk, hO k hne m (Nat.le_refl _)]
  intro r hr
  by_cases e : r = s
  · subst e
    have h1 := h r hr
    have e1 : rowX m V x r = rowX m U x r - f * rowX m U x k := by
      unfold rowX
      rw [← sumR_mul, ← sumR_sub]
      exact sumR_congr (fun c hc => by rw [hV c (by omega)]; grind)
    rw [e1, hV m (Nat.le_refl _), hkk] at h1
    grind
  · rw [hrow r e, h r hr, hO r e m (Nat.le_refl _)]
end Nt
end Go.Proofs.YtkaokfmaecdkiaaGreatDoor
