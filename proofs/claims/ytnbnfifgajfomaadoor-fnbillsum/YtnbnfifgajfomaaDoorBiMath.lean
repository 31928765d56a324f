/-
  Bills: tariffs, bills, accounts, debts: mathematics.
-/
import Derived.Lib.Hide
namespace Go.Proofs.YtnbnfifgajfomaaDoor

namespace Bi
/-- A statement as a Bool. -/
noncomputable def dB (P : Prop) : Bool := @decide P (Classical.propDecidable P)
theorem dB_tt {P : Prop} (h : P) : dB P = true := by unfold dB; simp [h]
theorem dB_ff {P : Prop} (h : ¬ P) : dB P = false := by unfold dB; simp [h]
theorem dB_iff {P : Prop} : dB P = true ↔ P := by unfold dB; simp

/-- A tariff: the price of a day, its blocks (two numbers each: up to where, the price), sewage and tax in hundredths. -/
structure T where
  day : Int
  bn : Nat
  B : Nat → Int
  sew : Int
  tax : Int
/-- Up to where the block ahead goes. -/
def ahead (t : T) : Nat → Int
  | 0 => 0
  | i + 1 => t.B (i * 2)
def BlkOk (t : T) (i : Nat) : Prop := (0 ≤ t.B (i * 2 + 1) ∧ t.B (i * 2 + 1) ≤ 10000) ∧ (i + 1 < t.bn → ahead t i + 1 ≤ t.B (i * 2) ∧ t.B (i * 2) ≤ 1000000)
def Blocks (t : T) : Prop := (1 ≤ t.bn ∧ t.bn ≤ 10) ∧ ∀ i, i < t.bn → BlkOk t i
def Right (t : T) : Prop := (0 ≤ t.day ∧ t.day ≤ 10000) ∧ Blocks t ∧ (0 ≤ t.sew ∧ t.sew ≤ 200) ∧ (0 ≤ t.tax ∧ t.tax ≤ 100)
theorem ahead_bd {t : T} : ∀ i, (∀ j, j < i → BlkOk t j) → i < t.bn → 0 ≤ ahead t i ∧ ahead t i ≤ 1000000
  | 0, _, _ => ⟨Int.le_refl _, by show (0 : Int) ≤ _; omega⟩
  | i + 1, h, hi => by
    have h1 := (h i (by omega)).2 hi
    have h2 := ahead_bd i (fun j hj => h j (by omega)) (by omega)
    show 0 ≤ t.B (i * 2) ∧ t.B (i * 2) ≤ 1000000
    omega
/-- The water of a block. -/
def part (t : T) (x : Int) (i : Nat) : Int := if i + 1 < t.bn then max 0 (min x (t.B (i * 2)) - ahead t i) else max 0 (x - ahead t i)
/-- What is left of the water ahead of a block. -/
def left (t : T) (x : Int) (i : Nat) : Int := max 0 (x - ahead t i)
theorem part_min {t : T} {x : Int} {i : Nat} (h : BlkOk t i) (hi : i + 1 < t.bn) : part t x i = min (left t x i) (t.B (i * 2) - ahead t i) := by
  have h1 := h.2 hi
  unfold part left
  rw [if_pos hi]
  omega
theorem part_last {t : T} {x : Int} {i : Nat} (hi : ¬ i + 1 < t.bn) : part t x i = left t x i := by unfold part left; rw [if_neg hi]
theorem part_in {t : T} {x : Int} {i : Nat} (hi : i + 1 < t.bn) : part t x i = max 0 (min x (t.B (i * 2)) - ahead t i) := by unfold part; rw [if_pos hi]
theorem left_next {t : T} {x : Int} {i : Nat} (h : BlkOk t i) (hi : i + 1 < t.bn) : left t x i - part t x i = left t x (i + 1) := by
  have h1 := h.2 hi
  rw [part_min h hi]
  unfold left
  show _ = max 0 (x - t.B (i * 2))
  omega
theorem left_bd {t : T} {x : Int} {i : Nat} (ha : 0 ≤ ahead t i) (hx : 0 ≤ x ∧ x ≤ 1000000) : 0 ≤ left t x i ∧ left t x i ≤ 1000000 := by unfold left; omega
theorem part_bd {t : T} {x : Int} {i : Nat} (h : BlkOk t i) (ha : 0 ≤ ahead t i) (hx : 0 ≤ x ∧ x ≤ 1000000) : 0 ≤ part t x i ∧ part t x i ≤ 1000000 := by
  have hl := left_bd ha hx
  by_cases hi : i + 1 < t.bn
  · have h1 := h.2 hi
    rw [part_min h hi]; omega
  · rw [part_last hi]; exact hl
def line (t : T) (x : Int) (i : Nat) : Int := t.B (i * 2 + 1) * part t x i
theorem line_bd {t : T} {x : Int} {i : Nat} (h : BlkOk t i) (ha : 0 ≤ ahead t i) (hx : 0 ≤ x ∧ x ≤ 1000000) : 0 ≤ line t x i ∧ line t x i ≤ 10000000000 := by
  have hp := part_bd h ha hx
  unfold line
  have h1 : 0 ≤ t.B (i * 2 + 1) * part t x i := Int.mul_nonneg h.1.1 hp.1
  have h2 : t.B (i * 2 + 1) * part t x i ≤ 10000 * 1000000 := Int.mul_le_mul h.1.2 hp.2 hp.1 (by omega)
  omega
def sum (f : Nat → Int) : Nat → Int
  | 0 => 0
  | i + 1 => sum f i + f i
theorem sum_bd {f : Nat → Int} {M : Int} : ∀ n : Nat, (∀ i, i < n → 0 ≤ f i ∧ f i ≤ M) → 0 ≤ sum f n ∧ sum f n ≤ n * M
  | 0, _ => ⟨Int.le_refl _, by show (0 : Int) ≤ _; simp⟩
  | n + 1, h => by
    have h1 := sum_bd n (fun i hi => h i (by omega))
    have h2 := h n (by omega)
    have e : ((n + 1 : Nat) : Int) * M = n * M + M := by rw [Int.natCast_add, Int.add_mul]; simp
    show 0 ≤ sum f n + f n ∧ sum f n + f n ≤ _
    rw [e]; omega
def lsum (t : T) (x : Int) (i : Nat) : Int := sum (line t x) i
theorem lsum_bd {t : T} {x : Int} (h : Blocks t) (hx : 0 ≤ x ∧ x ≤ 1000000) (i : Nat) (hi : i ≤ t.bn) : 0 ≤ lsum t x i ∧ lsum t x i ≤ 100000000000 := by
  have h1 := sum_bd (f := line t x) (M := 10000000000) i (fun j hj => line_bd (h.2 j (by omega)) (ahead_bd j (fun k hk => h.2 k (by omega)) (by omega)).1 hx)
  have h2 := h.1.2
  have h3 : (i : Int) * 10000000000 ≤ 10 * 10000000000 := Int.mul_le_mul_of_nonneg_right (by omega) (by omega)
  unfold lsum
  omega
/-- What a bill holds besides its lines. -/
structure Bl where
  days : Int
  sew : Int
  net : Int
  tax : Int
  gross : Int
  code : Int
def Ok (t : T) (d x : Int) : Prop := Right t ∧ (0 ≤ d ∧ d ≤ 1000) ∧ (0 ≤ x ∧ x ≤ 1000000)
def sewG (t : T) (x : Int) : Int := lsum t x t.bn * t.sew / 100
def netG (t : T) (d x : Int) : Int := d * t.day + lsum t x t.bn + sewG t x
def taxG (t : T) (d x : Int) : Int := (netG t d x * t.tax + 50) / 100
def bill (t : T) (d x : Int) : Bl := ⟨d * t.day, sewG t x, netG t d x, taxG t d x, netG t d x + taxG t d x, 0⟩
def bad : Bl := ⟨0, 0, 0, 0, 0, 1⟩
theorem days_bd {t : T} {d x : Int} (h : Ok t d x) : 0 ≤ d * t.day ∧ d * t.day ≤ 10000000 := by
  obtain ⟨⟨⟨a, b⟩, _⟩, ⟨c, e⟩, _⟩ := h
  have h1 : 0 ≤ d * t.day := Int.mul_nonneg c a
  have h2 : d * t.day ≤ 1000 * 10000 := Int.mul_le_mul e b a (by omega)
  omega
theorem sew_bd {t : T} {d x : Int} (h : Ok t d x) : (0 ≤ lsum t x t.bn * t.sew ∧ lsum t x t.bn * t.sew ≤ 20000000000000) ∧ (0 ≤ sewG t x ∧ sewG t x ≤ 200000000000) := by
  have hl := lsum_bd h.1.2.1 h.2.2 t.bn (Nat.le_refl _)
  have hs := h.1.2.2.1
  have h1 : 0 ≤ lsum t x t.bn * t.sew := Int.mul_nonneg hl.1 hs.1
  have h2 : lsum t x t.bn * t.sew ≤ 100000000000 * 200 := Int.mul_le_mul hl.2 hs.2 hs.1 (by omega)
  unfold sewG
  omega
theorem net_bd {t : T} {d x : Int} (h : Ok t d x) : 0 ≤ netG t d x ∧ netG t d x ≤ 1000000000000 := by
  have hl := lsum_bd h.1.2.1 h.2.2 t.bn (Nat.le_refl _)
  have hd := days_bd h
  have hs := (sew_bd h).2
  unfold netG
  omega
theorem tax_bd {t : T} {d x : Int} (h : Ok t d x) : (0 ≤ netG t d x * t.tax ∧ netG t d x * t.tax ≤ 100000000000000) ∧ (0 ≤ taxG t d x ∧ taxG t d x ≤ 2000000000000) := by
  have hl := net_bd h
  have hs := h.1.2.2.2
  have h1 : 0 ≤ netG t d x * t.tax := Int.mul_nonneg hl.1 hs.1
  have h2 : netG t d x * t.tax ≤ 1000000000000 * 100 := Int.mul_le_mul hl.2 hs.2 hs.1 (by omega)
  unfold taxG
  omega
/-- A bill that was handed in: its numbers, its lines. -/
structure Bi where
  b : Bl
  n : Nat
  L : Nat → Int
/-- It is just what is made of so many days. -/
def Same (t : T) (d x : Int) (z : Bi) : Prop := bill t d x = z.b ∧ t.bn = z.n ∧ ∀ i, i < z.n → line t x i = z.L i
def BRight (t : T) (x : Int) (z : Bi) : Prop := ∃ d, Ok t d x ∧ Same t d x z
/-- The days that a bill's sum of days stands for. -/
noncomputable def daysOf (t : T) (z : Bi) : Int := if t.day = 0 then 0 else z.b.days.tdiv t.day
theorem bright_iff {t : T} {x : Int} {z : Bi} : BRight t x z ↔ (Ok t (daysOf t z) x ∧ Same t (daysOf t z) x z) := by
  constructor
  · rintro ⟨d, h1, h2, h3, h4⟩
    have e : z.b.days = d * t.day := by rw [← h2]; rfl
    unfold daysOf
    by_cases k : t.day = 0
    · rw [if_pos k]
      have ez : bill t 0 x = bill t d x := by unfold bill taxG netG; rw [k]; simp
      exact ⟨⟨h1.1, ⟨Int.le_refl _, by omega⟩, h1.2.2⟩, by rw [ez]; exact h2, h3, h4⟩
    · rw [if_neg k, e, Int.mul_tdiv_cancel _ k]
      exact ⟨h1, h2, h3, h4⟩
  · rintro ⟨h1, h2⟩
    exact ⟨_, h1, h2⟩

/-- The parts of a debt. -/
def DebtOk (d m : Int) : Prop := (0 ≤ d ∧ d ≤ 1000000000) ∧ (1 ≤ m ∧ m ≤ 120)
def debt (d m : Int) (i : Nat) : Int := if (i : Int) < d % m then d / m + 1 else d / m
theorem debt_bd {d m : Int} (h : DebtOk d m) (i : Nat) : 0 ≤ debt d m i ∧ debt d m i ≤ 1000000001 := by
  obtain ⟨⟨a, b⟩, c, e⟩ := h
  have h1 : 0 ≤ d / m := Int.ediv_nonneg a (by omega)
  have h2 : d / m ≤ d := Int.ediv_le_self _ a
  unfold debt
  split <;> omega
theorem debt_near {d m : Int} (i j : Nat) : debt d m i - debt d m j ≤ 1 := by unfold debt; split <;> split <;> omega
theorem debt_sum {d m : Int} : ∀ n : Nat, sum (debt d m) n = n * (d / m) + min (n : Int) (max 0 (d % m))
  | 0 => by show (0 : Int) = _; simp; omega
  | n + 1 => by
    have h := debt_sum (d := d) (m := m) n
    have e : ((n + 1 : Nat) : Int) * (d / m) = n * (d / m) + d / m := by rw [Int.natCast_add, Int.add_mul]; simp
    show sum (debt d m) n + debt d m n = _
    rw [h, e]
    unfold debt
    split <;> omega
theorem debt_all {d m : Int} (h : DebtOk d m) : sum (debt d m) m.toNat = d := by
  obtain ⟨⟨a, b⟩, c, e⟩ := h
  have h0 := Int.emod_nonneg d (show m ≠ 0 by omega)
  have h1 := Int.emod_lt_of_pos d (show 0 < m by omega)
  have h2 := Int.mul_ediv_add_emod d m
  rw [debt_sum]
  have e2 : ((m.toNat : Nat) : Int) = m := by omega
  rw [e2]
  omega
end Bi
end Go.Proofs.YtnbnfifgajfomaaDoor
