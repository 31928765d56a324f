/-
  Meters: what they show, how far they turn, reads of them, uses: mathematics.
-/
import Derived.Lib.Hide
namespace Go.Proofs.YtmejmpdljckfgaaDoor

namespace Mt
/-- A statement as a Bool. -/
noncomputable def dB (P : Prop) : Bool := @decide P (Classical.propDecidable P)
theorem dB_tt {P : Prop} (h : P) : dB P = true := by unfold dB; simp [h]
theorem dB_ff {P : Prop} (h : ¬ P) : dB P = false := by unfold dB; simp [h]
theorem dB_iff {P : Prop} : dB P = true ↔ P := by unfold dB; simp

/-- Powers of ten. -/
def pw : Nat → Int
  | 0 => 1
  | i + 1 => pw i * 10
theorem pw_bd : ∀ i, i ≤ 8 → 1 ≤ pw i ∧ pw i ≤ 100000000 := by
  intro i hi
  have : i = 0 ∨ i = 1 ∨ i = 2 ∨ i = 3 ∨ i = 4 ∨ i = 5 ∨ i = 6 ∨ i = 7 ∨ i = 8 := by omega
  rcases this with rfl | rfl | rfl | rfl | rfl | rfl | rfl | rfl | rfl <;> decide
theorem pw_bd7 : ∀ i, i ≤ 7 → 1 ≤ pw i ∧ pw i ≤ 10000000 := by
  intro i hi
  have : i = 0 ∨ i = 1 ∨ i = 2 ∨ i = 3 ∨ i = 4 ∨ i = 5 ∨ i = 6 ∨ i = 7 := by omega
  rcases this with rfl | rfl | rfl | rfl | rfl | rfl | rfl | rfl <;> decide
/-- One more than the greatest number that so many digits show. -/
def full (d : Int) : Int := pw d.toNat
theorem full_bd {d : Int} (h : d ≤ 7) : 1 ≤ full d ∧ full d ≤ 10000000 := pw_bd7 _ (by omega)
theorem full_bd8 {d : Int} (h : d ≤ 8) : 1 ≤ full d ∧ full d ≤ 100000000 := pw_bd _ (by omega)
/-- A meter: its digits, what is usual, the day of its last read, what it shows. -/
structure M where
  d : Int
  u : Int
  day : Int
  s : Int
def Digits (d : Int) : Prop := 3 ≤ d ∧ d ≤ 7
def Shows (d x : Int) : Prop := Digits d ∧ 0 ≤ x ∧ x < full d
def Right (m : M) : Prop := (0 ≤ m.u ∧ m.u ≤ 10000) ∧ (0 ≤ m.day ∧ m.day ≤ 100000) ∧ Shows m.d m.s
/-- How much has run through. -/
noncomputable def turn (d a b : Int) : Int := if dB (Shows d a ∧ Shows d b) = true then (if b < a then b - a + full d else b - a) else -1
theorem turn_no {d a b : Int} (h : ¬ (Shows d a ∧ Shows d b)) : turn d a b = -1 := by unfold turn; rw [dB_ff h]; rfl
theorem turn_over {d a b : Int} (h : Shows d a ∧ Shows d b) (k : b < a) : turn d a b = b - a + full d := by unfold turn; rw [dB_tt h, if_pos rfl, if_pos k]
theorem turn_on {d a b : Int} (h : Shows d a ∧ Shows d b) (k : ¬ b < a) : turn d a b = b - a := by unfold turn; rw [dB_tt h, if_pos rfl, if_neg k]
theorem turn_bd {d a b : Int} (h : Shows d a ∧ Shows d b) : 0 ≤ turn d a b ∧ turn d a b < full d := by
  have h1 := h.1.2
  have h2 := h.2.2
  by_cases k : b < a
  · rw [turn_over h k]; omega
  · rw [turn_on h k]; omega
theorem turn_lead {d a b : Int} (h : Shows d a ∧ Shows d b) : (a + turn d a b) % full d = b := by
  have h1 := h.1.2
  have h2 := h.2.2
  by_cases k : b < a
  · rw [turn_over h k]
    have e : a + (b - a + full d) = b + full d := by omega
    rw [e, Int.add_emod_right, Int.emod_eq_of_lt h2.1 h2.2]
  · rw [turn_on h k]
    have e : a + (b - a) = b := by omega
    rw [e, Int.emod_eq_of_lt h2.1 h2.2]
/-- A read is right: its day, what it shows. -/
def ReadOk (m : M) (rd rs : Int) : Prop := Right m ∧ (m.day < rd ∧ rd ≤ 100000) ∧ (rs = -1 ∨ Shows m.d rs)
/-- What is usual over the days of a read. -/
def usual (m : M) (rd : Int) : Int := m.u * (rd - m.day)
noncomputable def water (m : M) (rd rs : Int) : Int := if rs = -1 then usual m rd else turn m.d m.s rs
noncomputable def kind (m : M) (rd rs : Int) : Int := if rs = -1 then 4 else if 5 * usual m rd + 100 < turn m.d m.s rs then 2 else if 10 * turn m.d m.s rs < usual m rd then 3 else 1
noncomputable def next (m : M) (rd rs : Int) : M :=
  ⟨m.d, if kind m rd rs = 1 then min ((3 * m.u + water m rd rs / (rd - m.day)) / 4) 10000 else m.u, rd, if rs = -1 then (m.s + usual m rd) % full m.d else rs⟩
theorem usual_bd {m : M} {rd rs : Int} (h : ReadOk m rd rs) : 0 ≤ usual m rd ∧ usual m rd ≤ 1000000000 := by
  obtain ⟨⟨⟨a, b⟩, ⟨c, d⟩, _⟩, ⟨e, f⟩, _⟩ := h
  unfold usual
  have h1 : 0 ≤ m.u * (rd - m.day) := Int.mul_nonneg a (by omega)
  have h2 : m.u * (rd - m.day) ≤ 10000 * 100000 := Int.mul_le_mul b (by omega) (by omega) (by omega)
  omega
theorem water_guess {m : M} {rd : Int} : water m rd (-1) = usual m rd := by unfold water; simp
theorem water_read {m : M} {rd rs : Int} (h : rs ≠ -1) : water m rd rs = turn m.d m.s rs := by unfold water; simp [h]
theorem water_bd {m : M} {rd rs : Int} (h : ReadOk m rd rs) : 0 ≤ water m rd rs ∧ water m rd rs ≤ 1000000000 := by
  by_cases k : rs = -1
  · subst k; rw [water_guess]; exact usual_bd h
  · rw [water_read k]
    have h3 : Shows m.d rs := by
      rcases h.2.2 with h | h
      · exact absurd h k
      · exact h
    have := turn_bd ⟨h.1.2.2, h3⟩
    have := full_bd h3.1.2
    omega
theorem kind_guess {m : M} {rd : Int} : kind m rd (-1) = 4 := by unfold kind; simp
theorem kind_high {m : M} {rd rs : Int} (h : rs ≠ -1) (k : 5 * usual m rd + 100 < turn m.d m.s rs) : kind m rd rs = 2 := by unfold kind; rw [if_neg h, if_pos k]
theorem kind_low {m : M} {rd rs : Int} (h : rs ≠ -1) (k : ¬ 5 * usual m rd + 100 < turn m.d m.s rs) (l : 10 * turn m.d m.s rs < usual m rd) : kind m rd rs = 3 := by unfold kind; rw [if_neg h, if_neg k, if_pos l]
theorem kind_good {m : M} {rd rs : Int} (h : rs ≠ -1) (k : ¬ 5 * usual m rd + 100 < turn m.d m.s rs) (l : ¬ 10 * turn m.d m.s rs < usual m rd) : kind m rd rs = 1 := by unfold kind; rw [if_neg h, if_neg k, if_neg l]
theorem next_guess {m : M} {rd : Int} : next m rd (-1) = ⟨m.d, m.u, rd, (m.s + usual m rd) % full m.d⟩ := by unfold next; rw [kind_guess]; simp
theorem next_far {m : M} {rd rs : Int} (h : rs ≠ -1) (k : kind m rd rs ≠ 1) : next m rd rs = ⟨m.d, m.u, rd, rs⟩ := by unfold next; rw [if_neg k, if_neg h]
theorem next_good {m : M} {rd rs : Int} (h : rs ≠ -1) (k : kind m rd rs = 1) : next m rd rs = ⟨m.d, min ((3 * m.u + turn m.d m.s rs / (rd - m.day)) / 4) 10000, rd, rs⟩ := by unfold next; rw [if_pos k, if_neg h, water_read h]
/-- Behind a right read a meter is right. -/
theorem next_right {m : M} {rd rs : Int} (h : ReadOk m rd rs) : Right (next m rd rs) := by
  have hu := usual_bd h
  have hw := water_bd h
  obtain ⟨⟨⟨a, b⟩, ⟨c, d⟩, f⟩, ⟨e, g⟩, hs⟩ := h
  have hf := full_bd f.1.2
  refine ⟨?_, ⟨by show (0 : Int) ≤ rd; omega, g⟩, f.1, ?_⟩
  · show 0 ≤ (if kind m rd rs = 1 then _ else m.u) ∧ (if kind m rd rs = 1 then _ else m.u) ≤ 10000
    split
    · have h1 : 0 ≤ water m rd rs / (rd - m.day) := Int.ediv_nonneg hw.1 (by omega)
      have h2 : 0 ≤ (3 * m.u + water m rd rs / (rd - m.day)) / 4 := Int.ediv_nonneg (by omega) (by omega)
      omega
    · exact ⟨a, b⟩
  · show 0 ≤ (if rs = -1 then (m.s + usual m rd) % full m.d else rs) ∧ (if rs = -1 then (m.s + usual m rd) % full m.d else rs) < full m.d
    split
    · exact ⟨Int.emod_nonneg _ (by omega), Int.emod_lt_of_pos _ (by omega)⟩
    · rcases hs with hs | hs
      · omega
      · exact hs.2
/-- The meter behind so many reads (each of two numbers). -/
noncomputable def mAt (m : M) (R : Nat → Int) : Nat → M
  | 0 => m
  | i + 1 => next (mAt m R i) (R (i * 2)) (R (i * 2 + 1))
def OkAt (m : M) (R : Nat → Int) (i : Nat) : Prop := ReadOk (mAt m R i) (R (i * 2)) (R (i * 2 + 1))
/-- The uses, four numbers each. -/
noncomputable def use (m : M) (R : Nat → Int) (j : Nat) : Int :=
  match j % 4 with
  | 0 => (mAt m R (j / 4)).day
  | 1 => R (j / 4 * 2)
  | 2 => water (mAt m R (j / 4)) (R (j / 4 * 2)) (R (j / 4 * 2 + 1))
  | _ => kind (mAt m R (j / 4)) (R (j / 4 * 2)) (R (j / 4 * 2 + 1))
theorem use0 (m : M) (R : Nat → Int) (i : Nat) : use m R (i * 4) = (mAt m R i).day := by
  unfold use; rw [show i * 4 % 4 = 0 by omega, show i * 4 / 4 = i by omega]; rfl
theorem use1 (m : M) (R : Nat → Int) (i : Nat) : use m R (i * 4 + 1) = R (i * 2) := by
  unfold use; rw [show (i * 4 + 1) % 4 = 1 by omega, show (i * 4 + 1) / 4 = i by omega]; rfl
theorem use2 (m : M) (R : Nat → Int) (i : Nat) : use m R (i * 4 + 2) = water (mAt m R i) (R (i * 2)) (R (i * 2 + 1)) := by
  unfold use; rw [show (i * 4 + 2) % 4 = 2 by omega, show (i * 4 + 2) / 4 = i by omega]; rfl
theorem use3 (m : M) (R : Nat → Int) (i : Nat) : use m R (i * 4 + 3) = kind (mAt m R i) (R (i * 2)) (R (i * 2 + 1)) := by
  unfold use; rw [show (i * 4 + 3) % 4 = 3 by omega, show (i * 4 + 3) / 4 = i by omega]; rfl
/-- All reads of a run are right. -/
def RunOk (m : M) (R : Nat → Int) (n : Nat) : Prop := Right m ∧ ∀ i, i < n → OkAt m R i
theorem mAt_right {m : M} {R : Nat → Int} (hm : Right m) : ∀ i, (∀ j, j < i → OkAt m R j) → Right (mAt m R i) := by
  intro i
  cases i with
  | zero => intro _; exact hm
  | succ i => intro h; exact next_right (h i (by omega))
/-- A use that is right, and the water of its days between two days. -/
def UseOk (U : Nat → Int) (i : Nat) : Prop := ((0 ≤ U (i * 4) ∧ U (i * 4) < U (i * 4 + 1)) ∧ U (i * 4 + 1) ≤ 100000) ∧ (0 ≤ U (i * 4 + 2) ∧ U (i * 4 + 2) ≤ 1000000000)
def near (lo hi x : Int) : Int := min (max x lo) hi
def part (U : Nat → Int) (a b : Int) (i : Nat) : Int := U (i * 4 + 2) * (near (U (i * 4)) (U (i * 4 + 1)) b - near (U (i * 4)) (U (i * 4 + 1)) a) / (U (i * 4 + 1) - U (i * 4))
def sum (U : Nat → Int) (a b : Int) : Nat → Int
  | 0 => 0
  | i + 1 => sum U a b i + part U a b i
theorem near_bd {lo hi x : Int} (h : lo < hi) : lo ≤ near lo hi x ∧ near lo hi x ≤ hi := by unfold near; omega
theorem near_mono {lo hi x y : Int} (h : x ≤ y) : near lo hi x ≤ near lo hi y := by unfold near; omega
theorem near_in {lo hi a b : Int} (h : lo < hi) (hab : a ≤ b) (k : max lo a < min hi b) : near lo hi b - near lo hi a = min hi b - max lo a := by unfold near; omega
theorem near_out {lo hi a b : Int} (h : lo < hi) (hab : a ≤ b) (k : ¬ max lo a < min hi b) : near lo hi b - near lo hi a = 0 := by unfold near; omega
theorem prod_bd {U : Nat → Int} {a b : Int} {i : Nat} (h : UseOk U i) (hab : a ≤ b) : 0 ≤ U (i * 4 + 2) * (near (U (i * 4)) (U (i * 4 + 1)) b - near (U (i * 4)) (U (i * 4 + 1)) a) ∧ U (i * 4 + 2) * (near (U (i * 4)) (U (i * 4 + 1)) b - near (U (i * 4)) (U (i * 4 + 1)) a) ≤ 100000000000000 := by
  obtain ⟨⟨⟨h1, h2⟩, h3⟩, h4, h5⟩ := h
  have p1 := near_bd (x := a) h2
  have p2 := near_bd (x := b) h2
  have p3 := near_mono (lo := U (i * 4)) (hi := U (i * 4 + 1)) hab
  have q1 : 0 ≤ U (i * 4 + 2) * (near (U (i * 4)) (U (i * 4 + 1)) b - near (U (i * 4)) (U (i * 4 + 1)) a) := Int.mul_nonneg h4 (by omega)
  have q2 : U (i * 4 + 2) * (near (U (i * 4)) (U (i * 4 + 1)) b - near (U (i * 4)) (U (i * 4 + 1)) a) ≤ 1000000000 * 100000 := Int.mul_le_mul h5 (by omega) (by omega) (by omega)
  omega
theorem part_bd {U : Nat → Int} {a b : Int} {i : Nat} (h : UseOk U i) (hab : a ≤ b) : 0 ≤ part U a b i ∧ part U a b i ≤ 100000000000000 := by
  have h0 := prod_bd h hab
  have h1 : 0 < U (i * 4 + 1) - U (i * 4) := by have := h.1.1.2; omega
  unfold part
  exact ⟨Int.ediv_nonneg h0.1 (by omega), Int.le_trans (Int.ediv_le_self _ h0.1) h0.2⟩
theorem sum_bd {U : Nat → Int} {a b : Int} (hab : a ≤ b) : ∀ i, (∀ j, j < i → UseOk U j) → 0 ≤ sum U a b i ∧ sum U a b i ≤ i * 100000000000000 := by
  intro i
  induction i with
  | zero => intro _; simp [sum]
  | succ i ih =>
    intro h
    have h1 := ih (fun j hj => h j (by omega))
    have h2 := part_bd (h i (by omega)) hab
    simp only [sum]
    omega
/-- What was used between two days. -/
noncomputable def useOf (n : Nat) (U : Nat → Int) (a b : Int) : Int := if dB (n ≤ 400 ∧ a ≤ b ∧ ∀ i, i < n → UseOk U i) = true then sum U a b n else 0
theorem useOf_ok {n : Nat} {U : Nat → Int} {a b : Int} (h : n ≤ 400 ∧ a ≤ b ∧ ∀ i, i < n → UseOk U i) : useOf n U a b = sum U a b n := by unfold useOf; rw [dB_tt h]; rfl
theorem useOf_no {n : Nat} {U : Nat → Int} {a b : Int} (h : ¬ (n ≤ 400 ∧ a ≤ b ∧ ∀ i, i < n → UseOk U i)) : useOf n U a b = 0 := by unfold useOf; rw [dB_ff h]; rfl
end Mt
end Go.Proofs.YtmejmpdljckfgaaDoor
