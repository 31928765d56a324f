/-
  Renewals: what picks cost and are worth, the table, the best picks: mathematics.
-/
import Derived.Test.YtbkpedcabbppbaaDoorPlMath
namespace Go.Proofs.YtbkpedcabbppbaaDoor
open Go.RowKit Go.Deep

namespace Rn
/-- Right assets: two numbers each. -/
def Right (n : Nat) (f : Nat → Int) : Prop := n ≤ 40 ∧ ∀ i, i < n → (1 ≤ f (i * 2) ∧ f (i * 2) ≤ 300) ∧ (0 ≤ f (i * 2 + 1) ∧ f (i * 2 + 1) ≤ 1000)
/-- A right budget. -/
def BudOk (z : Int) : Prop := 0 ≤ z ∧ z ≤ 300
def c (f : Nat → Int) (i : Nat) : Nat := (f (i * 2)).toNat
theorem Right.c {n : Nat} {f : Nat → Int} (h : Right n f) {i : Nat} (hi : i < n) : f (i * 2) = (c f i : Int) ∧ 1 ≤ Rn.c f i ∧ Rn.c f i ≤ 300 := by
  have := (h.2 i hi).1
  unfold Rn.c
  omega
/-- One cell of the table by the row behind it. -/
def step (f : Nat → Int) (i : Nat) (nx : Nat → Int) (b : Nat) : Int := if c f i ≤ b then (if nx b ≤ f (i * 2 + 1) + nx (b - c f i) then f (i * 2 + 1) + nx (b - c f i) else nx b) else nx b
/-- The table's rows, from behind. -/
def tk (f : Nat → Int) (n : Nat) : Nat → Nat → Int
  | 0 => fun _ => 0
  | k + 1 => step f (n - 1 - k) (tk f n k)
def T (f : Nat → Int) (n i : Nat) : Nat → Int := tk f n (n - i)
theorem T_end (f : Nat → Int) (n : Nat) : T f n n = fun _ => 0 := by unfold T; simp [tk]
theorem T_step (f : Nat → Int) {n i : Nat} (h : i < n) : T f n i = step f i (T f n (i + 1)) := by
  unfold T
  rw [show n - i = (n - (i + 1)) + 1 by omega]
  show step f (n - 1 - (n - (i + 1))) _ = _
  rw [show n - 1 - (n - (i + 1)) = i by omega]
theorem step_bd {f : Nat → Int} {i : Nat} {nx : Nat → Int} {M : Int} (h1 : 0 ≤ f (i * 2 + 1)) (h2 : f (i * 2 + 1) ≤ 1000) (hn : ∀ b, 0 ≤ nx b ∧ nx b ≤ M) (b : Nat) : 0 ≤ step f i nx b ∧ step f i nx b ≤ M + 1000 := by
  unfold step
  have a1 := hn b
  have a2 := hn (b - c f i)
  split
  · split <;> omega
  · omega
theorem tk_bd {f : Nat → Int} {n : Nat} (h : Right n f) : ∀ k, k ≤ n → ∀ b, 0 ≤ tk f n k b ∧ tk f n k b ≤ (k : Int) * 1000 := by
  intro k
  induction k with
  | zero => intro _ b; simp [tk]
  | succ k ih =>
    intro hk b
    have hr := (h.2 (n - 1 - k) (by omega)).2
    have := step_bd hr.1 hr.2 (ih (by omega)) b
    simp only [tk]
    have e : ((k + 1 : Nat) : Int) * 1000 = (k : Int) * 1000 + 1000 := by omega
    omega
theorem T_bd {f : Nat → Int} {n : Nat} (h : Right n f) (i b : Nat) : 0 ≤ T f n i b ∧ T f n i b ≤ 40000 := by
  have := tk_bd h (n - i) (by omega) b
  have h1 := h.1
  unfold T
  omega
/-- An asset is renewed with so much left. -/
def tak (f : Nat → Int) (n i b : Nat) : Bool := decide (c f i ≤ b) && decide (T f n (i + 1) b ≤ f (i * 2 + 1) + T f n (i + 1) (b - c f i))
theorem tak_iff {f : Nat → Int} {n i b : Nat} : tak f n i b = true ↔ c f i ≤ b ∧ T f n (i + 1) b ≤ f (i * 2 + 1) + T f n (i + 1) (b - c f i) := by unfold tak; simp
theorem T_tak {f : Nat → Int} {n i b : Nat} (h : i < n) : tak f n i b = true ↔ c f i ≤ b ∧ f (i * 2 + 1) + T f n (i + 1) (b - c f i) = T f n i b := by
  rw [tak_iff, T_step f h]
  unfold step
  constructor
  · intro ⟨h1, h2⟩
    rw [if_pos h1, if_pos h2]
    exact ⟨h1, rfl⟩
  · intro ⟨h1, h2⟩
    rw [if_pos h1] at h2
    refine ⟨h1, ?_⟩
    by_cases q : T f n (i + 1) b ≤ f (i * 2 + 1) + T f n (i + 1) (b - c f i)
    · exact q
    · rw [if_neg q] at h2; omega
/-- The picks among the first ones, and what is left. -/
def pl (f : Nat → Int) (n b : Nat) : Nat → List Nat × Nat
  | 0 => ([], b)
  | i + 1 => if tak f n i (pl f n b i).2 = true then ((pl f n b i).1 ++ [i], (pl f n b i).2 - c f i) else pl f n b i
theorem pl_yes {f : Nat → Int} {n b i : Nat} (h : tak f n i (pl f n b i).2 = true) : pl f n b (i + 1) = ((pl f n b i).1 ++ [i], (pl f n b i).2 - c f i) := by simp only [pl]; rw [if_pos h]
theorem pl_no {f : Nat → Int} {n b i : Nat} (h : tak f n i (pl f n b i).2 = false) : pl f n b (i + 1) = pl f n b i := by simp only [pl]; rw [if_neg (by rw [h]; simp)]
theorem pl_len (f : Nat → Int) (n b i : Nat) : (pl f n b i).1.length ≤ i := by
  induction i with
  | zero => simp [pl]
  | succ i ih =>
    simp only [pl]
    split
    · simp; omega
    · omega
theorem pl_left (f : Nat → Int) (n b i : Nat) : (pl f n b i).2 ≤ b := by
  induction i with
  | zero => simp [pl]
  | succ i ih =>
    simp only [pl]
    split
    · simp; omega
    · omega
/-- The picks. -/
def picks (f : Nat → Int) (n b : Nat) : List Nat := (pl f n b n).1
/-- A list as numbers. -/
def nf (l : List Nat) (j : Nat) : Int := ((l.getD j 0 : Nat) : Int)
/-- Sums of so many picks' numbers. -/
def sm (f : Nat → Int) (k : Nat) (p : Nat → Int) : Nat → Int
  | 0 => 0
  | i + 1 => sm f k p i + f ((p i).toNat * 2 + k)
theorem sm_congr {f : Nat → Int} {k : Nat} {p q : Nat → Int} {m : Nat} (h : ∀ i, i < m → p i = q i) : sm f k p m = sm f k q m := by
  induction m with
  | zero => rfl
  | succ m ih => simp only [sm]; rw [ih (fun i hi => h i (by omega)), h m (by omega)]
theorem sm_bd {f : Nat → Int} {k : Nat} {p : Nat → Int} {n m : Nat} {M : Int} (hf : ∀ i, i < n → 0 ≤ f (i * 2 + k) ∧ f (i * 2 + k) ≤ M) (hp : ∀ i, i < m → (p i).toNat < n) : 0 ≤ sm f k p m ∧ sm f k p m ≤ (m : Int) * M := by
  induction m with
  | zero => simp [sm]
  | succ m ih =>
    have h1 := ih (fun i hi => hp i (by omega))
    have h2 := hf _ (hp m (by omega))
    simp only [sm]
    have e : ((m + 1 : Nat) : Int) * M = (m : Int) * M + M := by rw [Int.natCast_add, Int.add_mul]; simp
    omega
/-- Rising picks. -/
theorem nf_old {l : List Nat} {x j : Nat} (h : j < l.length) : nf (l ++ [x]) j = nf l j := by
  unfold nf
  simp [List.getD_eq_getElem?_getD, List.getElem?_append_left h]
theorem nf_new {l : List Nat} {x : Nat} : nf (l ++ [x]) l.length = (x : Int) := by
  unfold nf
  simp
/-- What holds of the picks so far: they rise, are below, and cost what is gone. -/
theorem pl_inv {f : Nat → Int} {n b : Nat} (h : Right n f) : ∀ i, i ≤ n → Pl.Rising (pl f n b i).1.length (nf (pl f n b i).1) i ∧ sm f 0 (nf (pl f n b i).1) (pl f n b i).1.length = ((b - (pl f n b i).2 : Nat) : Int) ∧ sm f 1 (nf (pl f n b i).1) (pl f n b i).1.length + T f n i (pl f n b i).2 = T f n 0 b := by
  intro i
  induction i with
  | zero => intro _; refine ⟨fun j hj => ?_, ?_, ?_⟩ <;> simp [pl, sm] at *
  | succ i ih =>
    intro hi
    obtain ⟨h1, h2, h3⟩ := ih (by omega)
    have hl := pl_left f n b i
    cases ht : tak f n i (pl f n b i).2 with
    | false =>
      rw [pl_no ht]
      refine ⟨fun j hj => ⟨⟨(h1 j hj).1.1, by have := (h1 j hj).1.2; omega⟩, (h1 j hj).2⟩, h2, ?_⟩
      rw [← h3]
      have hne : ¬ (c f i ≤ (pl f n b i).2 ∧ T f n (i + 1) (pl f n b i).2 ≤ f (i * 2 + 1) + T f n (i + 1) ((pl f n b i).2 - c f i)) := fun q => by rw [tak_iff.2 q] at ht; cases ht
      rw [T_step f (show i < n by omega)]
      unfold step
      by_cases q : c f i ≤ (pl f n b i).2
      · rw [if_pos q, if_neg (fun r => hne ⟨q, r⟩)]
      · rw [if_neg q]
    | true =>
      rw [pl_yes ht]
      obtain ⟨hc, hc2⟩ := (T_tak (show i < n by omega)).1 ht
      have hcc := h.c (show i < n by omega)
      generalize (pl f n b i).1 = l at *
      generalize (pl f n b i).2 = left at *
      have e : (l ++ [i]).length = l.length + 1 := by simp
      simp only [e]
      refine ⟨fun j hj => ?_, ?_, ?_⟩
      · by_cases q : j < l.length
        · rw [nf_old q]
          refine ⟨⟨(h1 j q).1.1, by have := (h1 j q).1.2; omega⟩, fun hj0 => ?_⟩
          rw [nf_old (by omega)]
          exact (h1 j q).2 hj0
        · obtain rfl : j = l.length := by omega
          rw [nf_new]
          refine ⟨⟨by omega, by omega⟩, fun hj0 => ?_⟩
          rw [nf_old (by omega)]
          have := (h1 (l.length - 1) (by omega)).1.2
          omega
      · simp only [sm]
        rw [sm_congr (q := nf l) (fun j hj => nf_old hj), h2, nf_new]
        simp only [Int.toNat_natCast, Nat.add_zero]
        omega
      · simp only [sm]
        rw [sm_congr (q := nf l) (fun j hj => nf_old hj), nf_new]
        simp only [Int.toNat_natCast]
        rw [← h3, ← hc2]
        omega
theorem picks_rise {f : Nat → Int} {n b : Nat} (h : Right n f) : Pl.Rising (picks f n b).length (nf (picks f n b)) n := (pl_inv h n (Nat.le_refl _)).1
theorem picks_cost {f : Nat → Int} {n b : Nat} (h : Right n f) : sm f 0 (nf (picks f n b)) (picks f n b).length ≤ (b : Int) := by
  have := (pl_inv h (b := b) n (Nat.le_refl _)).2.1
  have h2 := pl_left f n b n
  unfold picks
  omega
theorem picks_worth {f : Nat → Int} {n b : Nat} (h : Right n f) : sm f 1 (nf (picks f n b)) (picks f n b).length = T f n 0 b := by
  have := (pl_inv h (b := b) n (Nat.le_refl _)).2.2
  rw [T_end] at this
  unfold picks
  simpa using this
theorem picks_len (f : Nat → Int) (n b : Nat) : (picks f n b).length ≤ n := pl_len f n b n
/-- The table is no less for more, and any picks from a place on are worth no more than it says. -/
theorem sm_split (f : Nat → Int) (k : Nat) (p : Nat → Int) (m : Nat) : sm f k p (m + 1) = f ((p 0).toNat * 2 + k) + sm f k (fun j => p (j + 1)) m := by
  induction m with
  | zero => simp [sm]
  | succ m ih => rw [show sm f k p (m + 1 + 1) = sm f k p (m + 1) + f ((p (m + 1)).toNat * 2 + k) from rfl, ih]; simp only [sm]; omega
theorem T_most {f : Nat → Int} {n : Nat} (h : Right n f) : ∀ k, k ≤ n → ∀ (m : Nat) (p : Nat → Int) (b : Nat), Pl.Rising m p n → (∀ j, j < m → ((n - k : Nat) : Int) ≤ p j) → sm f 0 p m ≤ (b : Int) → sm f 1 p m ≤ T f n (n - k) b := by
  intro k
  induction k with
  | zero =>
    intro _ m p b h1 h2 _
    have : m = 0 := by
      cases m with
      | zero => rfl
      | succ m =>
        have := h2 0 (by omega)
        have h3 := (h1 0 (by omega)).1.2
        omega
    subst this
    rw [show n - 0 = n by omega, T_end]
    simp [sm]
  | succ k ih =>
    intro hk m p b h1 h2 h3
    have hn : n - (k + 1) < n := by omega
    have e1 : n - (k + 1) + 1 = n - k := by omega
    have hup : ∀ j, j < m → ((n - (k + 1) : Nat) : Int) < p j ∨ j = 0 := by
      intro j hj
      by_cases q : j = 0
      · exact Or.inr q
      · have a1 := (h1 j hj).2 (by omega)
        have a2 := h2 (j - 1) (by omega)
        exact Or.inl (by omega)
    have hT : T f n (n - k) b ≤ T f n (n - (k + 1)) b := by
      rw [T_step f hn, e1]
      unfold step
      split
      · split <;> omega
      · omega
    have plain : (∀ j, j < m → ((n - k : Nat) : Int) ≤ p j) → sm f 1 p m ≤ T f n (n - (k + 1)) b := fun q => Int.le_trans (ih (by omega) m p b h1 q h3) hT
    cases m with
    | zero => exact plain (fun j hj => absurd hj (Nat.not_lt_zero _))
    | succ m =>
      by_cases q : p 0 = ((n - (k + 1) : Nat) : Int)
      · have hr : Pl.Rising m (fun j => p (j + 1)) n := fun j hj => by
          have a := h1 (j + 1) (by omega)
          refine ⟨a.1, fun hj0 => ?_⟩
          have := a.2 (by omega)
          show p (j - 1 + 1) < p (j + 1)
          rw [show j - 1 + 1 = j by omega]
          simpa using this
        have hcc := h.c hn
        rw [sm_split] at h3 ⊢
        rw [q] at h3 ⊢
        simp only [Int.toNat_natCast, Nat.add_zero] at h3 ⊢
        rw [hcc.1] at h3
        have nn : 0 ≤ sm f 0 (fun j => p (j + 1)) m := (sm_bd (M := 300) (n := n) (fun i hi => by have := (h.2 i hi).1; simp only [Nat.add_zero]; omega) (fun i hi => by have h9 : p (i + 1) < n := (hr i hi).1.2; have h8 : 0 ≤ p (i + 1) := (hr i hi).1.1; show (p (i + 1)).toNat < n; omega)).1
        have hcb : c f (n - (k + 1)) ≤ b := by omega
        have := ih (by omega) m (fun j => p (j + 1)) (b - c f (n - (k + 1))) hr (fun j hj => by
          rcases hup (j + 1) (by omega) with u | u
          · show _ ≤ p (j + 1); omega
          · omega) (by omega)
        rw [T_step f hn, e1]
        unfold step
        rw [if_pos hcb]
        split <;> omega
      · refine plain (fun j hj => ?_)
        have a0 := h2 0 (by omega)
        rcases hup j hj with u | u
        · omega
        · subst u; omega
theorem best {f : Nat → Int} {n m b : Nat} {p : Nat → Int} (h : Right n f) (hr : Pl.Rising m p n) (hc : sm f 0 p m ≤ (b : Int)) : sm f 1 p m ≤ T f n 0 b := by
  have := T_most h n (Nat.le_refl _) m p b hr (fun j hj => by have := (hr j hj).1.1; omega) hc
  rwa [show n - n = 0 by omega] at this
end Rn
end Go.Proofs.YtbkpedcabbppbaaDoor
