/-
  People at work, and when a plan is right: mathematics.
-/
import Derived.Test.YtganlipebndeoaaJbRo
import Derived.Test.YtganlipebndeoaaJbPr
namespace Go.Proofs.Ytganlipebndeoaa
open Go.RowKit Go.Deep

namespace Jb
/-- At work on a day. -/
def atW (x : Je) (s d : Int) : Prop := s ≤ d ∧ d < s + x.dy
instance (x : Je) (s d : Int) : Decidable (atW x s d) := inferInstanceAs (Decidable (s ≤ d ∧ d < s + x.dy))
/-- How many people of the first jobs are at work on a day. -/
def ppl (bs : Nat → Je) (s : Nat → Int) (d : Int) : Nat → Int
  | 0 => 0
  | k + 1 => ppl bs s d k + if atW (bs k) (s k) d then (bs k).cw else 0
/-- One more fits beside the first ones. -/
def Fits (bs : Nat → Je) (s : Nat → Int) (n : Nat) (x : Je) (s0 crew : Int) : Prop :=
  (∀ d, s0 ≤ d → d < s0 + x.dy → ppl bs s d n + x.cw ≤ crew) ∧ ∀ k, k < n → ¬ clash x s0 (bs k) (s k)
/-- The program's test of a plan. -/
def PlanP (m : Nat) (bs : Nat → Je) (crew : Int) (s : Nat → Int) : Prop := ∀ i, i < m → rdy bs s (bs i) ≤ s i ∧ Fits bs s i (bs i) (s i) crew
/-- The model's test of a plan. -/
def PlanS (m : Nat) (bs : Nat → Je) (crew : Int) (s : Nat → Int) : Prop := (∀ i, i < m → rdy bs s (bs i) ≤ s i ∧ ∀ d, s i ≤ d → d < s i + (bs i).dy → ppl bs s d m ≤ crew) ∧ ∀ a b, a < m → a < b → b < m → ¬ clash (bs a) (s a) (bs b) (s b)
theorem share_symm {x y : Je} (h : x.share y) : y.share x := by
  obtain ⟨i, hi, j, hj, e⟩ := h
  exact ⟨j, hj, i, hi, e.symm⟩
theorem clash_symm {x y : Je} {s t : Int} (h : clash x s y t) : clash y t x s := ⟨⟨h.1.2, h.1.1⟩, share_symm h.2⟩
theorem ppl_mono {bs : Nat → Je} {s : Nat → Int} {d : Int} {n m : Nat} (hc : ∀ k, k < m → 0 ≤ (bs k).cw) (h : n ≤ m) : ppl bs s d n ≤ ppl bs s d m := by
  induction m with
  | zero => obtain rfl : n = 0 := by omega
            exact Int.le_refl _
  | succ m ih =>
    by_cases e : n = m + 1
    · subst e; exact Int.le_refl _
    · have h1 := ih (fun k hk => hc k (by omega)) (by omega)
      have h2 := hc m (by omega)
      simp only [ppl]
      split <;> omega
theorem ppl_bd {bs : Nat → Je} {s : Nat → Int} {d : Int} {n : Nat} (hc : ∀ k, k < n → 0 ≤ (bs k).cw ∧ (bs k).cw ≤ 20) : 0 ≤ ppl bs s d n ∧ ppl bs s d n ≤ ((20 * n : Nat) : Int) := by
  induction n with
  | zero => exact ⟨Int.le_refl _, Int.le_refl _⟩
  | succ n ih =>
    have h1 := ih (fun k hk => hc k (by omega))
    have h2 := hc n (by omega)
    simp only [ppl]
    split <;> omega
theorem ppl_last {bs : Nat → Je} {s : Nat → Int} {crew d : Int} {n : Nat} (h : ∀ j, j < n → Fits bs s j (bs j) (s j) crew) (hw : ∃ i, i < n ∧ atW (bs i) (s i) d) : ppl bs s d n ≤ crew := by
  induction n with
  | zero => obtain ⟨i, hi, _⟩ := hw; omega
  | succ n ih =>
    simp only [ppl]
    by_cases c : atW (bs n) (s n) d
    · rw [if_pos c]
      exact (h n (by omega)).1 d c.1 c.2
    · rw [if_neg c]
      obtain ⟨i, hi, hi2⟩ := hw
      have : i ≠ n := fun e => c (e ▸ hi2)
      have := ih (fun j hj => h j (by omega)) ⟨i, by omega, hi2⟩
      omega
theorem planP_iff {m : Nat} {bs : Nat → Je} {crew : Int} {s : Nat → Int} (hc : ∀ k, k < m → 0 ≤ (bs k).cw) : PlanP m bs crew s ↔ PlanS m bs crew s := by
  constructor
  · intro h
    refine ⟨fun i hi => ⟨(h i hi).1, fun d h1 h2 => ppl_last (fun j hj => (h j hj).2) ⟨i, hi, h1, h2⟩⟩, fun a b ha hab hb c => ?_⟩
    exact (h b hb).2.2 a hab (clash_symm c)
  · intro h i hi
    refine ⟨(h.1 i hi).1, fun d h1 h2 => ?_, fun k hk c => h.2 k i (by omega) hk hi (clash_symm c)⟩
    have h3 := (h.1 i hi).2 d h1 h2
    have h4 : ppl bs s d (i + 1) = ppl bs s d i + (bs i).cw := by simp only [ppl]; rw [if_pos ⟨h1, h2⟩]
    have h5 := ppl_mono (bs := bs) (s := s) (d := d) hc (show i + 1 ≤ m by omega)
    omega
theorem atW_same {bs cs : Nat → Je} (h : ∀ i, (bs i).sameJ (cs i)) (i : Nat) (s d : Int) : atW (bs i) s d ↔ atW (cs i) s d := by
  unfold atW; rw [(h i).1]
theorem ppl_same {bs cs : Nat → Je} {s : Nat → Int} {d : Int} (h : ∀ i, (bs i).sameJ (cs i)) (n : Nat) : ppl bs s d n = ppl cs s d n := by
  induction n with
  | zero => rfl
  | succ n ih =>
    simp only [ppl]
    rw [ih, (h n).2.1]
    by_cases c : atW (bs n) (s n) d
    · rw [if_pos c, if_pos ((atW_same h n _ _).1 c)]
    · rw [if_neg c, if_neg (fun k => c ((atW_same h n _ _).2 k))]
end Jb
end Go.Proofs.Ytganlipebndeoaa
