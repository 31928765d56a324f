/-
  Starts of jobs: mathematics.
-/
import Derived.Test.YtganlipebndeoaaJbI1
namespace Go.Proofs.Ytganlipebndeoaa
open Go.RowKit Go.Deep

namespace Jb
/-- The day on which the first ones that a job comes after have ended. -/
def rdyTo (bs : Nat → Je) (s : Nat → Int) (x : Je) : Nat → Int
  | 0 => 0
  | k + 1 => max (rdyTo bs s x k) (s (x.A k).toNat + (bs (x.A k).toNat).dy)
def rdy (bs : Nat → Je) (s : Nat → Int) (x : Je) : Int := rdyTo bs s x x.an
/-- The day on which the first jobs have ended. -/
def endTo (bs : Nat → Je) (s : Nat → Int) : Nat → Int
  | 0 => 0
  | k + 1 => max (endTo bs s k) (s k + (bs k).dy)
/-- Starts, each told by those ahead of it. -/
def byF (F : (Nat → Int) → Nat → Int) : Nat → Nat → Int
  | 0 => fun _ => 0
  | i + 1 => fun j => if j = i then F (byF F i) i else byF F i j
def byS (F : (Nat → Int) → Nat → Int) (i : Nat) : Int := byF F (i + 1) i
/-- It hangs on those ahead alone. -/
def Ahead (F : (Nat → Int) → Nat → Int) (m : Nat) : Prop := ∀ i s t, i < m → (∀ j, j < i → s j = t j) → F s i = F t i
theorem byF_at (F : (Nat → Int) → Nat → Int) {i j : Nat} (h : j < i) : byF F i j = byS F j := by
  induction i with
  | zero => omega
  | succ i ih =>
    unfold byS
    by_cases e : j = i
    · subst e; rfl
    · simp only [byF, e, if_false]
      have := ih (by omega)
      rw [this]
      unfold byS
      simp [byF]
theorem byS_eq {F : (Nat → Int) → Nat → Int} {m i : Nat} (h : Ahead F m) (hi : i < m) : byS F i = F (byS F) i := by
  have : byS F i = F (byF F i) i := by unfold byS; simp [byF]
  rw [this]
  exact h i _ _ hi (fun j hj => byF_at F hj)
theorem rdyTo_congr {bs : Nat → Je} {s t : Nat → Int} {x : Je} {i : Nat} (hr : Pl.Rising x.an x.A i) (h : ∀ j, j < i → s j = t j) : ∀ k, k ≤ x.an → rdyTo bs s x k = rdyTo bs t x k := by
  intro k
  induction k with
  | zero => intro _; rfl
  | succ k ih =>
    intro hk
    have h1 := (hr k (by omega)).1
    simp only [rdyTo]
    rw [ih (by omega), h _ (by omega)]
theorem rdy_congr {bs : Nat → Je} {s t : Nat → Int} {x : Je} {i : Nat} (hr : Pl.Rising x.an x.A i) (h : ∀ j, j < i → s j = t j) : rdy bs s x = rdy bs t x := rdyTo_congr hr h _ (Nat.le_refl _)
theorem rdyTo_nn (bs : Nat → Je) (s : Nat → Int) (x : Je) (k : Nat) : 0 ≤ rdyTo bs s x k := by
  induction k with
  | zero => exact Int.le_refl _
  | succ k ih => simp only [rdyTo]; omega
theorem rdyTo_mono (bs : Nat → Je) (s : Nat → Int) (x : Je) {k n : Nat} (h : k ≤ n) : rdyTo bs s x k ≤ rdyTo bs s x n := by
  induction n with
  | zero => obtain rfl : k = 0 := by omega
            exact Int.le_refl _
  | succ n ih =>
    by_cases e : k = n + 1
    · subst e; exact Int.le_refl _
    · have := ih (by omega)
      simp only [rdyTo]; omega
/-- Days and starts of the first jobs are bounded. -/
def Bnd (m : Nat) (bs : Nat → Je) (s : Nat → Int) (T : Int) : Prop := ∀ j, j < m → 0 ≤ s j ∧ s j + (bs j).dy ≤ T ∧ 0 ≤ (bs j).dy
theorem rdyTo_le {bs : Nat → Je} {s : Nat → Int} {x : Je} {i : Nat} {T : Int} (hT : 0 ≤ T) (hr : Pl.Rising x.an x.A i) (h : Bnd i bs s T) : ∀ k, k ≤ x.an → rdyTo bs s x k ≤ T := by
  intro k
  induction k with
  | zero => intro _; exact hT
  | succ k ih =>
    intro hk
    have h1 := (hr k (by omega)).1
    have h2 := h (x.A k).toNat (by omega)
    have h3 := ih (by omega)
    simp only [rdyTo]; omega
theorem endTo_nn (bs : Nat → Je) (s : Nat → Int) (k : Nat) : 0 ≤ endTo bs s k := by
  induction k with
  | zero => exact Int.le_refl _
  | succ k ih => simp only [endTo]; omega
theorem endTo_le {m : Nat} {bs : Nat → Je} {s : Nat → Int} {T : Int} (hT : 0 ≤ T) (h : Bnd m bs s T) : ∀ k, k ≤ m → endTo bs s k ≤ T := by
  intro k
  induction k with
  | zero => intro _; exact hT
  | succ k ih =>
    intro hk
    have h2 := h k (by omega)
    have h3 := ih (by omega)
    simp only [endTo]; omega
theorem endTo_ge {bs : Nat → Je} {s : Nat → Int} {m j : Nat} (h : j < m) : s j + (bs j).dy ≤ endTo bs s m := by
  induction m with
  | zero => omega
  | succ m ih =>
    simp only [endTo]
    by_cases e : j = m
    · subst e; omega
    · have := ih (by omega); omega
/-- The soonest starts. -/
def lsW (bs : Nat → Je) (s : Nat → Int) (i : Nat) : Int := rdy bs s (bs i)
def least (bs : Nat → Je) : Nat → Int := byS (lsW bs)
theorem lsW_ahead {m : Nat} {bs : Nat → Je} (h : JRight m bs) : Ahead (lsW bs) m := fun i _ _ hi e => rdy_congr (h.2 i hi).a e
theorem least_eq {m i : Nat} {bs : Nat → Je} (h : JRight m bs) (hi : i < m) : least bs i = rdy bs (least bs) (bs i) := byS_eq (lsW_ahead h) hi
theorem least_bnd {m : Nat} {bs : Nat → Je} (h : JRight m bs) : ∀ i, i ≤ m → Bnd i bs (least bs) ((30 * i : Nat) : Int) := by
  intro i
  induction i with
  | zero => intro _ j hj; omega
  | succ i ih =>
    intro hi j hj
    have I := ih (by omega)
    by_cases e : j = i
    · subst e
      have h1 := rdyTo_le (x := bs j) (by omega) (h.2 j (by omega)).a I _ (Nat.le_refl _)
      have h2 := rdyTo_nn bs (least bs) (bs j) (bs j).an
      have h3 := (h.2 j (by omega)).d
      rw [least_eq h (by omega)]
      unfold rdy
      omega
    · have := I j (by omega)
      omega
/-- The same jobs elsewhere in memory. -/
theorem rdyTo_same {bs cs : Nat → Je} {s : Nat → Int} {x y : Je} (h : ∀ i, (bs i).sameJ (cs i)) (hx : x.sameJ y) (k : Nat) : rdyTo bs s x k = rdyTo cs s y k := by
  induction k with
  | zero => rfl
  | succ k ih => simp only [rdyTo]; rw [ih, hx.2.2.2.1, (h _).1]
theorem lsW_same {bs cs : Nat → Je} (h : ∀ i, (bs i).sameJ (cs i)) : lsW bs = lsW cs := by
  funext s i
  unfold lsW rdy
  rw [(h i).2.2.1, rdyTo_same h (h i)]
theorem least_same {bs cs : Nat → Je} (h : ∀ i, (bs i).sameJ (cs i)) : least bs = least cs := by unfold least; rw [lsW_same h]
theorem endTo_same {bs cs : Nat → Je} {s : Nat → Int} (h : ∀ i, (bs i).sameJ (cs i)) (k : Nat) : endTo bs s k = endTo cs s k := by
  induction k with
  | zero => rfl
  | succ k ih => simp only [endTo]; rw [ih, (h k).1]
/-- The first numbers as a list. -/
def fl (s : Nat → Int) (n : Nat) : List Int := (List.range n).map s
theorem fl_len (s : Nat → Int) (n : Nat) : (fl s n).length = n := by simp [fl]
theorem fl_succ (s : Nat → Int) (n : Nat) : fl s (n + 1) = fl s n ++ [s n] := by simp [fl, List.range_succ]
theorem fl_at (s : Nat → Int) {n j : Nat} (h : j < n) : (fl s n)[j]? = some (s j) := by simp [fl, h]
end Jb
end Go.Proofs.Ytganlipebndeoaa
