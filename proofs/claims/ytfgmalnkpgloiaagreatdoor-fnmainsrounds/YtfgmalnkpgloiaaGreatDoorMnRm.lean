/-
  Falls, sums of loops, rounds, heads along the tree: mathematics.
-/
import Derived.Test.YtfgmalnkpgloiaaGreatDoorMnTr
namespace Go.Proofs.YtfgmalnkpgloiaaGreatDoor
open Go.RowKit Go.Deep
namespace Mn

def dragOf (m : Mains) (i : Nat) : Int := if m.P (i * 5) = 4 then m.P (i * 5 + 3) + m.P (i * 5 + 4) else if m.P (i * 5) = 5 then 0 else m.P (i * 5 + 3)
def fall (m : Mains) (i : Nat) (q : Int) : Int := dragOf m i * q * (q.natAbs : Int) - (if m.P (i * 5) = 2 then m.P (i * 5 + 4) else 0)
theorem drag_bd {m : Mains} {i : Nat} (h : PipeOk m i) : 0 ≤ dragOf m i ∧ dragOf m i ≤ 101000 := by
  have := h.d0; have := h.d1; have := h.m0; have := h.m1
  unfold dragOf
  split
  · omega
  · split <;> omega
theorem mul_bd {a b A B : Int} (h1 : -A ≤ a) (h2 : a ≤ A) (h3 : -B ≤ b) (h4 : b ≤ B) (hA : 0 ≤ A) : -(A * B) ≤ a * b ∧ a * b ≤ A * B := by
  have hB : 0 ≤ B := by omega
  have h5 : (a * b).natAbs ≤ (A * B).natAbs := by
    rw [Int.natAbs_mul, Int.natAbs_mul]
    exact Nat.mul_le_mul (by omega) (by omega)
  have h6 : 0 ≤ A * B := Int.mul_nonneg hA hB
  omega
theorem fall_parts {m : Mains} {i : Nat} (h : PipeOk m i) {q : Int} (h1 : -100000 ≤ q) (h2 : q ≤ 100000) : (-10100000000 ≤ dragOf m i * q ∧ dragOf m i * q ≤ 10100000000) ∧ (-1010000000000000 ≤ dragOf m i * q * (q.natAbs : Int) ∧ dragOf m i * q * (q.natAbs : Int) ≤ 1010000000000000) := by
  have hd := drag_bd h
  have a1 := mul_bd (A := 101000) (B := 100000) (by omega : -101000 ≤ dragOf m i) hd.2 h1 h2 (by omega)
  have a2 := mul_bd (A := 10100000000) (B := 100000) (by omega : -10100000000 ≤ dragOf m i * q) (by omega) (by omega : (-100000 : Int) ≤ (q.natAbs : Int)) (by omega) (by omega)
  exact ⟨by omega, by omega⟩
theorem fall_bd {m : Mains} {i : Nat} (h : PipeOk m i) {q : Int} (h1 : -100000 ≤ q) (h2 : q ≤ 100000) : -1010000000100000 ≤ fall m i q ∧ fall m i q ≤ 1010000000100000 := by
  have a := (fall_parts h h1 h2).2
  have := h.m0; have := h.m1
  unfold fall
  split <;> omega
theorem okF_bd {m : Mains} {f : Nat → Int} {i : Nat} (h : PipeOk m i) (ho : okF m f i) : -100000 ≤ f i ∧ f i ≤ 100000 := by
  have := lohi h
  have h1 := ho.1
  have h2 := ho.2
  omega
/-- The sum of a loop's falls, and its weight. -/
def sg (z x : Int) : Int := if z < 0 then -x else x
def sumTo (m : Mains) (f L : Nat → Int) : Nat → Int
  | 0 => 0
  | k + 1 => sumTo m f L k + sg (L k) (fall m (place (L k)) (f (place (L k))))
def wtTo (m : Mains) (f L : Nat → Int) : Nat → Int
  | 0 => 0
  | k + 1 => wtTo m f L k + 2 * ((f (place (L k))).natAbs : Int) * dragOf m (place (L k))
def AllOk (m : Mains) (f : Nat → Int) : Prop := ∀ i, i < m.pn → okF m f i
theorem wt_part {m : Mains} {i : Nat} (h : PipeOk m i) {q : Int} (h1 : -100000 ≤ q) (h2 : q ≤ 100000) : 0 ≤ 2 * (q.natAbs : Int) * dragOf m i ∧ 2 * (q.natAbs : Int) * dragOf m i ≤ 20200000000 := by
  have hd := drag_bd h
  have a1 := mul_bd (A := 200000) (B := 101000) (by omega : -200000 ≤ 2 * (q.natAbs : Int)) (by omega) (by omega : -101000 ≤ dragOf m i) hd.2 (by omega)
  have a2 : 0 ≤ 2 * (q.natAbs : Int) * dragOf m i := Int.mul_nonneg (by omega) hd.1
  omega
theorem sum_bd {m : Mains} (hr : Right m) {f L : Nat → Int} (ho : AllOk m f) : ∀ n, (∀ k, k < n → NumOk m (L k)) → (-(1010000000100000 * (n : Int)) ≤ sumTo m f L n ∧ sumTo m f L n ≤ 1010000000100000 * (n : Int)) ∧ (0 ≤ wtTo m f L n ∧ wtTo m f L n ≤ 20200000000 * (n : Int))
  | 0, _ => by simp [sumTo, wtTo]
  | n + 1, h => by
    have ih := sum_bd hr ho n (fun k hk => h k (by omega))
    have hp := (h n (by omega)).lt
    have hb := okF_bd (hr.p _ hp) (ho _ hp)
    have h1 := fall_bd (hr.p _ hp) hb.1 hb.2
    have h2 := wt_part (hr.p _ hp) hb.1 hb.2
    have e : ((n + 1 : Nat) : Int) = (n : Int) + 1 := by omega
    simp only [sumTo, wtTo]
    unfold sg
    constructor
    · split <;> omega
    · omega
/-- The change, brought to what may be. -/
def clampI (ch a b : Int) : Int := max (min ch b) a
def loK (m : Mains) (f : Nat → Int) (z : Int) : Int := if z < 0 then f (place z) - hi m (place z) else lo m (place z) - f (place z)
def hiK (m : Mains) (f : Nat → Int) (z : Int) : Int := if z < 0 then f (place z) - lo m (place z) else hi m (place z) - f (place z)
def chTo (m : Mains) (f L : Nat → Int) (c : Int) : Nat → Int
  | 0 => c
  | k + 1 => clampI (chTo m f L c k) (loK m f (L k)) (hiK m f (L k))
theorem clamp_in {ch a b : Int} (h1 : a ≤ 0) (h2 : 0 ≤ b) : (a ≤ clampI ch a b ∧ clampI ch a b ≤ b) ∧ ((0 ≤ ch → 0 ≤ clampI ch a b ∧ clampI ch a b ≤ ch) ∧ (ch ≤ 0 → ch ≤ clampI ch a b ∧ clampI ch a b ≤ 0)) := by
  unfold clampI
  omega
theorem k_bd {m : Mains} (hr : Right m) {f : Nat → Int} (ho : AllOk m f) {z : Int} (hz : NumOk m z) : (-200000 ≤ loK m f z ∧ loK m f z ≤ 0) ∧ (0 ≤ hiK m f z ∧ hiK m f z ≤ 200000) := by
  have hp := hz.lt
  have h1 := ho _ hp
  have h2 := lohi (hr.p _ hp)
  have h3 := h1.1
  have h4 := h1.2
  unfold loK hiK
  split <;> omega
theorem ch_in {m : Mains} (hr : Right m) {f L : Nat → Int} (ho : AllOk m f) (c : Int) : ∀ n, (∀ k, k < n → NumOk m (L k)) → ∀ k, k < n → loK m f (L k) ≤ chTo m f L c n ∧ chTo m f L c n ≤ hiK m f (L k)
  | 0, _ => fun k hk => absurd hk (Nat.not_lt_zero _)
  | n + 1, h => by
    intro k hk
    have hb := k_bd hr ho (h n (by omega))
    have hc := clamp_in (ch := chTo m f L c n) hb.1.2 hb.2.1
    show loK m f (L k) ≤ clampI _ _ _ ∧ clampI _ _ _ ≤ hiK m f (L k)
    by_cases e : k = n
    · subst e; exact hc.1
    · have ih := ch_in hr ho c n (fun k hk => h k (by omega)) k (by omega)
      have hb2 := k_bd hr ho (h k (by omega))
      rcases Int.le_total 0 (chTo m f L c n) with q | q
      · have := hc.2.1 q; omega
      · have := hc.2.2 q; omega
/-- Flows behind the change. -/
def apTo (L : Nat → Int) (c : Int) (f : Nat → Int) : Nat → Nat → Int
  | 0 => f
  | k + 1 => updI (apTo L c f k) (place (L k)) (apTo L c f k (place (L k)) + sg (L k) c)
theorem ap_other {L : Nat → Int} {c : Int} {f : Nat → Int} {p : Nat} : ∀ n, (∀ k, k < n → place (L k) ≠ p) → apTo L c f n p = f p
  | 0, _ => rfl
  | n + 1, h => by
    have := ap_other (c := c) (f := f) n (fun k hk => h k (by omega))
    have h2 := h n (by omega)
    simp only [apTo, updI]
    rw [if_neg (fun e => h2 e.symm)]
    exact this
theorem ap_zero {L f : Nat → Int} : ∀ n, apTo L 0 f n = f
  | 0 => rfl
  | n + 1 => by
    have := ap_zero (L := L) (f := f) n
    funext j
    simp only [apTo, updI, this]
    split
    · rename_i e; rw [e]; unfold sg; simp
    · rfl
theorem ap_hit {L : Nat → Int} {c : Int} {f : Nat → Int} {n : Nat} (h1 : ∀ k, k < n → ∀ j, j < k → place (L j) ≠ place (L k)) : ∀ k, k < n → apTo L c f n (place (L k)) = f (place (L k)) + sg (L k) c := by
  induction n with
  | zero => intro k hk; omega
  | succ n ih =>
    intro k hk
    simp only [apTo, updI]
    by_cases e : k = n
    · subst e
      simp only [if_true]
      rw [ap_other (p := place (L k)) k (fun j hj => h1 k (by omega) j hj)]
    · rw [if_neg (fun e2 => h1 n (by omega) k (by omega) e2)]
      exact ih (fun a ha => h1 a (by omega)) k (by omega)
/-- One loop of a round, and all of them. -/
def chg (m : Mains) (f L : Nat → Int) (n : Nat) : Int := if wtTo m f L n = 0 then 0 else chTo m f L ((-(sumTo m f L n)).tdiv (wtTo m f L n)) n
def loopR (m : Mains) (f L : Nat → Int) (n : Nat) : Nat → Int := apTo L (chg m f L n) f n
def roundTo (m : Mains) (f : Nat → Int) : Nat → Nat → Int
  | 0 => f
  | i + 1 => loopR m (roundTo m f i) (m.L i) (m.LN i)
def round (m : Mains) (f : Nat → Int) : Nat → Int := roundTo m f m.ln
theorem loop_ok {m : Mains} (hr : Right m) {f L : Nat → Int} {n : Nat} (ho : AllOk m f) (hl : LoopOk m n L) : AllOk m (loopR m f L n) := by
  have hcz : ∀ k, k < n → loK m f (L k) ≤ chg m f L n ∧ chg m f L n ≤ hiK m f (L k) := by
    intro k hk
    unfold chg
    split
    · have := k_bd hr ho (hl.num k hk); omega
    · exact ch_in hr ho _ n hl.num k hk
  intro i hi
  by_cases e : ∃ k, k < n ∧ place (L k) = i
  · obtain ⟨k, hk, rfl⟩ := e
    have h1 := ap_hit (c := chg m f L n) (f := f) hl.one k hk
    have h2 := hcz k hk
    unfold okF loopR
    rw [h1]
    unfold loK hiK at h2
    unfold sg
    split at h2 <;> simp_all <;> omega
  · have h1 := ap_other (c := chg m f L n) (f := f) (p := i) n (fun k hk e2 => e ⟨k, hk, e2⟩)
    unfold okF loopR
    rw [h1]
    exact ho i hi
theorem roundTo_ok {m : Mains} (hr : Right m) {f : Nat → Int} (ho : AllOk m f) : ∀ i, i ≤ m.ln → AllOk m (roundTo m f i)
  | 0, _ => ho
  | i + 1, h => loop_ok hr (roundTo_ok hr ho i (by omega)) (hr.l i (by omega))
/-- What is left over. -/
def restTo (m : Mains) (f : Nat → Int) : Nat → Int
  | 0 => 0
  | i + 1 => max (restTo m f i) ((sumTo m f (m.L i) (m.LN i)).natAbs : Int)
def rest (m : Mains) (f : Nat → Int) : Int := restTo m f m.ln
/-- The heads along the tree. -/
def headStep (m : Mains) (f : Nat → Int) (e : Nat × Bool) (h : Nat → Int) : Nat → Int :=
  if e.2 then updI h (tN m e.1) (h (fN m e.1) - fall m e.1 (f e.1)) else updI h (fN m e.1) (h (tN m e.1) + fall m e.1 (f e.1))
def headTo (m : Mains) (f : Nat → Int) (l : List (Nat × Bool)) (h : Nat → Int) : Nat → Nat → Int
  | 0 => h
  | k + 1 => match l[k]? with
    | some e => headStep m f e (headTo m f l h k)
    | none => headTo m f l h k
def head0 (m : Mains) : Nat → Int := updI (fun _ => 0) 0 m.head
def heads (m : Mains) (f : Nat → Int) : Nat → Int := headTo m f (fin m).2 (head0 m) (fin m).2.length
theorem head_bd {m : Mains} (hr : Right m) {f : Nat → Int} (ho : AllOk m f) {l : List (Nat × Bool)} (hl : ∀ e, e ∈ l → e.1 < m.pn) : ∀ (k j : Nat), -(100000 + 1010000000100000 * (k : Int)) ≤ headTo m f l (head0 m) k j ∧ headTo m f l (head0 m) k j ≤ 100000 + 1010000000100000 * (k : Int)
  | 0, j => by
    have := hr.h1; have := hr.h2
    simp only [headTo, head0, updI]
    split <;> omega
  | k + 1, j => by
    have e : ((k + 1 : Nat) : Int) = (k : Int) + 1 := by omega
    have ih := head_bd hr ho hl k
    simp only [headTo]
    cases hx : l[k]? with
    | none => have := ih j; simp only; omega
    | some x =>
      have hp := hl x (List.mem_of_getElem? hx)
      have hb := okF_bd (hr.p _ hp) (ho _ hp)
      have h1 := fall_bd (hr.p _ hp) hb.1 hb.2
      have a1 := ih (tN m x.1)
      have a2 := ih (fN m x.1)
      have a3 := ih j
      simp only
      unfold headStep
      cases x.2 with
      | true => simp only [if_true]; unfold updI; split <;> omega
      | false => simp; unfold updI; split <;> omega
end Mn
end Go.Proofs.YtfgmalnkpgloiaaGreatDoor
