/-
  The sums of a net over rational numbers: heads that leave nothing over at free nodes, and are nought at fixed ones, are nought where all nodes are held.
-/
import Derived.Test.YtkaokfmaecdkiaaGreatDoorNtMath
import Derived.Test.YtkaokfmaecdkiaaGreatDoorNtRat
namespace Go.Proofs.YtkaokfmaecdkiaaGreatDoor
namespace Nt

theorem sumR_two {f : Nat → Rat} {n a b : Nat} (ha : a < n) (hb : b < n) (hab : a ≠ b) (h : ∀ i, i < n → i ≠ a → i ≠ b → f i = 0) : sumR n f = f a + f b := by
  have e : sumR n f = sumR n (fun i => (if i = a then f a else 0) + (if i = b then f b else 0)) := by
    apply sumR_congr
    intro i hi
    by_cases e1 : i = a
    · subst e1; simp only [if_true, hab, if_false]; grind
    · by_cases e2 : i = b
      · subst e2; simp only [e1, if_true, if_false]; grind
      · simp only [e1, e2, if_false]; rw [h i hi e1 e2]; grind
  rw [e, sumR_add, sumR_one ha (fun i _ hne => by simp [hne]), sumR_one hb (fun i _ hne => by simp [hne])]
  simp

/-- What flows out at a node, by one link; by all links. -/
def gv (n : Net) (i : Nat) : Rat := (n.L (i * 3 + 2) : Rat)
def outAt (n : Net) (x : Nat → Rat) (v i : Nat) : Rat := if fr n i = v then gv n i * (x v - x (tt n i)) else if tt n i = v then gv n i * (x v - x (fr n i)) else 0
def nodeX (n : Net) (x : Nat → Rat) (v : Nat) : Rat := sumR n.ln (fun i => outAt n x v i)
theorem form (n : Net) (h : Right n) (x : Nat → Rat) : sumR (nn n) (fun v => x v * nodeX n x v) = sumR n.ln (fun i => gv n i * ((x (fr n i) - x (tt n i)) * (x (fr n i) - x (tt n i)))) := by
  have e1 : sumR (nn n) (fun v => x v * nodeX n x v) = sumR (nn n) (fun v => sumR n.ln (fun i => x v * outAt n x v i)) := sumR_congr (fun v _ => by unfold nodeX; rw [sumR_mul])
  rw [e1, sumR_swap]
  apply sumR_congr
  intro i hi
  have hf := (h.fr hi).2
  have ht := (h.tt hi).2
  have hne := h.frtt hi
  rw [sumR_two hf ht hne (fun v _ h1 h2 => by unfold outAt; simp [Ne.symm h1, Ne.symm h2])]
  unfold outAt
  simp only [if_true, hne, if_false]
  grind
theorem gv_pos {n : Net} (h : Right n) {i : Nat} (hi : i < n.ln) : 0 < gv n i := by
  have := (h.l i hi).2.2.2.1
  unfold gv
  exact Rat.intCast_pos.2 (by omega)
/-- Ends of links alike and fixed heads nought: all that is held is nought. -/
theorem pass_zero {n : Net} {x : Nat → Rat} (hl : ∀ i, i < n.ln → x (fr n i) = x (tt n i)) {h : Nat → Bool} (h0 : ∀ j, h j = true → x j = 0) : ∀ k, k ≤ n.ln → ∀ j, passH n h k j = true → x j = 0
  | 0, _ => h0
  | k + 1, hk => by
    have ih := pass_zero hl h0 k (by omega)
    have e := hl k (by omega)
    intro j hj
    simp only [passH, stepH, updB] at hj
    by_cases e1 : j = tt n k
    · simp only [e1, if_true, Bool.or_eq_true] at hj
      rw [e1]
      rcases hj with a | a
      · rw [← e]; exact ih _ a
      · exact ih _ a
    · by_cases e2 : j = fr n k
      · simp only [e2] at hj
        simp only [if_true] at hj
        rw [e2]
        have hj' : passH n h k (fr n k) = true ∨ passH n h k (tt n k) = true := by
          by_cases e3 : fr n k = tt n k
          · simp only [e3, if_true, Bool.or_eq_true] at hj; rw [e3]; exact hj
          · simp only [e3, if_false, Bool.or_eq_true] at hj; exact hj
        rcases hj' with a | a
        · exact ih _ a
        · rw [e]; exact ih _ a
      · simp only [e1, e2, if_false] at hj
        exact ih _ hj
theorem rounds_zero {n : Net} {x : Nat → Rat} (hl : ∀ i, i < n.ln → x (fr n i) = x (tt n i)) {h : Nat → Bool} (h0 : ∀ j, h j = true → x j = 0) : ∀ k, ∀ j, roundsH n h k j = true → x j = 0
  | 0 => h0
  | k + 1 => pass_zero hl (rounds_zero hl h0 k) n.ln (Nat.le_refl _)
theorem start_zero {n : Net} {x : Nat → Rat} : ∀ k, (∀ i, i < k → x (fx n i) = 0) → ∀ j, startH n k j = true → x j = 0
  | 0, _ => fun j hj => by simp [startH] at hj
  | k + 1, h => by
    intro j hj
    simp only [startH, updB] at hj
    by_cases e : j = fx n k
    · rw [e]; exact h k (by omega)
    · simp only [e, if_false] at hj
      exact start_zero k (fun i hi => h i (by omega)) j hj
theorem held_zero {n : Net} {x : Nat → Rat} (hl : ∀ i, i < n.ln → x (fr n i) = x (tt n i)) (hf : ∀ i, i < n.fn → x (fx n i) = 0) (j : Nat) (hj : held n j = true) : x j = 0 :=
  rounds_zero hl (start_zero n.fn hf) _ j hj
/-- The first thing that all comes to: a list of numbers that is nought at fixed nodes, and whose sum with what flows out is nought, is nought. -/
theorem all_zero {n : Net} (h : Right n) (hh : ∀ j, j < nn n → held n j = true) {x : Nat → Rat} (hf : ∀ i, i < n.fn → x (fx n i) = 0) (h0 : sumR (nn n) (fun v => x v * nodeX n x v) = 0) : ∀ j, j < nn n → x j = 0 := by
  rw [form n h x] at h0
  have h1 := sumR_null (fun i hi => Rat.mul_nonneg (Rat.le_of_lt (gv_pos h hi)) (sq_nonneg _)) h0
  have hl : ∀ i, i < n.ln → x (fr n i) = x (tt n i) := by
    intro i hi
    have e := h1 i hi
    have p := gv_pos h hi
    have p2 : gv n i ≠ 0 := by grind
    rcases Rat.mul_eq_zero.1 e with a | a
    · exact absurd a p2
    · rcases Rat.mul_eq_zero.1 a with b | b <;> grind
  exact fun j hj => held_zero hl hf j (hh j hj)

/-- The nodes that are not fixed, one by one. -/
def fixed (n : Net) (v : Nat) : Bool := startH n n.fn v
theorem fixed_iff {n : Net} {v : Nat} : ∀ k, startH n k v = true ↔ ∃ i, i < k ∧ fx n i = v
  | 0 => by simp [startH]
  | k + 1 => by
    simp only [startH, updB]
    by_cases e : v = fx n k
    · simp only [e, if_true, true_iff]; exact ⟨k, by omega, rfl⟩
    · simp only [e, if_false]
      rw [fixed_iff k]
      constructor
      · rintro ⟨i, h1, h2⟩; exact ⟨i, by omega, h2⟩
      · rintro ⟨i, h1, h2⟩
        by_cases e2 : i = k
        · subst e2; exact absurd h2.symm e
        · exact ⟨i, by omega, h2⟩
def freeTo (n : Net) : Nat → List Nat
  | 0 => []
  | k + 1 => freeTo n k ++ (if fixed n k then [] else [k])
theorem freeTo_len (n : Net) : ∀ k, (freeTo n k).length ≤ k
  | 0 => Nat.le_refl _
  | k + 1 => by
    have := freeTo_len n k
    simp only [freeTo, List.length_append]
    split <;> simp <;> omega
theorem freeTo_lt (n : Net) : ∀ k, ∀ v, v ∈ freeTo n k → v < k ∧ fixed n v = false
  | 0 => by simp [freeTo]
  | k + 1 => by
    intro v hv
    simp only [freeTo, List.mem_append] at hv
    rcases hv with a | a
    · have := freeTo_lt n k v a; exact ⟨by omega, this.2⟩
    · split at a
      · simp at a
      · rename_i e
        simp at a; subst a; exact ⟨by omega, by simpa using e⟩
def free (n : Net) : List Nat := freeTo n (nn n)
def nd (n : Net) (r : Nat) : Nat := (free n).getD r 0
def mm (n : Net) : Nat := (free n).length
theorem nd_lt {n : Net} {r : Nat} (h : r < mm n) : nd n r < nn n ∧ fixed n (nd n r) = false := by
  apply freeTo_lt n
  unfold nd free
  have h' : r < (freeTo n (nn n)).length := h
  rw [List.getD_eq_getElem?_getD, List.getElem?_eq_getElem h', Option.getD_some]
  exact List.getElem_mem h'
theorem sum_free (n : Net) (h : Nat → Rat) (h0 : ∀ v, fixed n v = true → h v = 0) : ∀ k, sumR k h = sumR (freeTo n k).length (fun r => h ((freeTo n k).getD r 0))
  | 0 => rfl
  | k + 1 => by
    rw [sumR, sum_free n h h0 k]
    by_cases e : fixed n k = true
    · have e1 : freeTo n (k + 1) = freeTo n k := by simp [freeTo, e]
      rw [e1, h0 k e]; grind
    · have e1 : freeTo n (k + 1) = freeTo n k ++ [k] := by simp [freeTo, e]
      rw [e1, List.length_append, List.length_singleton, sumR]
      congr 1
      · apply sumR_congr
        intro i hi
        simp [List.getElem?_append, hi]
      · simp
theorem free_idx {n : Net} : ∀ {k v}, v < k → fixed n v = false → ∃ r, r < (freeTo n k).length ∧ (freeTo n k).getD r 0 = v
  | 0, _, h, _ => absurd h (Nat.not_lt_zero _)
  | k + 1, v, h, hf => by
    by_cases e : v = k
    · subst e
      have e1 : freeTo n (v + 1) = freeTo n v ++ [v] := by simp [freeTo, hf]
      exact ⟨(freeTo n v).length, by rw [e1]; simp, by rw [e1]; simp⟩
    · obtain ⟨r, h1, h2⟩ := free_idx (k := k) (v := v) (by omega) hf
      refine ⟨r, by simp only [freeTo, List.length_append]; omega, ?_⟩
      simp only [freeTo]
      rw [List.getD_eq_getElem?_getD, List.getElem?_append_left h1, ← List.getD_eq_getElem?_getD]
      exact h2
theorem free_inc (n : Net) : ∀ k r s, r < s → s < (freeTo n k).length → (freeTo n k).getD r 0 < (freeTo n k).getD s 0
  | 0, _, _, _, h => by simp [freeTo] at h
  | k + 1, r, s, hrs, hs => by
    by_cases e : fixed n k = true
    · have e1 : freeTo n (k + 1) = freeTo n k := by simp [freeTo, e]
      rw [e1] at hs ⊢; exact free_inc n k r s hrs hs
    · have e1 : freeTo n (k + 1) = freeTo n k ++ [k] := by simp [freeTo, e]
      rw [e1] at hs ⊢
      rw [List.length_append, List.length_singleton] at hs
      by_cases e2 : s = (freeTo n k).length
      · subst e2
        have hr : (freeTo n k).getD r 0 ∈ freeTo n k := by
          rw [List.getD_eq_getElem?_getD, List.getElem?_eq_getElem hrs, Option.getD_some]; exact List.getElem_mem hrs
        have := (freeTo_lt n k _ hr).1
        rw [List.getD_eq_getElem?_getD, List.getElem?_append_left hrs, ← List.getD_eq_getElem?_getD, List.getD_eq_getElem?_getD (i := (freeTo n k).length)]
        simpa using this
      · have := free_inc n k r s hrs (by omega)
        rw [List.getD_eq_getElem?_getD, List.getElem?_append_left (by omega), ← List.getD_eq_getElem?_getD, List.getD_eq_getElem?_getD (i := s), List.getElem?_append_left (by omega), ← List.getD_eq_getElem?_getD]
        exact this
theorem nd_inj {n : Net} {r s : Nat} (hr : r < mm n) (hs : s < mm n) (e : nd n r = nd n s) : r = s := by
  rcases Nat.lt_trichotomy r s with h | h | h
  · have := free_inc n (nn n) r s h hs; unfold nd free at e; omega
  · exact h
  · have := free_inc n (nn n) s r h hr; unfold nd free at e; omega

/-- What a link adds to a row. -/
def coefAt (n : Net) (v u i : Nat) : Int := if fr n i = v then (if u = v then n.L (i * 3 + 2) else if u = tt n i then -n.L (i * 3 + 2) else 0) else if tt n i = v then (if u = v then n.L (i * 3 + 2) else if u = fr n i then -n.L (i * 3 + 2) else 0) else 0
def coefTo (n : Net) (v u : Nat) : Nat → Int
  | 0 => 0
  | i + 1 => coefTo n v u i + coefAt n v u i
/-- The square of numbers. -/
def A0 (n : Net) (r c : Nat) : Rat := (coefTo n (nd n r) (nd n c) n.ln : Rat)
theorem coefTo_sum (n : Net) (v u : Nat) : ∀ k, ((coefTo n v u k : Int) : Rat) = sumR k (fun i => ((coefAt n v u i : Int) : Rat))
  | 0 => rfl
  | k + 1 => by rw [coefTo, sumR, ← coefTo_sum n v u k, Rat.intCast_add]
/-- A list of numbers for the free nodes, as one for all. -/
def spread (n : Net) (y : Nat → Rat) (v : Nat) : Rat := sumR (mm n) (fun r => if nd n r = v then y r else 0)
theorem spread_nd {n : Net} {y : Nat → Rat} {r : Nat} (hr : r < mm n) : spread n y (nd n r) = y r := by
  unfold spread
  rw [sumR_one hr (fun i hi hne => by
    have : nd n i ≠ nd n r := fun e => hne (nd_inj hi hr e)
    simp [this])]
  simp
theorem spread_fixed {n : Net} {y : Nat → Rat} {v : Nat} (hv : fixed n v = true) : spread n y v = 0 :=
  sumR_zero (fun r hr => by
    have := (nd_lt hr).2
    have e : nd n r ≠ v := fun e => by rw [e, hv] at this; cases this
    simp [e])
theorem row_node {n : Net} (h : Right n) (y : Nat → Rat) {r : Nat} : rowX (mm n) (A0 n) y r = nodeX n (spread n y) (nd n r) := by
  unfold rowX nodeX
  have e1 : sumR (mm n) (fun c => A0 n r c * y c) = sumR (mm n) (fun c => sumR n.ln (fun i => ((coefAt n (nd n r) (nd n c) i : Int) : Rat) * y c)) := by
    apply sumR_congr
    intro c hc
    unfold A0
    rw [coefTo_sum, Rat.mul_comm, ← sumR_mul]
    exact sumR_congr (fun i _ => by grind)
  rw [e1, sumR_swap]
  apply sumR_congr
  intro i hi
  have key : ∀ (v u : Nat) (g : Int), v = nd n r → u ≠ v → sumR (mm n) (fun c => (((if nd n c = v then g else if nd n c = u then -g else 0 : Int)) : Rat) * y c) = (g : Rat) * (spread n y v - spread n y u) := by
    intro v u g hv hu
    have e2 : sumR (mm n) (fun c => (((if nd n c = v then g else if nd n c = u then -g else 0 : Int)) : Rat) * y c) = sumR (mm n) (fun c => (g : Rat) * (if nd n c = v then y c else 0) - (g : Rat) * (if nd n c = u then y c else 0)) := by
      apply sumR_congr
      intro c _
      by_cases a : nd n c = v
      · have b : nd n c ≠ u := fun e => hu (e.symm.trans a)
        simp only [a, if_true]
        rw [a] at b
        simp only [b, if_false]
        grind
      · simp only [a, if_false]
        by_cases b : nd n c = u
        · simp only [b, if_true]; rw [Rat.intCast_neg]; grind
        · simp only [b, if_false]
          have : ((0 : Int) : Rat) = 0 := rfl
          rw [this]; grind
    rw [e2, sumR_sub, sumR_mul, sumR_mul]
    unfold spread
    grind
  have hne := h.frtt hi
  unfold outAt coefAt gv
  by_cases a : fr n i = nd n r
  · simp only [a, if_true]
    have := key (nd n r) (tt n i) (n.L (i * 3 + 2)) rfl (fun e => hne (a.trans e.symm))
    exact this
  · simp only [a, if_false]
    by_cases b : tt n i = nd n r
    · simp only [b, if_true]
      have := key (nd n r) (fr n i) (n.L (i * 3 + 2)) rfl a
      exact this
    · simp only [b, if_false]
      exact sumR_zero (fun c _ => by
        have : ((0 : Int) : Rat) = 0 := rfl
        rw [this]; grind)
theorem sure0 {n : Net} (h : Right n) (hh : ∀ j, j < nn n → held n j = true) : Sure (mm n) 0 (A0 n) := by
  intro y _ h0
  have h1 : sumR (nn n) (fun v => spread n y v * nodeX n (spread n y) v) = 0 := by
    rw [sum_free n _ (fun v hv => by rw [spread_fixed hv]; grind) (nn n)]
    rw [← h0]
    exact sumR_congr (n := mm n) (fun r hr => by
      show spread n y (nd n r) * nodeX n (spread n y) (nd n r) = _
      rw [spread_nd hr, row_node h y])
  have h2 := all_zero h hh (x := spread n y) (fun i hi => spread_fixed ((fixed_iff n.fn).2 ⟨i, hi, rfl⟩)) h1
  intro r hr
  rw [← spread_nd (y := y) hr]
  exact h2 _ (nd_lt hr).1
end Nt
end Go.Proofs.YtkaokfmaecdkiaaGreatDoor
