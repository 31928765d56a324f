/-
  Windows over reads, night lines, bursts: plain facts on lists of words. No program is named here.
-/
import Derived.Test.YtlipgnjknfmikaaLkFl
namespace Go.Proofs.Ytlipgnjknfmikaa.Lk
open Fl Ieee

/-- The last s of a list. -/
def lastN (s : Nat) (ys : List Nat) : List Nat := ys.drop (ys.length - s)
theorem lastN_len {s : Nat} {ys : List Nat} (h : s ≤ ys.length) : (lastN s ys).length = s := by
  unfold lastN; rw [List.length_drop]; omega
theorem lastN_el {s : Nat} {ys : List Nat} (j : Nat) : el (lastN s ys) j = el ys (ys.length - s + j) := by
  unfold lastN el; simp [List.getD, List.getElem?_drop]
/-- A window of s places over what was seen. -/
def slotR (s : Nat) (ys : List Nat) (j : Nat) : Nat := if s ≤ j + ys.length then el ys (j + ys.length - s) else 0
def slotS (s : Nat) (ys : List Nat) (j : Nat) : Bool := decide (s ≤ j + ys.length)
theorem el_snoc_last (ys : List Nat) (x : Nat) : el (ys ++ [x]) ys.length = x := by simp [el]
theorem el_snoc {ys : List Nat} {x i : Nat} (h : i < ys.length) : el (ys ++ [x]) i = el ys i := by
  unfold el; rw [List.getD_eq_getElem?_getD, List.getD_eq_getElem?_getD, List.getElem?_append_left h]
theorem slotR_snoc {s : Nat} {ys : List Nat} {x j : Nat} (h : j + 1 < s) : slotR s (ys ++ [x]) j = slotR s ys (j + 1) := by
  unfold slotR
  rw [List.length_append, List.length_singleton]
  by_cases c : s ≤ j + (ys.length + 1)
  · rw [if_pos c, if_pos (by omega), show j + (ys.length + 1) - s = j + 1 + ys.length - s by omega]
    exact el_snoc (by omega)
  · rw [if_neg c, if_neg (by omega)]
theorem slotS_snoc {s : Nat} {ys : List Nat} {x j : Nat} : slotS s (ys ++ [x]) j = slotS s ys (j + 1) := by
  unfold slotS
  rw [List.length_append, List.length_singleton]
  congr 1; apply propext; omega
theorem slotR_last {s : Nat} {ys : List Nat} {x : Nat} (h : 0 < s) : slotR s (ys ++ [x]) (s - 1) = x := by
  unfold slotR
  rw [List.length_append, List.length_singleton, if_pos (by omega), show s - 1 + (ys.length + 1) - s = ys.length by omega]
  exact el_snoc_last ys x
theorem slotS_last {s : Nat} {ys : List Nat} {x : Nat} (h : 0 < s) : slotS s (ys ++ [x]) (s - 1) = true := by
  unfold slotS; rw [List.length_append, List.length_singleton]; exact decide_eq_true (by omega)
theorem slotR_nil {s j : Nat} (h : j < s) : slotR s [] j = 0 := by unfold slotR; rw [if_neg (by simp; omega)]
theorem slotS_nil {s j : Nat} (h : j < s) : slotS s [] j = false := by unfold slotS; exact decide_eq_false (by simp; omega)
theorem slotR_full {s : Nat} {ys : List Nat} (h : s ≤ ys.length) (j : Nat) : slotR s ys j = el (lastN s ys) j := by
  unfold slotR; rw [if_pos (by omega), lastN_el, show j + ys.length - s = ys.length - s + j by omega]

/-- What was seen since the last gap. -/
def run (f : Nat → Nat) : Nat → List Nat
  | 0 => []
  | k + 1 => if measB (f k) then run f k ++ [f k] else []
theorem run_yes {f : Nat → Nat} {k : Nat} (h : measB (f k) = true) : run f (k + 1) = run f k ++ [f k] := by show (if _ then _ else _) = _; rw [if_pos h]
theorem run_no {f : Nat → Nat} {k : Nat} (h : measB (f k) = false) : run f (k + 1) = [] := by show (if _ then _ else _) = _; rw [if_neg (by rw [h]; decide)]
theorem run_len (f : Nat → Nat) : ∀ k, (run f k).length ≤ k
  | 0 => Nat.le_refl _
  | k + 1 => by
    cases h : measB (f k)
    · rw [run_no h]; exact Nat.zero_le _
    · rw [run_yes h, List.length_append]; have := run_len f k; simp; omega
theorem run_el {f : Nat → Nat} : ∀ (k i : Nat), i < (run f k).length → el (run f k) i = f (k - (run f k).length + i) ∧ measB (f (k - (run f k).length + i)) = true
  | 0, i, h => absurd h (Nat.not_lt_zero _)
  | k + 1, i, h => by
    cases hm : measB (f k)
    · rw [run_no hm] at h; exact absurd h (Nat.not_lt_zero _)
    · rw [run_yes hm] at h ⊢
      rw [List.length_append, List.length_singleton] at h ⊢
      have hl := run_len f k
      by_cases e : i = (run f k).length
      · subst e
        rw [show k + 1 - ((run f k).length + 1) + (run f k).length = k by omega]
        exact ⟨el_snoc_last _ _, hm⟩
      · rw [el_snoc (by omega), show k + 1 - ((run f k).length + 1) + i = k - (run f k).length + i by omega]
        exact run_el k i (by omega)
theorem run_long {f : Nat → Nat} : ∀ (k j : Nat), j ≤ k → (∀ i, k - j ≤ i → i < k → measB (f i) = true) → j ≤ (run f k).length
  | _, 0, _, _ => Nat.zero_le _
  | 0, j + 1, h, _ => absurd h (by omega)
  | k + 1, j + 1, h, hm => by
    rw [run_yes (hm k (by omega) (by omega)), List.length_append, List.length_singleton]
    have := run_long k j (by omega) (fun i h1 h2 => hm i (by omega) (by omega))
    omega
/-- Four reads one behind the other. -/
def w4 (f : Nat → Nat) (i : Nat) : List Nat := [f i, f (i + 1), f (i + 2), f (i + 3)]
def m4 (f : Nat → Nat) (i : Nat) : Bool := (List.range 4).all fun j => measB (f (i + j))
theorem m4_iff {f : Nat → Nat} {i : Nat} : m4 f i = true ↔ 4 ≤ (run f (i + 4)).length := by
  constructor
  · intro h
    refine run_long _ _ (by omega) (fun j h1 h2 => ?_)
    have := List.all_eq_true.1 h (j - i) (List.mem_range.2 (by omega))
    rwa [show i + (j - i) = j by omega] at this
  · intro h
    refine List.all_eq_true.2 (fun j hj => ?_)
    have hj := List.mem_range.1 hj
    have := (run_el (f := f) (i + 4) ((run f (i + 4)).length - 4 + j) (by omega)).2
    rwa [show i + 4 - (run f (i + 4)).length + ((run f (i + 4)).length - 4 + j) = i + j by have := run_len f (i + 4); omega] at this
theorem w4_last {f : Nat → Nat} {i : Nat} (h : 4 ≤ (run f (i + 4)).length) : lastN 4 (run f (i + 4)) = w4 f i := by
  have hl := lastN_len h
  have hr := run_len f (i + 4)
  have he : ∀ j, j < 4 → el (lastN 4 (run f (i + 4))) j = f (i + j) := by
    intro j hj
    rw [lastN_el, (run_el (i + 4) _ (by omega)).1]
    congr 1; omega
  apply List.ext_getElem
  · rw [hl]; rfl
  · intro j h1 h2
    have := he j (by omega)
    unfold el at this
    rw [List.getD_eq_getElem?_getD, List.getElem?_eq_getElem h1] at this
    rw [show (lastN 4 (run f (i + 4)))[j] = f (i + j) from this]
    rw [hl] at h1
    match j, h1 with
    | 0, _ => rfl
    | 1, _ => rfl
    | 2, _ => rfl
    | 3, _ => rfl
/-- Where the night line of the first k reads begins, and its sum. -/
def best (f : Nat → Nat) : Nat → Int × Nat
  | 0 => (-1, 0)
  | k + 1 => if 4 ≤ (run f (k + 1)).length then
      (if (best f k).1 = -1 ∨ ltW (sumL (lastN 4 (run f (k + 1)))) (best f k).2 = true then ((k : Int) + 1 - 4, sumL (lastN 4 (run f (k + 1)))) else best f k)
    else best f k
theorem best_short {f : Nat → Nat} {k : Nat} (h : (run f (k + 1)).length < 4) : best f (k + 1) = best f k := by show (if _ then _ else _) = _; rw [if_neg (by omega)]
theorem best_take {f : Nat → Nat} {k : Nat} (h : 4 ≤ (run f (k + 1)).length) (h2 : (best f k).1 = -1 ∨ ltW (sumL (lastN 4 (run f (k + 1)))) (best f k).2 = true) : best f (k + 1) = ((k : Int) + 1 - 4, sumL (lastN 4 (run f (k + 1)))) := by show (if _ then _ else _) = _; rw [if_pos h, if_pos h2]
theorem best_keep {f : Nat → Nat} {k : Nat} (h : 4 ≤ (run f (k + 1)).length) (h2 : ¬ ((best f k).1 = -1 ∨ ltW (sumL (lastN 4 (run f (k + 1)))) (best f k).2 = true)) : best f (k + 1) = best f k := by show (if _ then _ else _) = _; rw [if_pos h, if_neg h2]
theorem best_low {f : Nat → Nat} : ∀ k, k ≤ 3 → best f k = (-1, 0)
  | 0, _ => rfl
  | k + 1, h => by rw [best_short (by have := run_len f (k + 1); omega)]; exact best_low k (by omega)
/-- What the night line is. -/
def BestF (f : Nat → Nat) (k : Nat) : Prop := (best f k = (-1, 0) ∧ ∀ i, i + 4 ≤ k → m4 f i = false) ∨ ∃ i : Nat, i + 4 ≤ k ∧ m4 f i = true ∧ best f k = ((i : Int), sumL (w4 f i)) ∧ ∀ j, j + 4 ≤ k → m4 f j = true → ltW (sumL (w4 f j)) (sumL (w4 f i)) = false
theorem w4_nm (f : Nat → Nat) (i : Nat) : Nm (sumL (w4 f i)) := (sumL_bd (ys := w4 f i) (by show 4 ≤ 400; omega)).num
theorem lt_self {x : Nat} (h : Nm x) : ltW x x = false := by
  obtain ⟨s, m, e, h⟩ := h
  unfold ltW; rw [ord_self h]; rfl
theorem lt_back {x y : Nat} (hx : Nm x) (hy : Nm y) (h : ltW x y = true) : ltW y x = false := by
  cases k : ltW y x with
  | false => rfl
  | true => have := lt_trans hx hy hx h k; rw [lt_self hx] at this; cases this
theorem best_f (f : Nat → Nat) : ∀ k, BestF f k
  | 0 => Or.inl ⟨rfl, fun i h => absurd h (by omega)⟩
  | k + 1 => by
    by_cases h : 4 ≤ (run f (k + 1)).length
    · have hk : 3 ≤ k := by have := run_len f (k + 1); omega
      obtain ⟨i, rfl⟩ : ∃ i, k = i + 3 := ⟨k - 3, by omega⟩
      have hm : m4 f i = true := m4_iff.2 h
      have hl := w4_last h
      have old : ∀ j, j + 4 ≤ i + 3 + 1 → j = i ∨ j + 4 ≤ i + 3 := fun j hj => by omega
      rcases best_f f (i + 3) with ⟨hb, hn⟩ | ⟨j, hj, hmj, hb, hle⟩
      · right
        refine ⟨i, by omega, hm, ?_, fun j hj hmj => ?_⟩
        · rw [best_take h (Or.inl (by rw [hb])), hl]
          congr 1; omega
        · rcases old j hj with rfl | hj
          · exact lt_self (w4_nm f j)
          · rw [hn j hj] at hmj; cases hmj
      · right
        by_cases c : ltW (sumL (w4 f i)) (sumL (w4 f j)) = true
        · refine ⟨i, by omega, hm, ?_, fun q hq hmq => ?_⟩
          · rw [best_take h (Or.inr (by rw [hb, hl]; exact c)), hl]
            congr 1; omega
          · rcases old q hq with rfl | hq
            · exact lt_self (w4_nm f q)
            · cases k2 : ltW (sumL (w4 f q)) (sumL (w4 f i)) with
              | false => rfl
              | true =>
                have := lt_trans (w4_nm f q) (w4_nm f i) (w4_nm f j) k2 c
                rw [hle q hq hmq] at this; cases this
        · refine ⟨j, by omega, hmj, ?_, fun q hq hmq => ?_⟩
          · rw [best_keep h (by rw [hb, hl]; rintro (k2 | k2)
                                · exact absurd k2 (by show ¬ (j : Int) = -1; omega)
                                · exact c k2)]
            exact hb
          · rcases old q hq with rfl | hq
            · exact Bool.eq_false_iff.2 c
            · exact hle q hq hmq
    · rw [BestF, best_short (by omega)]
      rcases best_f f k with ⟨hb, hn⟩ | ⟨j, hj, hmj, hb, hle⟩
      · refine Or.inl ⟨hb, fun i hi => ?_⟩
        by_cases e : i + 4 = k + 1
        · cases hq : m4 f i with
          | false => rfl
          | true => have := m4_iff.1 hq; rw [e] at this; omega
        · exact hn i (by omega)
      · refine Or.inr ⟨j, by omega, hmj, hb, fun q hq hmq => ?_⟩
        by_cases e : q + 4 = k + 1
        · have := m4_iff.1 hmq; rw [e] at this; omega
        · exact hle q (by omega) hmq
/-- The model's step from window to window. -/
theorem best_no {f : Nat → Nat} {i : Nat} (h : m4 f i = false) : best f (i + 4) = best f (i + 3) := best_short (by
  rcases Nat.lt_or_ge (run f (i + 4)).length 4 with k | k
  · exact k
  · rw [m4_iff.2 k] at h; cases h)
theorem best_yes {f : Nat → Nat} {i : Nat} (h : m4 f i = true) (h2 : (best f (i + 3)).1 = -1 ∨ ltW (sumL (w4 f i)) (best f (i + 3)).2 = true) : best f (i + 4) = ((i : Int), sumL (w4 f i)) := by
  have h4 := m4_iff.1 h
  rw [best_take h4 (by rw [w4_last h4]; exact h2), w4_last h4]
  congr 1; omega
theorem best_stay {f : Nat → Nat} {i : Nat} (h : m4 f i = true) (h2 : ¬ ((best f (i + 3)).1 = -1 ∨ ltW (sumL (w4 f i)) (best f (i + 3)).2 = true)) : best f (i + 4) = best f (i + 3) := by
  have h4 := m4_iff.1 h
  exact best_keep h4 (by rw [w4_last h4]; exact h2)
/-- The night line's word. -/
def four : Nat := 4616189618054758400
def lineW (f : Nat → Nat) (n : Nat) : Nat := divW (best f n).2 four
theorem four_lb : Lb 0 four := Or.inl ⟨4503599627370496, -50, by decide +kernel, by decide, by decide⟩
theorem best_bd (f : Nat → Nat) (n : Nat) : Bd 38 (best f n).2 := by
  rcases best_f f n with ⟨h, _⟩ | ⟨i, _, _, h, _⟩
  · rw [h]; exact ⟨false, 0, -1074, zero_read, Or.inl rfl⟩
  · rw [h]; exact sumL_bd (ys := w4 f i) (by show 4 ≤ 400; omega)
theorem line_some (f : Nat → Nat) (n : Nat) : floatBits .quo .f64 (best f n).2 four = some (lineW f n) ∧ Bd 40 (lineW f n) :=
  div_lb (K := 39) (best_bd f n) four_lb (by omega) (by omega) (by omega)
theorem zero_four : divW 0 four = 0 := by decide +kernel

/-- What was seen, gaps or not. -/
def seen (f : Nat → Nat) : Nat → List Nat
  | 0 => []
  | k + 1 => if measB (f k) then seen f k ++ [f k] else seen f k
theorem seen_yes {f : Nat → Nat} {k : Nat} (h : measB (f k) = true) : seen f (k + 1) = seen f k ++ [f k] := by show (if _ then _ else _) = _; rw [if_pos h]
theorem seen_no {f : Nat → Nat} {k : Nat} (h : measB (f k) = false) : seen f (k + 1) = seen f k := by show (if _ then _ else _) = _; rw [if_neg (by rw [h]; decide)]
theorem seen_len (f : Nat → Nat) : ∀ k, (seen f k).length ≤ k
  | 0 => Nat.le_refl _
  | k + 1 => by
    have := seen_len f k
    cases h : measB (f k)
    · rw [seen_no h]; omega
    · rw [seen_yes h, List.length_append, List.length_singleton]; omega
theorem seen_meas {f : Nat → Nat} : ∀ (k i : Nat), i < (seen f k).length → measB (el (seen f k) i) = true
  | 0, i, h => absurd h (Nat.not_lt_zero _)
  | k + 1, i, h => by
    cases hm : measB (f k)
    · rw [seen_no hm] at h ⊢; exact seen_meas k i h
    · rw [seen_yes hm] at h ⊢
      rw [List.length_append, List.length_singleton] at h
      by_cases e : i = (seen f k).length
      · subst e; rw [el_snoc_last]; exact hm
      · rw [el_snoc (by omega)]; exact seen_meas k i (by omega)
theorem last_meas {f : Nat → Nat} {k s : Nat} (hs : s ≤ (seen f k).length) (i : Nat) (h : i < (lastN s (seen f k)).length) : measB (el (lastN s (seen f k)) i) = true := by
  rw [lastN_len hs] at h
  rw [lastN_el]; exact seen_meas k _ (by omega)
/-- A burst at k. -/
def atB (f : Nat → Nat) (s t k : Nat) : Bool := measB (f k) && (decide (s ≤ (seen f k).length) && farB (f k) t (lastN s (seen f k)))
/-- The first burst ahead of n. -/
def burst (f : Nat → Nat) (s t : Nat) : Nat → Option Nat
  | 0 => none
  | k + 1 => match burst f s t k with
    | some i => some i
    | none => if atB f s t k then some k else none
theorem burst_lt {f : Nat → Nat} {s t : Nat} : ∀ {n i : Nat}, burst f s t n = some i → i < n ∧ atB f s t i = true ∧ burst f s t i = none
  | 0, i, h => by cases h
  | k + 1, i, h => by
    unfold burst at h
    cases hb : burst f s t k with
    | some j =>
      rw [hb] at h
      obtain rfl : j = i := Option.some.inj h
      have := burst_lt hb
      exact ⟨by omega, this.2⟩
    | none =>
      rw [hb] at h
      dsimp only at h
      cases ha : atB f s t k with
      | false => rw [ha] at h; cases h
      | true =>
        rw [ha] at h
        obtain rfl : k = i := Option.some.inj h
        exact ⟨by omega, ha, hb⟩
theorem burst_none {f : Nat → Nat} {s t n : Nat} (h : burst f s t n = none) (ha : atB f s t n = false) : burst f s t (n + 1) = none := by
  unfold burst; rw [h, ha]; rfl
theorem burst_here {f : Nat → Nat} {s t n : Nat} (h : burst f s t n = none) (ha : atB f s t n = true) : burst f s t (n + 1) = some n := by
  unfold burst; rw [h, ha]; rfl
theorem burst_mono {f : Nat → Nat} {s t i : Nat} : ∀ {n m : Nat}, burst f s t n = some i → n ≤ m → burst f s t m = some i
  | n, 0, h, hm => by obtain rfl : n = 0 := by omega
                      exact h
  | n, m + 1, h, hm => by
    by_cases e : n = m + 1
    · subst e; exact h
    · unfold burst; rw [burst_mono h (by omega : n ≤ m)]
end Go.Proofs.Ytlipgnjknfmikaa.Lk
