/-
  What is packed lies within its band (no program in this text).
-/
import Derived.Test.YtmejmpdljckfgaaDoorHsRm
namespace Go.Proofs.YtmejmpdljckfgaaDoor
namespace Hs
theorem pack_mem {V : Nat → Int} {b : Int} {n : Nat} : ∀ p ∈ pack V b n, 0 ≤ p.1 ∧ p.1 < n ∧ p.2 = V p.1.toNat := by
  induction n with
  | zero => intro p hp; simp [pack] at hp
  | succ n ih =>
    intro p hp
    by_cases h : Far V b (pack V b n) n
    · rw [pack_yes h] at hp
      rcases List.mem_append.1 hp with hp | hp
      · have := ih p hp; omega
      · simp at hp
        subst hp
        exact ⟨by simp, by simp; omega, by simp⟩
    · rw [pack_no h] at hp
      have := ih p hp
      omega
theorem pack_ext {V : Nat → Int} {b : Int} {m : Nat} : ∀ n, m ≤ n → ∃ e, pack V b n = pack V b m ++ e ∧ ∀ p ∈ e, (m : Int) ≤ p.1 := by
  intro n
  induction n with
  | zero => intro h; obtain rfl : m = 0 := by omega
            exact ⟨[], by simp, fun p hp => by simp at hp⟩
  | succ n ih =>
    intro h
    by_cases e0 : m = n + 1
    · subst e0; exact ⟨[], by simp, fun p hp => by simp at hp⟩
    · obtain ⟨e, h1, h2⟩ := ih (by omega)
      by_cases hf : Far V b (pack V b n) n
      · refine ⟨e ++ [((n : Int), V n)], by rw [pack_yes hf, h1, List.append_assoc], fun p hp => ?_⟩
        rcases List.mem_append.1 hp with hp | hp
        · exact h2 p hp
        · simp at hp; subst hp; show (m : Int) ≤ (n : Int); omega
      · exact ⟨e, by rw [pack_no hf, h1], h2⟩
theorem fl_at (l : List (Int × Int)) (i : Nat) (h : i < l.length) : Ln.fl l (i * 2) = (l[i]'h).1 ∧ Ln.fl l (i * 2 + 1) = (l[i]'h).2 := by
  constructor
  · rw [Ln.fl_even]; simp [List.getD_eq_getElem?_getD, h]
  · rw [Ln.fl_odd]; simp [List.getD_eq_getElem?_getD, h]
theorem right_snoc {l : List (Int × Int)} {x y : Int} (h : RightL l) (hl : l.length + 1 ≤ 300) (hx : (l = [] → x = 0) ∧ x ≤ 299 ∧ ∀ p ∈ l, p.1 < x) (hy : -1000000 ≤ y ∧ y ≤ 1000000) : RightL (l ++ [(x, y)]) := by
  have ha : ∀ i (hi : i < l.length), Ln.fl (l ++ [(x, y)]) (i * 2) = Ln.fl l (i * 2) ∧ Ln.fl (l ++ [(x, y)]) (i * 2 + 1) = Ln.fl l (i * 2 + 1) := fun i hi => by
    obtain ⟨q1, q2⟩ := fl_at l i hi
    obtain ⟨r1, r2⟩ := fl_at (l ++ [(x, y)]) i (by simp; omega)
    rw [q1, q2, r1, r2, List.getElem_append_left hi]
    exact ⟨rfl, rfl⟩
  have hz : Ln.fl (l ++ [(x, y)]) (l.length * 2) = x ∧ Ln.fl (l ++ [(x, y)]) (l.length * 2 + 1) = y := by
    obtain ⟨r1, r2⟩ := fl_at (l ++ [(x, y)]) l.length (by simp)
    rw [r1, r2]
    simp
  refine ⟨by simp; omega, fun i hi => ?_⟩
  have hi' : i < l.length + 1 := by simpa using hi
  by_cases e : i = l.length
  · subst e
    unfold PtAt
    rw [hz.1, hz.2]
    refine ⟨?_, ?_, hy⟩
    · unfold lo
      by_cases h0 : l.length = 0
      · rw [if_pos h0, hx.1 (List.eq_nil_of_length_eq_zero h0)]; omega
      · rw [if_neg h0, (ha (l.length - 1) (by omega)).1, (fl_at l (l.length - 1) (by omega)).1]
        have := hx.2.2 _ (List.getElem_mem (show l.length - 1 < l.length by omega))
        omega
    · unfold Hs.hi
      by_cases h0 : l.length = 0
      · rw [if_pos h0, hx.1 (List.eq_nil_of_length_eq_zero h0)]; omega
      · rw [if_neg h0]; exact hx.2.1
  · have hil : i < l.length := by omega
    have hp := h.2 i hil
    unfold PtAt at hp ⊢
    rw [(ha i hil).1, (ha i hil).2]
    refine ⟨?_, hp.2⟩
    have : lo (Ln.fl (l ++ [(x, y)])) i = lo (Ln.fl l) i := by
      unfold lo
      by_cases h0 : i = 0
      · rw [if_pos h0, if_pos h0]
      · rw [if_neg h0, if_neg h0, (ha (i - 1) (by omega)).1]
    rw [this]
    exact hp.1
theorem pack_right {V : Nat → Int} {b : Int} {n : Nat} (h : Vals V n) : ∀ i, i ≤ n → RightL (pack V b i) := by
  intro i
  induction i with
  | zero => intro _; exact Right.zero _
  | succ i ih =>
    intro hi
    have hr := ih (by omega)
    by_cases hf : Far V b (pack V b i) i
    · rw [pack_yes hf]
      have hl := pack_len V b i
      have h300 := h.1
      refine right_snoc hr (by omega) ⟨fun e => ?_, by omega, fun p hp => by have := pack_mem p hp; omega⟩ (h.2 i (by omega))
      by_cases h0 : i = 0
      · subst h0; rfl
      · have := pack_pos V b i (by omega)
        rw [e] at this
        simp at this
    · rw [pack_no hf]; exact hr
/-- The last value is near. -/
theorem last_near {V : Nat → Int} {b : Int} (hb : 0 ≤ b) (i : Nat) : -b ≤ V i - last (pack V b (i + 1)) ∧ V i - last (pack V b (i + 1)) ≤ b := by
  by_cases hf : Far V b (pack V b i) i
  · rw [pack_yes hf, last_snoc]; omega
  · rw [pack_no hf]
    unfold Far at hf
    omega
theorem look_pack {V : Nat → Int} {b : Int} {n : Nat} (h : Vals V n) {i : Nat} (hi : i < n) : look (Ln.fl (pack V b n)) i (pack V b n).length = last (pack V b (i + 1)) := by
  obtain ⟨e, h1, h2⟩ := pack_ext (V := V) (b := b) (m := i + 1) n (by omega)
  have hR : RightL (pack V b n) := pack_right h n (Nat.le_refl _)
  have hk := pack_pos V b (i + 1) (by omega)
  obtain ⟨k, hke⟩ : ∃ k, k = (pack V b (i + 1)).length := ⟨_, rfl⟩
  rw [← hke] at hk
  have hkn : k ≤ (pack V b n).length := by rw [h1, List.length_append]; omega
  have hcut : look (Ln.fl (pack V b n)) i (pack V b n).length = look (Ln.fl (pack V b n)) i k := by
    by_cases hlt : k < (pack V b n).length
    · refine look_stop hR ?_ _ hkn (Nat.le_refl _)
      rw [(fl_at _ k hlt).1]
      have : (pack V b n)[k]'hlt ∈ e := by
        have hg : (pack V b n)[k]'hlt = (pack V b (i + 1) ++ e)[k]'(by rw [← h1]; exact hlt) := by congr 1
        rw [hg, List.getElem_append_right (by omega)]
        exact List.getElem_mem _
      have := h2 _ this
      omega
    · rw [show (pack V b n).length = k by omega]
  rw [hcut]
  obtain ⟨j, rfl⟩ : ∃ j, k = j + 1 := ⟨k - 1, by omega⟩
  have hj : j < (pack V b (i + 1)).length := by omega
  have hjn : j < (pack V b n).length := by omega
  have hg : (pack V b n)[j]'hjn = (pack V b (i + 1))[j]'hj := by
    have : (pack V b n)[j]'hjn = (pack V b (i + 1) ++ e)[j]'(by rw [← h1]; exact hjn) := by congr 1
    rw [this, List.getElem_append_left hj]
  show (if Ln.fl (pack V b n) (j * 2) ≤ (i : Int) then Ln.fl (pack V b n) (j * 2 + 1) else look (Ln.fl (pack V b n)) i j) = _
  have hm := pack_mem _ (List.getElem_mem hj)
  rw [if_pos (by rw [(fl_at _ j hjn).1, hg]; omega), (fl_at _ j hjn).2, hg]
  unfold last
  rw [← hke, show j + 1 - 1 = j by omega, (fl_at _ j hj).2]
theorem worst_le {V F : Nat → Int} {n : Nat} {b : Int} (hb : 0 ≤ b) : ∀ m, (∀ i, i < m → -b ≤ V i - look F i n ∧ V i - look F i n ≤ b) → 0 ≤ worst V F n m ∧ worst V F n m ≤ b := by
  intro m
  induction m with
  | zero => intro _; exact ⟨Int.le_refl _, hb⟩
  | succ m ih =>
    intro h
    have h1 := ih (fun i hi => h i (by omega))
    have h2 := h m (by omega)
    have h3 : 0 ≤ mag (V m - look F m n) ∧ mag (V m - look F m n) ≤ b := by unfold mag; split <;> omega
    show 0 ≤ max (worst V F n m) (mag (V m - look F m n)) ∧ max (worst V F n m) (mag (V m - look F m n)) ≤ b
    omega
/-- How far off what is packed is. -/
theorem off_pack {V : Nat → Int} {b : Int} {n : Nat} (h : Vals V n) (hb : Band b) : 0 ≤ off V n (Ln.fl (pack V b n)) (pack V b n).length ∧ off V n (Ln.fl (pack V b n)) (pack V b n).length ≤ b := by
  have hl := pack_len V b n
  have h3 := h.1
  have e : off V n (Ln.fl (pack V b n)) (pack V b n).length = worst V (Ln.fl (pack V b n)) (pack V b n).length n := by
    unfold off
    rw [if_neg (by omega), if_pos ⟨h, pack_right h n (Nat.le_refl _)⟩]
  rw [e]
  exact worst_le hb.1 n (fun i hi => by rw [look_pack h hi]; exact last_near hb.1 i)
theorem val_pack {V : Nat → Int} {n : Nat} (h : Vals V n) {i : Nat} (hi : i < n) : look (Ln.fl (pack V 0 n)) i (pack V 0 n).length = V i := by
  rw [look_pack h hi]
  have := last_near (V := V) (b := 0) (Int.le_refl _) i
  omega
/-- What is packed is read back from its bytes. -/
theorem read_pack {l : List (Int × Int)} (h : RightL l) {m : List (Int × Int)} {c : Int} (hr : Rd (textL l) m c) : m = l ∧ c = 0 := by
  have h1 : Rd (textL l) l 0 := Or.inr (Or.inl ⟨by have := h.len; omega, rfl, h, rfl⟩)
  exact hr.one h1
end Hs
end Go.Proofs.YtmejmpdljckfgaaDoor
