/-
  Histories read: numbers as the program and the model tell them apart (no program in this text).
-/
import Derived.Test.YtmejmpdljckfgaaDoorHsMath
import Derived.Laws.RangeAny
namespace Go.Proofs.YtmejmpdljckfgaaDoor
namespace Hs
/-- Numbers as the program's words hold them. -/
def numsW (t : List UInt8) : List Nat := (nums 0 1 t).map (· % 18446744073709551616)
theorem map_id_of {l : List Nat} (h : ∀ x ∈ l, x < 18446744073709551616) : l.map (· % 18446744073709551616) = l := by
  induction l with
  | nil => rfl
  | cons x l ih => rw [List.map_cons, Nat.mod_eq_of_lt (h x (by simp)), ih (fun y hy => h y (by simp [hy]))]
theorem RightL.nums {l : List (Int × Int)} (h : RightL l) : Hs.nums 0 1 (textL l) = numL (Ln.fl l) l.length := by
  unfold textL
  rw [text_yes h]
  have := nums_cat (Ln.fl l) l.length []
  rwa [List.append_nil, show Hs.nums 0 1 [] = [] from rfl, List.append_nil] at this
theorem RightL.numsW {l : List (Int × Int)} (h : RightL l) : Hs.numsW (textL l) = Hs.nums 0 1 (textL l) := by
  unfold Hs.numsW
  refine map_id_of (fun x hx => ?_)
  rw [h.nums] at hx
  have := numL_lt h l.length (Nat.le_refl _) x hx
  omega
theorem RightL.len {l : List (Int × Int)} (h : RightL l) : (textL l).length ≤ 1800 := by
  unfold textL
  rw [text_yes h]
  have := cat_len h l.length (Nat.le_refl _)
  have := h.1
  omega
theorem textL_nil : textL [] = [] := by
  unfold textL
  rw [text_yes (show Right (Ln.fl []) ([] : List (Int × Int)).length from Right.zero _)]
  rfl
theorem textL_no {l : List (Int × Int)} (h : ¬ RightL l) : textL l = [] := text_no h
/-- What the program reads: its points are the list, if their text is the text. -/
noncomputable def rdI (t : List UInt8) : List (Int × Int) := pts 0 0 (numsW t)
theorem rdI_yes {t : List UInt8} (ht : t.length ≤ 20000) (h : textL (rdI t) = t) : Rd t (rdI t) 0 := by
  refine Or.inr (Or.inl ⟨ht, rfl, ?_, h⟩)
  by_cases hr : RightL (rdI t)
  · exact hr
  · rw [textL_no hr] at h
    subst h
    exact Right.zero _
theorem rdI_no {t : List UInt8} (ht : t.length ≤ 20000) (h : textL (rdI t) ≠ t) : Rd t [] 3 := by
  refine Or.inr (Or.inr ⟨ht, rfl, rfl, fun k hk e => h ?_⟩)
  subst e
  have : rdI (textL k) = k := by unfold rdI; rw [hk.numsW, hk.back]
  rw [this]
theorem rd_long {t : List UInt8} (ht : 20000 < t.length) : Rd t [] 2 := Or.inl ⟨ht, rfl, rfl⟩
/-- What the model reads. -/
noncomputable def rdS (t : List UInt8) : List (Int × Int) := pts 0 0 ((nums 0 1 t).take 602)
theorem rdS_of {k : List (Int × Int)} (hk : RightL k) : rdS (textL k) = k := by
  unfold rdS
  rw [List.take_of_length_le (by rw [hk.nums, numL_len]; have := hk.1; omega), hk.back]
theorem rdS_yes {t : List UInt8} (ht : t.length ≤ 20000) (hr : RightL (rdS t)) (h : textL (rdS t) = t) : Rd t (rdS t) 0 := Or.inr (Or.inl ⟨ht, rfl, hr, h⟩)
theorem rdS_no {t : List UInt8} (ht : t.length ≤ 20000) (h : ¬ (RightL (rdS t) ∧ textL (rdS t) = t)) : Rd t [] 3 := by
  refine Or.inr (Or.inr ⟨ht, rfl, rfl, fun k hk e => h ?_⟩)
  subst e
  rw [rdS_of hk]
  exact ⟨hk, rfl⟩
theorem rdS_unfit {t : List UInt8} (ht : t.length ≤ 20000) (h : ¬ Fit 0 t) : Rd t [] 3 := by
  refine Or.inr (Or.inr ⟨ht, rfl, rfl, fun k hk e => h ?_⟩)
  subst e
  unfold textL
  rw [text_yes hk]
  exact hk.fit
/-- The numbers' bytes: a run of high ones and a low one. -/
def High (s : ByteArray) (i j : Nat) : Prop := ∀ k (h : k < s.size), i ≤ k → k < j → 128 ≤ (s[k]'h).toNat
theorem nums_split {bs : List UInt8} {i j : Nat} (hij : i ≤ j) (hj : j < bs.length) (hh : ∀ k (h : k < bs.length), i ≤ k → k < j → 128 ≤ (bs[k]'h).toNat) (hc : (bs[j]'hj).toNat < 128) :
    nums 0 1 (bs.drop i) = sv ((bs.drop i).take (j + 1 - i)) :: nums 0 1 (bs.drop (j + 1)) := by
  have e : bs.drop i = (bs.drop i).take (j - i) ++ bs[j] :: bs.drop (j + 1) := by
    conv => lhs; rw [← List.take_append_drop (j - i) (bs.drop i)]
    congr 1
    rw [List.drop_drop, show i + (j - i) = j by omega, List.drop_eq_getElem_cons hj]
  have e2 : (bs.drop i).take (j + 1 - i) = (bs.drop i).take (j - i) ++ [bs[j]] := by
    rw [show j + 1 - i = (j - i) + 1 by omega, List.take_add_one, List.getElem?_drop, show i + (j - i) = j by omega, List.getElem?_eq_getElem hj]
    rfl
  rw [e2]
  conv => lhs; rw [e]
  have := nums_seg 0 1 ((bs.drop i).take (j - i)) bs[j] (bs.drop (j + 1)) (fun x hx => by
    obtain ⟨k, hk, rfl⟩ := List.getElem_of_mem hx
    rw [List.getElem_take, List.getElem_drop]
    exact hh _ _ (by omega) (by rw [List.length_take] at hk; omega)) hc
  rw [this]
  congr 1
  omega
theorem nums_rest {bs : List UInt8} {i : Nat} (hh : ∀ k (h : k < bs.length), i ≤ k → 128 ≤ (bs[k]'h).toNat) : nums 0 1 (bs.drop i) = [] := by
  refine nums_high 0 1 _ (fun x hx => ?_)
  obtain ⟨k, hk, rfl⟩ := List.getElem_of_mem hx
  rw [List.getElem_drop]
  exact hh _ _ (by omega)
/-- A rune's bytes are high where the first one is. -/
theorem decode_wide (s : ByteArray) (pos : Nat) (h : pos < s.size) (ha : 128 ≤ (s[pos]'h).toNat) :
    1 ≤ (Utf8.decode s pos).2 ∧ pos + (Utf8.decode s pos).2 ≤ s.size ∧ ∀ k (hk : k < s.size), pos ≤ k → k < pos + (Utf8.decode s pos).2 → 128 ≤ (s[k]'hk).toNat := by
  have g0 : (s.get! (pos + 0)).toNat = (s[pos]'h).toNat := by rw [get_at s pos h]
  have ge : ∀ k (hk : k < s.size), s.get! k = s[k]'hk := fun k hk => get_at s k hk
  have hn : ¬ (s[pos]'h).toNat < 128 := by omega
  have one : ∀ r : Nat, ∀ k (hk : k < s.size), pos ≤ k → k < pos + ((r, 1) : Nat × Nat).2 → 128 ≤ (s[k]'hk).toNat := fun r k hk h1 h2 => by
    have : k = pos := by have : k < pos + 1 := h2; omega
    subst this; exact ha
  have cont : ∀ m, pos + m < s.size → (s.get! (pos + m)).toNat / 64 = 2 → ∀ hk : pos + m < s.size, 128 ≤ (s[pos + m]'hk).toNat := fun m h1 h2 hk => by
    rw [ge _ hk] at h2; omega
  simp only [Utf8.decode, g0, hn, if_false]
  split
  · rename_i c1
    simp only [Bool.and_eq_true, decide_eq_true_eq, beq_iff_eq] at c1
    split
    · refine ⟨by omega, by show pos + 2 ≤ _; omega, fun k hk h1 h2 => ?_⟩
      have h2' : k < pos + 2 := h2
      by_cases e : k = pos
      · subst e; exact ha
      · obtain rfl : k = pos + 1 := by omega
        exact cont 1 c1.2.1 c1.2.2 hk
    · exact ⟨Nat.le_refl _, by show pos + 1 ≤ _; omega, one _⟩
  · split
    · rename_i c1
      simp only [Bool.and_eq_true, decide_eq_true_eq, beq_iff_eq] at c1
      split
      · refine ⟨by omega, by show pos + 3 ≤ _; omega, fun k hk h1 h2 => ?_⟩
        have h2' : k < pos + 3 := h2
        by_cases e : k = pos
        · subst e; exact ha
        · by_cases e1 : k = pos + 1
          · subst e1; exact cont 1 c1.1.2.1 c1.1.2.2 hk
          · obtain rfl : k = pos + 2 := by omega
            exact cont 2 c1.2.1 c1.2.2 hk
      · exact ⟨Nat.le_refl _, by show pos + 1 ≤ _; omega, one _⟩
    · split
      · rename_i c1
        simp only [Bool.and_eq_true, decide_eq_true_eq, beq_iff_eq] at c1
        split
        · refine ⟨by omega, by show pos + 4 ≤ _; omega, fun k hk h1 h2 => ?_⟩
          have h2' : k < pos + 4 := h2
          by_cases e : k = pos
          · subst e; exact ha
          · by_cases e1 : k = pos + 1
            · subst e1; exact cont 1 c1.1.1.2.1 c1.1.1.2.2 hk
            · by_cases e2 : k = pos + 2
              · subst e2; exact cont 2 c1.1.2.1 c1.1.2.2 hk
              · obtain rfl : k = pos + 3 := by omega
                exact cont 3 c1.2.1 c1.2.2 hk
        · exact ⟨Nat.le_refl _, by show pos + 1 ≤ _; omega, one _⟩
      · exact ⟨Nat.le_refl _, by show pos + 1 ≤ _; omega, one _⟩
/-- A number's bytes, from the last one back. -/
theorem sv_step (l : List UInt8) (i : Nat) (h : i < l.length) : sv (l.drop i) = (l[i]'h).toNat % 128 + 128 * sv (l.drop (i + 1)) := by
  rw [List.drop_eq_getElem_cons h]
  rfl
/-- How many bytes of the number at hand have come. -/
theorem fit_step {k : Nat} {bs : List UInt8} {i : Nat} (h : i < bs.length) : Fit k (bs.drop i) ↔ (k ≤ 5 ∧ (if (bs[i]'h).toNat < 128 then Fit 0 (bs.drop (i + 1)) else Fit (k + 1) (bs.drop (i + 1)))) := by
  rw [List.drop_eq_getElem_cons h]
  exact Iff.rfl
theorem nums_step {a u : Nat} {bs : List UInt8} {i : Nat} (h : i < bs.length) : nums a u (bs.drop i) = if (bs[i]'h).toNat < 128 then (a + (bs[i]'h).toNat % 128 * u) :: nums 0 1 (bs.drop (i + 1)) else nums (a + (bs[i]'h).toNat % 128 * u) (u * 128) (bs.drop (i + 1)) := by
  rw [List.drop_eq_getElem_cons h]
  rfl
theorem pts_two (a v : Int) (l : List Nat) (i : Nat) (h : i + 1 < l.length) : pts a v (l.drop i) = (IntKind.i64.wrap (a + IntKind.i64.wrap (l[i]'(by omega))), IntKind.i64.wrap (v + unf (l[i + 1]'h))) :: pts (IntKind.i64.wrap (a + IntKind.i64.wrap (l[i]'(by omega)))) (IntKind.i64.wrap (v + unf (l[i + 1]'h))) (l.drop (i + 2)) := by
  rw [List.drop_eq_getElem_cons (show i < l.length by omega), List.drop_eq_getElem_cons h]
  rfl
theorem pts_few (a v : Int) (l : List Nat) (i : Nat) (h : l.length ≤ i + 1) : pts a v (l.drop i) = [] := by
  by_cases e : i < l.length
  · rw [List.drop_eq_getElem_cons e, List.drop_eq_nil_of_le (by omega)]
    rfl
  · rw [List.drop_eq_nil_of_le (by omega)]
    rfl
end Hs
end Go.Proofs.YtmejmpdljckfgaaDoor
