/-
  Reading a fraction's text: no program in this text.
-/
import Derived.Test.YtdlojhncbgfjbaaGreatDoorText
import Derived.Lib.ParseIntB
import Derived.Lib.IndexMore
namespace Go.Proofs.YtdlojhncbgfjbaaGreatDoor
open Go.RowKit
namespace M

theorem dec_small (u : Nat) (h : u < 10) : Lib.decDigits u = [UInt8.ofNat (48 + u)] := by rw [Lib.decDigits, dif_pos h]
theorem dec_big (u : Nat) (h : ¬ u < 10) : Lib.decDigits u = Lib.decDigits (u / 10) ++ [UInt8.ofNat (48 + u % 10)] := by
  conv => lhs; rw [Lib.decDigits, dif_neg h]
theorem ofNat_toNat (k : Nat) (h : k < 10) : (UInt8.ofNat (48 + k)).toNat = 48 + k := by
  rw [UInt8.toNat_ofNat']; omega
theorem dec_ind {C : Nat → Prop} (h1 : ∀ u, u < 10 → C u) (h2 : ∀ u, ¬ u < 10 → C (u / 10) → C u) (u : Nat) : C u := by
  induction u using Nat.strongRecOn with
  | ind u ih =>
    by_cases k : u < 10
    · exact h1 u k
    · exact h2 u k (ih _ (by omega))
/-- Each sign of a numeral is a digit. -/
theorem dec_digit (u : Nat) : ∀ c ∈ Lib.decDigits u, 48 ≤ c.toNat ∧ c.toNat ≤ 57 := by
  refine dec_ind (C := fun u => ∀ c ∈ Lib.decDigits u, 48 ≤ c.toNat ∧ c.toNat ≤ 57) ?_ ?_ u
  · intro u h c hc
    rw [dec_small u h] at hc
    obtain rfl := List.mem_singleton.1 hc
    rw [ofNat_toNat u h]; omega
  · intro u h ih c hc
    rw [dec_big u h] at hc
    rcases List.mem_append.1 hc with hc | hc
    · exact ih c hc
    · obtain rfl := List.mem_singleton.1 hc
      rw [ofNat_toNat _ (by omega)]; omega
theorem dec_ne (u : Nat) : Lib.decDigits u ≠ [] := by
  by_cases h : u < 10
  · rw [dec_small u h]; simp
  · rw [dec_big u h]; simp

/-- The value of digits. -/
def valN (a : Nat) (l : List UInt8) : Nat := l.foldl (fun a c => 10 * a + (c.toNat - 48)) a
theorem valN_append (a : Nat) (l : List UInt8) (c : UInt8) : valN a (l ++ [c]) = 10 * valN a l + (c.toNat - 48) := by
  unfold valN
  rw [List.foldl_append]
  rfl
theorem valN_one (a : Nat) (c : UInt8) : valN a [c] = 10 * a + (c.toNat - 48) := by
  unfold valN
  rw [List.foldl_cons, List.foldl_nil]
theorem valN_nil (a : Nat) : valN a [] = a := rfl
theorem valN_dec (u : Nat) : valN 0 (Lib.decDigits u) = u := by
  refine dec_ind (C := fun u => valN 0 (Lib.decDigits u) = u) ?_ ?_ u
  · intro u h
    rw [dec_small u h, valN_one, ofNat_toNat u h]; omega
  · intro u h ih
    rw [dec_big u h, valN_append, ih, ofNat_toNat _ (by omega)]; omega
theorem valN_take (l : List UInt8) (i : Nat) (h : i < l.length) : valN 0 (l.take (i + 1)) = 10 * valN 0 (l.take i) + (l[i].toNat - 48) := by
  rw [List.take_succ_eq_append_getElem h, valN_append]
theorem valN_lt (l : List UInt8) (hd : ∀ c ∈ l, c.toNat ≤ 57) (i : Nat) : valN 0 (l.take i) < 10 ^ i := by
  induction i with
  | zero => rw [List.take_zero, valN_nil]; decide
  | succ i ih =>
    by_cases h : i < l.length
    · rw [valN_take l i h]
      have := hd _ (List.getElem_mem h)
      rw [Nat.pow_succ]; omega
    · have e : l.take (i + 1) = l.take i := by rw [List.take_of_length_le (by omega), List.take_of_length_le (by omega)]
      rw [e]
      exact Nat.lt_of_lt_of_le ih (Nat.pow_le_pow_right (by omega) (by omega))

theorem itoa_pos (m : Int) (h : 0 ≤ m) : Lib.itoa m = Lib.decDigits m.toNat := by unfold Lib.itoa; rw [if_neg (by omega)]
theorem itoa_neg' (m : Int) (h : m < 0) : Lib.itoa m = 45 :: Lib.decDigits m.natAbs := by unfold Lib.itoa; rw [if_pos h]
theorem itoa_ne (m : Int) : Lib.itoa m ≠ [] := by
  by_cases h : m < 0
  · rw [itoa_neg' m h]; simp
  · rw [itoa_pos m (by omega)]; exact dec_ne _
theorem itoa_noslash (m : Int) : (47 : UInt8) ∉ Lib.itoa m := by
  intro hc
  by_cases h : m < 0
  · rw [itoa_neg' m h] at hc
    rcases List.mem_cons.1 hc with hc | hc
    · exact absurd hc (by decide)
    · have := dec_digit _ _ hc
      have e : (47 : UInt8).toNat = 47 := by decide
      omega
  · rw [itoa_pos m (by omega)] at hc
    have := dec_digit _ _ hc
    have e : (47 : UInt8).toNat = 47 := by decide
    omega

/-- What the model's l01Num finds: the sign, the digits behind it. -/
def digs (t : List UInt8) : List UInt8 := if t.head? = some 45 then t.tail else t
def sval (t : List UInt8) : Int := if t.head? = some 45 then -(valN 0 (digs t) : Int) else valN 0 (digs t)
theorem head_dec (u : Nat) : (Lib.decDigits u).head? ≠ some 45 := by
  intro h
  have hm := List.mem_of_head? h
  have := dec_digit _ _ hm
  have e : (45 : UInt8).toNat = 45 := by decide
  omega
theorem digs_itoa (m : Int) : digs (Lib.itoa m) = Lib.decDigits m.natAbs := by
  unfold digs
  by_cases h : m < 0
  · rw [itoa_neg' m h]; simp
  · rw [itoa_pos m (by omega), if_neg (head_dec _)]
    congr 1; omega
theorem sval_itoa (m : Int) : sval (Lib.itoa m) = m := by
  unfold sval
  rw [digs_itoa, valN_dec]
  by_cases h : m < 0
  · rw [itoa_neg' m h]; simp; omega
  · rw [itoa_pos m (by omega), if_neg (head_dec _)]; omega
theorem dec_length (u k : Nat) (hk : 0 < k) (h : u < 10 ^ k) : (Lib.decDigits u).length ≤ k := by
  induction k generalizing u with
  | zero => omega
  | succ k ih =>
    by_cases c : u < 10
    · rw [dec_small u c]; simp
    · rw [dec_big u c]
      have hk' : 0 < k := by
        rcases Nat.eq_zero_or_pos k with e | e
        · subst e; simp at h; omega
        · exact e
      have := ih (u / 10) hk' (by rw [Nat.pow_succ] at h; omega)
      simp; omega
theorem digs_len (m : Int) (h1 : -2147483647 ≤ m) (h2 : m ≤ 2147483647) : (digs (Lib.itoa m)).length ≤ 10 ∧ 1 ≤ (digs (Lib.itoa m)).length := by
  rw [digs_itoa]
  refine ⟨dec_length _ 10 (by omega) (by omega), ?_⟩
  have := dec_ne m.natAbs
  cases h : Lib.decDigits m.natAbs with
  | nil => exact absurd h this
  | cons a r => simp
theorem digs_digit (m : Int) : ∀ c ∈ digs (Lib.itoa m), 48 ≤ c.toNat ∧ c.toNat ≤ 57 := by
  rw [digs_itoa]; exact dec_digit _

/-- ParseInt of a numeral. -/
theorem parseM_append (M a : Nat) (l : List UInt8) (c : UInt8) (u : Nat) (h : Lib.parseUintM M a l = .ok u) (hc : 48 ≤ c.toNat ∧ c.toNat ≤ 57) (h1 : u < 1844674407370955162) (h2 : u * 10 + (c.toNat - 48) ≤ M) :
    Lib.parseUintM M a (l ++ [c]) = .ok (u * 10 + (c.toNat - 48)) := by
  induction l generalizing a with
  | nil =>
    simp only [Lib.parseUintM, Lib.NumEnd.ok.injEq] at h
    subst h
    simp only [List.nil_append, Lib.parseUintM]
    rw [if_pos hc, if_neg (by omega), if_neg (by omega)]
  | cons b r ih =>
    simp only [List.cons_append, Lib.parseUintM] at h ⊢
    by_cases k1 : 48 ≤ b.toNat ∧ b.toNat ≤ 57
    · rw [if_pos k1] at h ⊢
      by_cases k2 : 1844674407370955162 ≤ a
      · rw [if_pos k2] at h; cases h
      · rw [if_neg k2] at h ⊢
        by_cases k3 : M < a * 10 + (b.toNat - 48)
        · rw [if_pos k3] at h; cases h
        · rw [if_neg k3] at h ⊢
          exact ih _ h
    · rw [if_neg k1] at h; cases h
theorem parseM_dec (M u : Nat) (hM : 18446744073709551615 ≤ M) (hu : u ≤ 9223372036854775807) : Lib.parseUintM M 0 (Lib.decDigits u) = .ok u := by
  revert hu
  refine dec_ind (C := fun u => u ≤ 9223372036854775807 → Lib.parseUintM M 0 (Lib.decDigits u) = .ok u) ?_ ?_ u
  · intro u h _
    rw [dec_small u h]
    simp only [Lib.parseUintM]
    rw [ofNat_toNat u h, if_pos (by omega), if_neg (by omega), if_neg (by omega)]
    congr 1; omega
  · intro u h ih hu
    rw [dec_big u h]
    have e := ofNat_toNat (u % 10) (by omega)
    rw [parseM_append M 0 _ _ (u / 10) (ih (by omega)) (by rw [e]; omega) (by omega) (by rw [e]; omega), e]
    congr 1; omega
theorem parse_itoa (m : Int) (h1 : -2147483647 ≤ m) (h2 : m ≤ 2147483647) : Lib.parseIntB 64 (Lib.itoa m) = .ok m := by
  by_cases h : m < 0
  · rw [itoa_neg' m h]
    have e1 : (45 : UInt8).toNat = 45 := by decide
    simp only [Lib.parseIntB, e1]
    rw [if_pos (by simp)]
    unfold Lib.parseUintB
    rw [if_neg (dec_ne _), parseM_dec _ _ (by decide) (by omega)]
    simp only
    rw [if_neg (by simp), if_neg (by omega), if_pos trivial]
    congr 1; omega
  · rw [itoa_pos m (by omega)]
    cases hl : Lib.decDigits m.toNat with
    | nil => exact absurd hl (dec_ne _)
    | cons c r =>
      have hc := dec_digit m.toNat c (by rw [hl]; simp)
      simp only [Lib.parseIntB]
      rw [if_neg (by omega), ← hl]
      unfold Lib.parseUintB
      rw [if_neg (dec_ne _), parseM_dec _ _ (by decide) (by omega)]
      simp only
      rw [if_neg (by omega), if_neg (by omega), if_neg (by omega)]
      congr 1; omega

/-- A cut at the first slash. -/
theorem pre47 (b : UInt8) (l : List UInt8) : ([47] : List UInt8).isPrefixOf (b :: l) = (b == 47) := by
  simp only [List.isPrefixOf, Bool.and_true]
  cases hb : (b == 47)
  · rw [Bool.eq_false_iff] at hb ⊢
    intro h; apply hb
    simp at h ⊢; exact h.symm
  · simp at hb ⊢; exact hb.symm
theorem index_none (a : List UInt8) (h : (47 : UInt8) ∉ a) : Lib.index a [47] = -1 := by
  induction a with
  | nil => rfl
  | cons b r ih =>
    have hb : (b == 47) = false := by
      rw [Bool.eq_false_iff]; intro e; apply h; simp at e; simp [e]
    simp only [Lib.index]
    rw [pre47, hb, ih (fun e => h (List.mem_cons_of_mem _ e))]
    simp
theorem index_at (a b : List UInt8) (h : (47 : UInt8) ∉ a) : Lib.index (a ++ 47 :: b) [47] = a.length := by
  induction a with
  | nil => simp only [List.nil_append, Lib.index]; rw [pre47]; simp
  | cons x r ih =>
    have hb : (x == 47) = false := by
      rw [Bool.eq_false_iff]; intro e; apply h; simp at e; simp [e]
    simp only [List.cons_append, Lib.index]
    rw [pre47, hb, ih (fun e => h (List.mem_cons_of_mem _ e))]
    have : ¬ ((r.length : Int) = -1) := by omega
    simp [this]
theorem cut_none (a : List UInt8) (h : (47 : UInt8) ∉ a) : Lib.cut a [47] = (a, [], false) := by
  unfold Lib.cut; rw [index_none a h]; simp
theorem cut_at (a b : List UInt8) (h : (47 : UInt8) ∉ a) : Lib.cut (a ++ 47 :: b) [47] = (a, b, true) := by
  unfold Lib.cut; rw [index_at a b h]
  simp
theorem cut_len (a : List UInt8) : (Lib.cut a [47]).1.length ≤ a.length ∧ (Lib.cut a [47]).2.1.length ≤ a.length := by
  unfold Lib.cut
  split
  · simp; omega
  · simp

/-- What reading a text must give. -/
def ReadTo (t : List UInt8) (n d c : Int) : Prop :=
  (rightB n d = true ∧ textL n d = t ∧ c = 0) ∨ ((∀ n' d', rightB n' d' = true → textL n' d' ≠ t) ∧ n = 0 ∧ d = 0 ∧ c = 3)

theorem textL_cut (n d : Int) (h : rightB n d = true) : (d = 1 ∧ textL n d = Lib.itoa n ∧ Lib.cut (textL n d) [47] = (Lib.itoa n, [], false)) ∨ (d ≠ 1 ∧ textL n d = Lib.itoa n ++ 47 :: Lib.itoa d ∧ Lib.cut (textL n d) [47] = (Lib.itoa n, Lib.itoa d, true)) := by
  unfold textL
  rw [if_pos h]
  by_cases k : d = 1
  · rw [if_pos k]; exact Or.inl ⟨k, rfl, cut_none _ (itoa_noslash n)⟩
  · rw [if_neg k]; exact Or.inr ⟨k, rfl, cut_at _ _ (itoa_noslash n)⟩
theorem itoa_inj {n m : Int} (h : Lib.itoa n = Lib.itoa m) : n = m := by rw [← sval_itoa n, h, sval_itoa]
theorem textL_inj {n d n' d' : Int} (h : rightB n d = true) (h' : rightB n' d' = true) (e : textL n d = textL n' d') : n = n' ∧ d = d' := by
  rcases textL_cut n d h with ⟨k, _, c⟩ | ⟨k, _, c⟩ <;> rcases textL_cut n' d' h' with ⟨k', _, c'⟩ | ⟨k', _, c'⟩ <;> rw [e, c'] at c <;> simp at c
  · exact ⟨(itoa_inj c).symm, by omega⟩
  · exact ⟨(itoa_inj c.1).symm, (itoa_inj c.2).symm⟩
theorem readTo_unique {t : List UInt8} {n d c n' d' c' : Int} (h : ReadTo t n d c) (h' : ReadTo t n' d' c') : n = n' ∧ d = d' ∧ c = c' := by
  rcases h with ⟨r, e, k⟩ | ⟨r, e, k, l⟩ <;> rcases h' with ⟨r', e', k'⟩ | ⟨r', e', k', l'⟩
  · obtain ⟨a, b⟩ := textL_inj r r' (e.trans e'.symm)
    exact ⟨a, b, by omega⟩
  · exact absurd e (r' _ _ r)
  · exact absurd e' (r _ _ r')
  · exact ⟨by omega, by omega, by omega⟩
theorem right_of_text {n d : Int} (h : textL n d ≠ []) : rightB n d = true := by
  unfold textL at h
  cases hr : rightB n d
  · rw [hr] at h; simp at h
  · rfl
theorem textL_ne {n d : Int} (h : rightB n d = true) : textL n d ≠ [] := by
  rcases textL_cut n d h with ⟨_, e, _⟩ | ⟨_, e, _⟩ <;> rw [e]
  · exact itoa_ne n
  · simp
end M
end Go.Proofs.YtdlojhncbgfjbaaGreatDoor
