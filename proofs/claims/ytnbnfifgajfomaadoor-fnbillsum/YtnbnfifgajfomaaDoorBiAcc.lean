/-
  Accounts: mathematics.
-/
import Derived.Test.YtnbnfifgajfomaaDoorBiMath
namespace Go.Proofs.YtnbnfifgajfomaaDoor

namespace Bi
/-- What stands in an account: what is open, the eldest first, and its credit. -/
structure Ac where
  o : List Int
  c : Int
/-- What a payment leaves open, and what of it is left. -/
def payO : List Int → Int → List Int
  | [], _ => []
  | x :: xs, m => if x ≤ m then payO xs (m - x) else (x - m) :: xs
def payL : List Int → Int → Int
  | [], m => m
  | x :: xs, m => if x ≤ m then payL xs (m - x) else 0
def AllPos (l : List Int) : Prop := ∀ x ∈ l, 1 ≤ x ∧ x ≤ 1000000000
theorem payO_le {x m : Int} {xs : List Int} (h : x ≤ m) : payO (x :: xs) m = payO xs (m - x) := by show (if x ≤ m then _ else _) = _; rw [if_pos h]
theorem payL_le {x m : Int} {xs : List Int} (h : x ≤ m) : payL (x :: xs) m = payL xs (m - x) := by show (if x ≤ m then _ else _) = _; rw [if_pos h]
theorem payO_gt {x m : Int} {xs : List Int} (h : ¬ x ≤ m) : payO (x :: xs) m = (x - m) :: xs := by show (if x ≤ m then _ else _) = _; rw [if_neg h]
theorem payL_gt {x m : Int} {xs : List Int} (h : ¬ x ≤ m) : payL (x :: xs) m = 0 := by show (if x ≤ m then _ else _) = _; rw [if_neg h]
def isum : List Int → Int
  | [] => 0
  | x :: xs => x + isum xs
theorem isum_app (l : List Int) (x : Int) : isum (l ++ [x]) = isum l + x := by
  induction l with
  | nil => show x + 0 = 0 + x; omega
  | cons y ys ih => show y + isum (ys ++ [x]) = y + isum ys + x; rw [ih]; omega
theorem pay_facts : ∀ (l : List Int) (m : Int), AllPos l → 0 ≤ m → (AllPos (payO l m) ∧ (payO l m).length ≤ l.length) ∧ (0 ≤ payL l m ∧ payL l m ≤ m) ∧ (payO l m = [] ∨ payL l m = 0) ∧ isum (payO l m) - payL l m = isum l - m
  | [], m, _, hm => by
    refine ⟨⟨fun x hx => absurd hx List.not_mem_nil, Nat.le_refl _⟩, ⟨hm, Int.le_refl _⟩, Or.inl rfl, ?_⟩
    show (0 : Int) - m = 0 - m
    rfl
  | x :: xs, m, h, hm => by
    have hx := h x List.mem_cons_self
    have hxs : AllPos xs := fun y hy => h y (List.mem_cons_of_mem _ hy)
    by_cases k : x ≤ m
    · rw [payO_le k, payL_le k]
      obtain ⟨⟨a1, a2⟩, ⟨b1, b2⟩, c, d⟩ := pay_facts xs (m - x) hxs (by omega)
      refine ⟨⟨a1, by simp; omega⟩, ⟨b1, by omega⟩, c, ?_⟩
      show _ = x + isum xs - m
      omega
    · rw [payO_gt k, payL_gt k]
      refine ⟨⟨?_, by simp⟩, ⟨Int.le_refl _, hm⟩, Or.inr rfl, ?_⟩
      · intro y hy
        rcases List.mem_cons.1 hy with rfl | hy
        · omega
        · exact hxs y hy
      · show (x - m) + isum xs - 0 = x + isum xs - m
        omega
def billA (a : Ac) (m : Int) : Ac := ⟨if min a.c m < m then a.o ++ [m - min a.c m] else a.o, a.c - min a.c m⟩
def payA (a : Ac) (m : Int) : Ac := ⟨payO a.o m, a.c + payL a.o m⟩
def backA (a : Ac) (m : Int) : Ac := ⟨a.o, a.c - m⟩
def stepA (a : Ac) (k m : Int) : Ac := if k = 1 then billA a m else if k = 2 then payA a m else backA a m
theorem step1 (a : Ac) (m : Int) : stepA a 1 m = billA a m := rfl
theorem step2 (a : Ac) (m : Int) : stepA a 2 m = payA a m := rfl
theorem step3 (a : Ac) (m : Int) : stepA a 3 m = backA a m := rfl
def EntOk (k m : Int) : Prop := (1 ≤ k ∧ k ≤ 3) ∧ (1 ≤ m ∧ m ≤ 1000000000)
/-- The account behind so many entries (two numbers each). -/
def at_ (E : Nat → Int) : Nat → Ac
  | 0 => ⟨[], 0⟩
  | i + 1 => stepA (at_ E i) (E (i * 2)) (E (i * 2 + 1))
def OkAt (E : Nat → Int) (i : Nat) : Prop := EntOk (E (i * 2)) (E (i * 2 + 1)) ∧ (E (i * 2) = 3 → E (i * 2 + 1) ≤ (at_ E i).c)
def Good (E : Nat → Int) (n : Nat) : Prop := ∀ i, i < n → OkAt E i
/-- What an entry pays, what it bills. -/
def pd (E : Nat → Int) (i : Nat) : Int := if E (i * 2) = 2 then E (i * 2 + 1) else if E (i * 2) = 3 then - E (i * 2 + 1) else 0
def bld (E : Nat → Int) (i : Nat) : Int := if E (i * 2) = 1 then E (i * 2 + 1) else 0
/-- The money of all entries of a kind. -/
def tot (E : Nat → Int) (k : Int) : Nat → Int
  | 0 => 0
  | i + 1 => if E (i * 2) = k then tot E k i + E (i * 2 + 1) else tot E k i
structure Inv (a : Ac) (n : Nat) : Prop where
  pos : AllPos a.o
  len : a.o.length ≤ n
  c0 : 0 ≤ a.c
  c1 : a.c ≤ n * 1000000000
  one : a.o = [] ∨ a.c = 0
theorem step_inv {a : Ac} {n : Nat} {k m : Int} (h : Inv a n) (hk : EntOk k m) (h3 : k = 3 → m ≤ a.c) : Inv (stepA a k m) (n + 1) := by
  obtain ⟨p, l, c0, c1, one⟩ := h
  have e : ((n + 1 : Nat) : Int) * 1000000000 = n * 1000000000 + 1000000000 := by rw [Int.natCast_add, Int.add_mul]; rfl
  have hm := hk.2
  have hk3 : k = 1 ∨ k = 2 ∨ k = 3 := by have := hk.1; omega
  rcases hk3 with rfl | rfl | rfl
  · rw [step1]
    unfold billA
    by_cases q : min a.c m < m
    · simp only [if_pos q]
      refine ⟨?_, by simp; omega, by show 0 ≤ a.c - min a.c m; omega, by show a.c - min a.c m ≤ _; omega, Or.inr (by show a.c - min a.c m = 0; omega)⟩
      intro x hx
      rcases List.mem_append.1 hx with hx | hx
      · exact p x hx
      · rw [List.mem_singleton.1 hx]; omega
    · simp only [if_neg q]
      refine ⟨p, by show a.o.length ≤ _; omega, by show 0 ≤ a.c - min a.c m; omega, by show a.c - min a.c m ≤ _; omega, ?_⟩
      rcases one with h | h
      · exact Or.inl h
      · omega
  · rw [step2]
    obtain ⟨⟨a1, a2⟩, ⟨b1, b2⟩, c, d⟩ := pay_facts a.o m p (by omega)
    refine ⟨a1, by show (payO a.o m).length ≤ _; omega, by show 0 ≤ a.c + payL a.o m; omega, by show a.c + payL a.o m ≤ _; omega, ?_⟩
    rcases one with h | h
    · left; show payO a.o m = []; rw [h]; rfl
    · rcases c with c | c
      · exact Or.inl c
      · right; show a.c + payL a.o m = 0; omega
  · rw [step3]
    have := h3 rfl
    refine ⟨p, by show a.o.length ≤ _; omega, by show 0 ≤ a.c - m; omega, by show a.c - m ≤ _; omega, ?_⟩
    rcases one with h | h
    · exact Or.inl h
    · omega
theorem inv_at {E : Nat → Int} : ∀ n, Good E n → Inv (at_ E n) n
  | 0, _ => ⟨fun x hx => absurd hx List.not_mem_nil, Nat.le_refl _, Int.le_refl _, by show (0 : Int) ≤ _; simp, Or.inl rfl⟩
  | n + 1, h => step_inv (inv_at n (fun i hi => h i (by omega))) (h n (by omega)).1 (h n (by omega)).2
theorem step_book {a : Ac} {n : Nat} {E : Nat → Int} {i : Nat} (h : Inv a n) (hk : EntOk (E (i * 2)) (E (i * 2 + 1))) : isum (stepA a (E (i * 2)) (E (i * 2 + 1))).o - (stepA a (E (i * 2)) (E (i * 2 + 1))).c = isum a.o - a.c + bld E i - pd E i := by
  obtain ⟨p, l, c0, c1, one⟩ := h
  have hm := hk.2
  have hk3 := hk.1
  unfold bld pd
  generalize E (i * 2) = k at *
  generalize E (i * 2 + 1) = m at *
  have hk4 : k = 1 ∨ k = 2 ∨ k = 3 := by omega
  rcases hk4 with rfl | rfl | rfl
  · rw [step1]
    unfold billA
    by_cases q : min a.c m < m
    · simp only [if_pos q, isum_app]; simp; omega
    · simp only [if_neg q]; simp; omega
  · rw [step2]
    obtain ⟨_, _, _, d⟩ := pay_facts a.o m p (by omega)
    unfold payA
    simp
    omega
  · rw [step3]
    unfold backA
    simp
    omega
theorem at_book {E : Nat → Int} : ∀ n, Good E n → isum (at_ E n).o - (at_ E n).c = sum (bld E) n - sum (pd E) n
  | 0, _ => by show (0 : Int) - 0 = 0 - 0; rfl
  | n + 1, h => by
    have h1 := at_book n (fun i hi => h i (by omega))
    have h2 := step_book (E := E) (i := n) (inv_at n (fun i hi => h i (by omega))) (h n (by omega)).1
    show isum (stepA (at_ E n) (E (n * 2)) (E (n * 2 + 1))).o - (stepA (at_ E n) (E (n * 2)) (E (n * 2 + 1))).c = sum (bld E) n + bld E n - (sum (pd E) n + pd E n)
    omega
theorem tot_bd {E : Nat → Int} {k : Int} : ∀ n : Nat, Good E n → 0 ≤ tot E k n ∧ tot E k n ≤ n * 1000000000
  | 0, _ => ⟨Int.le_refl _, by show (0 : Int) ≤ _; simp⟩
  | n + 1, h => by
    have h1 := tot_bd (E := E) (k := k) n (fun i hi => h i (by omega))
    have h2 := (h n (by omega)).1.2
    have e : ((n + 1 : Nat) : Int) * 1000000000 = n * 1000000000 + 1000000000 := by rw [Int.natCast_add, Int.add_mul]; rfl
    show 0 ≤ (if E (n * 2) = k then tot E k n + E (n * 2 + 1) else tot E k n) ∧ (if E (n * 2) = k then tot E k n + E (n * 2 + 1) else tot E k n) ≤ _
    rw [e]
    split <;> omega
theorem tot_pd {E : Nat → Int} : ∀ n : Nat, tot E 2 n - tot E 3 n = sum (pd E) n
  | 0 => rfl
  | n + 1 => by
    have h := tot_pd (E := E) n
    show (if E (n * 2) = 2 then tot E 2 n + E (n * 2 + 1) else tot E 2 n) - (if E (n * 2) = 3 then tot E 3 n + E (n * 2 + 1) else tot E 3 n) = sum (pd E) n + pd E n
    unfold pd at *
    by_cases c2 : E (n * 2) = 2
    · rw [c2]; simp; omega
    · by_cases c3 : E (n * 2) = 3
      · rw [c3]; simp; omega
      · simp [c2, c3]; omega
theorem pd_bd {E : Nat → Int} : ∀ n : Nat, Good E n → - (n * 1000000000) ≤ sum (pd E) n ∧ sum (pd E) n ≤ n * 1000000000 := by
  intro n h
  have h1 := tot_bd (k := 2) n h
  have h2 := tot_bd (k := 3) n h
  rw [← tot_pd]
  omega
theorem bld_bd {E : Nat → Int} (n : Nat) (h : Good E n) : 0 ≤ sum (bld E) n ∧ sum (bld E) n ≤ n * 1000000000 :=
  sum_bd n (fun i hi => by
    have := (h i hi).1.2
    unfold bld
    split <;> omega)
/-- The first fault's code. -/
noncomputable def codeAt (E : Nat → Int) (i : Nat) : Int := if dB (EntOk (E (i * 2)) (E (i * 2 + 1))) = true then 9 else 1
theorem codeAt_form {E : Nat → Int} {i : Nat} (h : ¬ EntOk (E (i * 2)) (E (i * 2 + 1))) : codeAt E i = 1 := by unfold codeAt; rw [dB_ff h]; rfl
theorem codeAt_state {E : Nat → Int} {i : Nat} (h : EntOk (E (i * 2)) (E (i * 2 + 1))) : codeAt E i = 9 := by unfold codeAt; rw [dB_tt h]; rfl
/-- What is told: the fault's code, or nought. -/
def First (E : Nat → Int) (n i : Nat) : Prop := i < n ∧ Good E i ∧ ¬ OkAt E i
theorem first_one {E : Nat → Int} {n i j : Nat} (h1 : First E n i) (h2 : First E n j) : i = j := by
  rcases Nat.lt_trichotomy i j with h | h | h
  · exact absurd (h2.2.1 i h) h1.2.2
  · exact h
  · exact absurd (h1.2.1 j h) h2.2.2
open Classical in
noncomputable def code (E : Nat → Int) (n : Nat) : Int := if 100 < n then 2 else if h : ∃ i, First E n i then codeAt E (Classical.choose h) else 0
theorem code_big {E : Nat → Int} {n : Nat} (h : 100 < n) : code E n = 2 := by unfold code; rw [if_pos h]
theorem code_first {E : Nat → Int} {n i : Nat} (h : ¬ 100 < n) (hf : First E n i) : code E n = codeAt E i := by
  unfold code
  rw [if_neg h, dif_pos ⟨i, hf⟩]
  rw [first_one (Classical.choose_spec (⟨i, hf⟩ : ∃ i, First E n i)) hf]
theorem code_good {E : Nat → Int} {n : Nat} (h : ¬ 100 < n) (hg : Good E n) : code E n = 0 := by
  unfold code
  rw [if_neg h, dif_neg]
  rintro ⟨i, hi, _, hn⟩
  exact hn (hg i hi)
theorem good_of {E : Nat → Int} {n : Nat} (h : code E n = 0) : n ≤ 100 ∧ Good E n := by
  by_cases k : 100 < n
  · rw [code_big k] at h; omega
  · refine ⟨by omega, ?_⟩
    apply Classical.byContradiction
    intro hg
    have : ∃ i, First E n i := by
      have hx : ∃ i, i < n ∧ ¬ OkAt E i := by
        apply Classical.byContradiction
        intro hh
        exact hg (fun i hi => Classical.byContradiction (fun hn => hh ⟨i, hi, hn⟩))
      obtain ⟨i, hi, hn⟩ := hx
      clear h k hg
      induction i using Nat.strongRecOn with
      | _ i ih =>
        by_cases hb : ∃ j, j < i ∧ ¬ OkAt E j
        · obtain ⟨j, hj, hnj⟩ := hb
          exact ih j hj (by omega) hnj
        · exact ⟨i, hi, fun j hj => Classical.byContradiction (fun hn => hb ⟨j, hj, hn⟩), hn⟩
    obtain ⟨i, hi⟩ := this
    rw [code_first k hi] at h
    unfold codeAt at h
    split at h <;> omega
/-- What an answer holds. -/
noncomputable def ansO (E : Nat → Int) (n : Nat) : List Int := if code E n = 0 then (at_ E n).o else []
noncomputable def ansC (E : Nat → Int) (n : Nat) : Int := if code E n = 0 then (at_ E n).c else 0
noncomputable def ansP (E : Nat → Int) (n : Nat) : Int := if code E n = 0 then sum (pd E) n else 0
end Bi
end Go.Proofs.YtnbnfifgajfomaaDoor
