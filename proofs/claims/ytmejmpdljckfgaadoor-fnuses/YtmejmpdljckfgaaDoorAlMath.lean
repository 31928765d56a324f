/-
  Alarms: what is right, what an act does, runs of acts, rings, the first one out: mathematics.
-/
import Derived.Lib.Hide
namespace Go.Proofs.YtmejmpdljckfgaaDoor

namespace Al
/-- An alarm: its limits, its delay, its state, its count, for how many values it is put off. -/
structure A where
  hi : Int
  lo : Int
  dl : Int
  st : Int
  ct : Int
  sh : Int
def V (v : Int) : Prop := -1000000 ≤ v ∧ v ≤ 1000000
instance (v : Int) : Decidable (V v) := inferInstanceAs (Decidable (_ ∧ _))
def Right (a : A) : Prop := a.lo ≤ a.hi ∧ V a.lo ∧ V a.hi ∧ (0 ≤ a.dl ∧ a.dl ≤ 100) ∧ (0 ≤ a.ct ∧ a.ct ≤ a.dl) ∧ (1 ≤ a.st ∧ a.st ≤ 4) ∧ (0 ≤ a.sh ∧ a.sh ≤ 1000)
instance (a : A) : Decidable (Right a) := inferInstanceAs (Decidable (_ ∧ _))
def ActOk (k v : Int) : Prop := (1 ≤ k ∧ k ≤ 3) ∧ V v
instance (k v : Int) : Decidable (ActOk k v) := inferInstanceAs (Decidable (_ ∧ _))
/-- It is seen. -/
def see (a : A) : A := if a.st = 2 then ⟨a.hi, a.lo, a.dl, 3, a.ct, a.sh⟩ else if a.st = 4 then ⟨a.hi, a.lo, a.dl, 1, a.ct, a.sh⟩ else a
/-- It is put off. -/
def shelve (a : A) (v : Int) : A := if 0 ≤ v ∧ v ≤ 1000 then ⟨a.hi, a.lo, a.dl, a.st, a.ct, v⟩ else a
/-- It takes a value. -/
def quiet (a : A) (v : Int) : A := if a.lo ≤ v then a else if a.st = 2 then ⟨a.hi, a.lo, a.dl, 4, a.ct, a.sh⟩ else ⟨a.hi, a.lo, a.dl, 1, a.ct, a.sh⟩
def loud (a : A) (v : Int) : A := if v ≤ a.hi then ⟨a.hi, a.lo, a.dl, a.st, 0, a.sh⟩ else if a.ct < a.dl then ⟨a.hi, a.lo, a.dl, a.st, a.ct + 1, a.sh⟩ else ⟨a.hi, a.lo, a.dl, 2, 0, a.sh⟩
def take (a : A) (v : Int) : A := if 0 < a.sh then ⟨a.hi, a.lo, a.dl, a.st, 0, a.sh - 1⟩ else if a.st = 2 ∨ a.st = 3 then quiet a v else loud a v
def meet (a : A) (k v : Int) : A := if k = 1 then take a v else if k = 2 then see a else if k = 3 then shelve a v else a
def act (a : A) (k v : Int) : A := if Right a ∧ ActOk k v then meet a k v else a
theorem see_right {a : A} (h : Right a) : Right (see a) := by
  obtain ⟨h1, h2, h3, h4, h5, h6, h7⟩ := h
  unfold see
  split
  · exact ⟨h1, h2, h3, h4, h5, ⟨by show (1 : Int) ≤ 3; omega, by show (3 : Int) ≤ 4; omega⟩, h7⟩
  · split
    · exact ⟨h1, h2, h3, h4, h5, ⟨by show (1 : Int) ≤ 1; omega, by show (1 : Int) ≤ 4; omega⟩, h7⟩
    · exact ⟨h1, h2, h3, h4, h5, h6, h7⟩
theorem shelve_right {a : A} {v : Int} (h : Right a) : Right (shelve a v) := by
  obtain ⟨h1, h2, h3, h4, h5, h6, h7⟩ := h
  unfold shelve
  split
  · exact ⟨h1, h2, h3, h4, h5, h6, by assumption⟩
  · exact ⟨h1, h2, h3, h4, h5, h6, h7⟩
theorem take_right {a : A} {v : Int} (h : Right a) : Right (take a v) := by
  obtain ⟨h1, h2, h3, h4, h5, h6, h7⟩ := h
  unfold take
  split
  · exact ⟨h1, h2, h3, h4, ⟨by show (0 : Int) ≤ 0; omega, by show (0 : Int) ≤ a.dl; omega⟩, h6, ⟨by show 0 ≤ a.sh - 1; omega, by show a.sh - 1 ≤ 1000; omega⟩⟩
  · split
    · unfold quiet
      split
      · exact ⟨h1, h2, h3, h4, h5, h6, h7⟩
      · split
        · exact ⟨h1, h2, h3, h4, h5, ⟨by show (1 : Int) ≤ 4; omega, by show (4 : Int) ≤ 4; omega⟩, h7⟩
        · exact ⟨h1, h2, h3, h4, h5, ⟨by show (1 : Int) ≤ 1; omega, by show (1 : Int) ≤ 4; omega⟩, h7⟩
    · unfold loud
      split
      · exact ⟨h1, h2, h3, h4, ⟨by show (0 : Int) ≤ 0; omega, by show (0 : Int) ≤ a.dl; omega⟩, h6, h7⟩
      · split
        · exact ⟨h1, h2, h3, h4, ⟨by show (0 : Int) ≤ a.ct + 1; omega, by show a.ct + 1 ≤ a.dl; omega⟩, h6, h7⟩
        · exact ⟨h1, h2, h3, h4, ⟨by show (0 : Int) ≤ 0; omega, by show (0 : Int) ≤ a.dl; omega⟩, ⟨by show (1 : Int) ≤ 2; omega, by show (2 : Int) ≤ 4; omega⟩, h7⟩
theorem meet_right {a : A} {k v : Int} (h : Right a) : Right (meet a k v) := by
  unfold meet
  split
  · exact take_right h
  · split
    · exact see_right h
    · split
      · exact shelve_right h
      · exact h
theorem act_yes {a : A} {k v : Int} (h : Right a) (h2 : ActOk k v) : act a k v = meet a k v := by unfold act; rw [if_pos ⟨h, h2⟩]
theorem act_no {a : A} {k v : Int} (h : ¬ (Right a ∧ ActOk k v)) : act a k v = a := by unfold act; rw [if_neg h]
theorem meet1 (a : A) (v : Int) : meet a 1 v = take a v := rfl
theorem meet2 (a : A) (v : Int) : meet a 2 v = see a := rfl
theorem meet3 (a : A) (v : Int) : meet a 3 v = shelve a v := rfl
/-- An alarm behind so many acts (each of two numbers). -/
def run (a : A) (P : Nat → Int) : Nat → A
  | 0 => a
  | i + 1 => meet (run a P i) (P (i * 2)) (P (i * 2 + 1))
theorem run_right {a : A} (h : Right a) (P : Nat → Int) : ∀ i, Right (run a P i)
  | 0 => h
  | i + 1 => meet_right (run_right h P i)
/-- The rings of so many acts. -/
def rings (a : A) (P : Nat → Int) : Nat → List (Int × Int)
  | 0 => []
  | i + 1 => if (run a P (i + 1)).st = (run a P i).st then rings a P i else rings a P i ++ [((i : Int), (run a P (i + 1)).st)]
theorem rings_len (a : A) (P : Nat → Int) : ∀ i, (rings a P i).length ≤ i
  | 0 => Nat.le_refl _
  | i + 1 => by
    have := rings_len a P i
    unfold rings
    split
    · omega
    · simp; omega
theorem rings_same {a : A} {P : Nat → Int} {i : Nat} (h : (meet (run a P i) (P (i * 2)) (P (i * 2 + 1))).st = (run a P i).st) : rings a P (i + 1) = rings a P i := by
  show (if _ then _ else _) = _
  rw [if_pos (show (run a P (i + 1)).st = _ from h)]
theorem rings_more {a : A} {P : Nat → Int} {i : Nat} (h : ¬ (meet (run a P i) (P (i * 2)) (P (i * 2 + 1))).st = (run a P i).st) : rings a P (i + 1) = rings a P i ++ [((i : Int), (meet (run a P i) (P (i * 2)) (P (i * 2 + 1))).st)] := by
  show (if _ then _ else _) = _
  rw [if_neg (show ¬ (run a P (i + 1)).st = _ from h)]
  rfl
/-- A run goes well. -/
def RunOk (a : A) (P : Nat → Int) (n : Nat) : Prop := Right a ∧ ∀ i, i < n → ActOk (P (i * 2)) (P (i * 2 + 1))
def runC (n : Nat) : Int := if 300 < n then 2 else 1
theorem runC_big {n : Nat} (h : 300 < n) : runC n = 2 := by unfold runC; rw [if_pos h]
theorem runC_no {n : Nat} (h : ¬ 300 < n) : runC n = 1 := by unfold runC; rw [if_neg h]
/-- Values between the limits turn nothing. -/
theorem take_calm {a : A} {v : Int} (h1 : a.lo ≤ v) (h2 : v ≤ a.hi) : (take a v).st = a.st ∧ (take a v).hi = a.hi ∧ (take a v).lo = a.lo := by
  unfold take
  split
  · exact ⟨rfl, rfl, rfl⟩
  · split
    · unfold quiet; rw [if_pos h1]; exact ⟨rfl, rfl, rfl⟩
    · unfold loud; rw [if_pos h2]; exact ⟨rfl, rfl, rfl⟩
theorem run_calm {a : A} {P : Nat → Int} {n : Nat} (hk : ∀ i, i < n → P (i * 2) = 1) (h : ∀ i, i < n → a.lo ≤ P (i * 2 + 1) ∧ P (i * 2 + 1) ≤ a.hi) : ∀ i, i ≤ n → ((run a P i).st = a.st ∧ (run a P i).hi = a.hi ∧ (run a P i).lo = a.lo) ∧ rings a P i = [] := by
  intro i
  induction i with
  | zero => intro _; exact ⟨⟨rfl, rfl, rfl⟩, rfl⟩
  | succ i ih =>
    intro hi
    obtain ⟨⟨e1, e2, e3⟩, er⟩ := ih (by omega)
    have q := h i (by omega)
    have e : run a P (i + 1) = take (run a P i) (P (i * 2 + 1)) := by show meet _ _ _ = _; rw [hk i (by omega)]; rfl
    have c := take_calm (a := run a P i) (v := P (i * 2 + 1)) (by omega) (by omega)
    rw [← e] at c
    refine ⟨⟨by omega, by omega, by omega⟩, ?_⟩
    rw [rings_same (show (run a P (i + 1)).st = _ from c.1)]
    exact er
/-- Loud values raise an alarm that is at rest and not put off. -/
theorem run_loud {a : A} {P : Nat → Int} {n : Nat} (hr : Right a) (h1 : a.st = 1) (h0 : a.sh = 0) (hk : ∀ i, i < n → P (i * 2) = 1) (h : ∀ i, i < n → P (i * 2 + 1) = a.hi + 1) :
    ∀ i, i ≤ n → (run a P i).sh = 0 ∧ (run a P i).hi = a.hi ∧ (run a P i).lo = a.lo ∧ (run a P i).dl = a.dl ∧ ((run a P i).st = 2 ∨ ((run a P i).st = 1 ∧ (run a P i).ct = a.ct + (i : Int))) := by
  intro i
  induction i with
  | zero => intro _; exact ⟨h0, rfl, rfl, rfl, Or.inr ⟨h1, by show a.ct = a.ct + ((0 : Nat) : Int); omega⟩⟩
  | succ i ih =>
    intro hi
    obtain ⟨e0, e1, e2, e3, er⟩ := ih (by omega)
    have q := h i (by omega)
    have hl := hr.1
    have e : run a P (i + 1) = take (run a P i) (P (i * 2 + 1)) := by show meet _ _ _ = _; rw [hk i (by omega)]; rfl
    rw [e]
    unfold take
    rw [if_neg (by omega)]
    rcases er with er | ⟨er, ec⟩
    · rw [if_pos (Or.inl er)]
      unfold quiet
      rw [if_pos (by omega)]
      exact ⟨e0, e1, e2, e3, Or.inl er⟩
    · rw [if_neg (by omega)]
      unfold loud
      rw [if_neg (by omega)]
      split
      · exact ⟨e0, e1, e2, e3, Or.inr ⟨er, by show (run a P i).ct + 1 = a.ct + ((i + 1 : Nat) : Int); omega⟩⟩
      · exact ⟨e0, e1, e2, e3, Or.inl rfl⟩
theorem loud_raised {a : A} {P : Nat → Int} {n : Nat} (hr : Right a) (h1 : a.st = 1) (h0 : a.sh = 0) (hk : ∀ i, i < n → P (i * 2) = 1) (h : ∀ i, i < n → P (i * 2 + 1) = a.hi + 1) (hn : (n : Int) = a.dl + 1) : (run a P n).st = 2 := by
  have q := (run_loud hr h1 h0 hk h n (Nat.le_refl _)).2.2.2
  rcases q.2 with q2 | ⟨q2, q3⟩
  · exact q2
  · have r := run_right hr P n
    have r1 := r.2.2.2.2.1.2
    have r2 := hr.2.2.2.2.1.1
    omega
/-- How a state may follow another one. -/
def Fol (x y : Int) : Prop := (x = 1 ∧ y = 2) ∨ (x = 2 ∧ (y = 3 ∨ y = 4)) ∨ (x = 3 ∧ y = 1) ∨ (x = 4 ∧ (y = 2 ∨ y = 1))
instance (x y : Int) : Decidable (Fol x y) := inferInstanceAs (Decidable (_ ∨ _))
/-- The place and the state ahead of a ring. -/
def ahA (R : Nat → Int) (i : Nat) : Int := if i = 0 then -1 else R ((i - 1) * 2)
def ahS (R : Nat → Int) (i : Nat) : Int := if i = 0 then 1 else R ((i - 1) * 2 + 1)
theorem ahA_succ (R : Nat → Int) (i : Nat) : ahA R (i + 1) = R (i * 2) := by unfold ahA; rw [if_neg (by omega), show i + 1 - 1 = i by omega]
theorem ahS_succ (R : Nat → Int) (i : Nat) : ahS R (i + 1) = R (i * 2 + 1) := by unfold ahS; rw [if_neg (by omega), show i + 1 - 1 = i by omega]
def RingAt (R : Nat → Int) (i : Nat) : Prop := ahA R i < R (i * 2) ∧ R (i * 2) < 300 ∧ Fol (ahS R i) (R (i * 2 + 1))
instance (R : Nat → Int) (i : Nat) : Decidable (RingAt R i) := inferInstanceAs (Decidable (_ ∧ _))
def RingsOk (R : Nat → Int) (n : Nat) : Prop := n ≤ 300 ∧ ∀ i, i < n → RingAt R i
theorem ahS_in {R : Nat → Int} {n : Nat} (h : ∀ j, j < n → RingAt R j) : 1 ≤ ahS R n ∧ ahS R n ≤ 4 := by
  cases n with
  | zero => exact ⟨Int.le_refl _, by show (1 : Int) ≤ 4; omega⟩
  | succ n =>
    have q := (h n (by omega)).2.2
    rw [ahS_succ]
    unfold Fol at q
    omega
theorem ahA_nn {R : Nat → Int} {n : Nat} (h : ∀ j, j < n → RingAt R j) : -1 ≤ ahA R n ∧ (n ≠ 0 → 0 ≤ ahA R n) ∧ ahA R n < 300 := by
  induction n with
  | zero => exact ⟨Int.le_refl _, fun h => absurd rfl h, by show (-1 : Int) < 300; omega⟩
  | succ n ih =>
    have q := h n (by omega)
    have p := ih (fun j hj => h j (by omega))
    unfold RingAt at q
    rw [ahA_succ]
    omega
/-- An alarm of a list that is told number by number. -/
def al (Q : Nat → Int) (i : Nat) : A := ⟨Q (i * 6), Q (i * 6 + 1), Q (i * 6 + 2), Q (i * 6 + 3), Q (i * 6 + 4), Q (i * 6 + 5)⟩
/-- An alarm behind so many values. -/
def tk (a : A) (v : Nat → Int) : Nat → A
  | 0 => a
  | i + 1 => take (tk a v i) (v i)
theorem tk_right {a : A} (h : Right a) (v : Nat → Int) : ∀ i, Right (tk a v i)
  | 0 => h
  | i + 1 => take_right (tk_right h v i)
/-- A value raises it. -/
def Rai (a : A) (v : Nat → Int) (m j : Nat) : Prop := j < m ∧ ¬ (tk a v j).st = 2 ∧ (tk a v (j + 1)).st = 2
instance (a : A) (v : Nat → Int) (m j : Nat) : Decidable (Rai a v m j) := inferInstanceAs (Decidable (_ ∧ _))
/-- The first one out among those of the given places. -/
def First (S : Nat → Nat → Prop) (r : Int) : Prop := (r = -1 ∧ ∀ i j, ¬ S i j) ∨ ∃ i j : Nat, r = (i : Int) ∧ S i j ∧ ∀ i' j', S i' j' → j < j' ∨ (j = j' ∧ i ≤ i')
theorem First.one {S : Nat → Nat → Prop} {r s : Int} (h : First S r) (k : First S s) : r = s := by
  rcases h with ⟨h1, h2⟩ | ⟨i, j, h1, h2, h3⟩
  · rcases k with ⟨k1, k2⟩ | ⟨i', j', k1, k2, k3⟩
    · omega
    · exact absurd k2 (h2 _ _)
  · rcases k with ⟨k1, k2⟩ | ⟨i', j', k1, k2, k3⟩
    · exact absurd h2 (k2 _ _)
    · have a := h3 _ _ k2
      have b := k3 _ _ h2
      omega
/-- All is right that FirstOut is handed. -/
def PanelOk (Q : Nat → Int) (N : Nat) (LN : Nat → Nat) (L : Nat → Nat → Int) (M : Nat) : Prop := N ≤ 20 ∧ M = N ∧ (∀ i, i < N → Right (al Q i)) ∧ ∀ i, i < N → LN i ≤ 300 ∧ ∀ j, j < LN i → V (L i j)
def Sr (Q : Nat → Int) (N : Nat) (LN : Nat → Nat) (L : Nat → Nat → Int) (i j : Nat) : Prop := i < N ∧ Rai (al Q i) (L i) (LN i) j
/-- The answer of FirstOut. -/
def FoEnd (Q : Nat → Int) (N : Nat) (LN : Nat → Nat) (L : Nat → Nat → Int) (M : Nat) (r : Int) : Prop :=
  ((400 < N ∨ 400 < M) ∧ r = 0) ∨ (¬ (400 < N ∨ 400 < M) ∧ ¬ PanelOk Q N LN L M ∧ r = -1) ∨ (¬ (400 < N ∨ 400 < M) ∧ PanelOk Q N LN L M ∧ First (Sr Q N LN L) r)
theorem FoEnd.one {Q : Nat → Int} {N : Nat} {LN : Nat → Nat} {L : Nat → Nat → Int} {M : Nat} {r s : Int} (h : FoEnd Q N LN L M r) (k : FoEnd Q N LN L M s) : r = s := by
  rcases h with ⟨h1, h2⟩ | ⟨h1, h2, h3⟩ | ⟨h1, h2, h3⟩
  · rcases k with ⟨k1, k2⟩ | ⟨k1, k2, k3⟩ | ⟨k1, k2, k3⟩
    · omega
    · exact absurd h1 k1
    · exact absurd h1 k1
  · rcases k with ⟨k1, k2⟩ | ⟨k1, k2, k3⟩ | ⟨k1, k2, k3⟩
    · exact absurd k1 h1
    · omega
    · exact absurd k2 h2
  · rcases k with ⟨k1, k2⟩ | ⟨k1, k2, k3⟩ | ⟨k1, k2, k3⟩
    · exact absurd k1 h1
    · exact absurd h2 k2
    · exact h3.one k3
/-- The model goes alarm by alarm: the first one out of the first n of them, and the place of its value. -/
def Up (Q : Nat → Int) (LN : Nat → Nat) (L : Nat → Nat → Int) (n : Nat) (b l : Int) : Prop :=
  (b = -1 ∧ ∀ i j, i < n → ¬ Rai (al Q i) (L i) (LN i) j) ∨ ∃ i j : Nat, i < n ∧ b = (i : Int) ∧ l = (j : Int) ∧ Rai (al Q i) (L i) (LN i) j ∧ ∀ i' j', i' < n → Rai (al Q i') (L i') (LN i') j' → j < j' ∨ (j = j' ∧ i ≤ i')
theorem Up.zero (Q : Nat → Int) (LN : Nat → Nat) (L : Nat → Nat → Int) (l : Int) : Up Q LN L 0 (-1) l := Or.inl ⟨rfl, fun _ _ h => absurd h (Nat.not_lt_zero _)⟩
section
variable {Q : Nat → Int} {LN : Nat → Nat} {L : Nat → Nat → Int} {n : Nat} {b l : Int}
theorem Up.none (h : Up Q LN L n b l) (k : ∀ j, ¬ Rai (al Q n) (L n) (LN n) j) : Up Q LN L (n + 1) b l := by
  rcases h with ⟨h1, h2⟩ | ⟨i, j, h1, h2, h3, h4, h5⟩
  · refine Or.inl ⟨h1, fun i j hi => ?_⟩
    by_cases e : i = n
    · subst e; exact k j
    · exact h2 i j (by omega)
  · refine Or.inr ⟨i, j, by omega, h2, h3, h4, fun i' j' hi' q => ?_⟩
    by_cases e : i' = n
    · subst e; exact absurd q (k j')
    · exact h5 i' j' (by omega) q
theorem Up.new {j : Nat} (h : Up Q LN L n b l) (hr : Rai (al Q n) (L n) (LN n) j) (hf : ∀ j', j' < j → ¬ Rai (al Q n) (L n) (LN n) j') (hb : b = -1 ∨ (j : Int) < l) : Up Q LN L (n + 1) (n : Int) (j : Int) := by
  refine Or.inr ⟨n, j, by omega, rfl, rfl, hr, fun i' j' hi' q => ?_⟩
  by_cases e : i' = n
  · subst e
    have : ¬ j' < j := fun h => hf j' h q
    omega
  · rcases h with ⟨h1, h2⟩ | ⟨i, k, h1, h2, h3, h4, h5⟩
    · exact absurd q (h2 i' j' (by omega))
    · have := h5 i' j' (by omega) q
      omega
theorem Up.old {j : Nat} (h : Up Q LN L n b l) (hf : ∀ j', j' < j → ¬ Rai (al Q n) (L n) (LN n) j') (hb : ¬ b = -1) (hl : ¬ (j : Int) < l) : Up Q LN L (n + 1) b l := by
  rcases h with ⟨h1, h2⟩ | ⟨i, k, h1, h2, h3, h4, h5⟩
  · exact absurd h1 hb
  · refine Or.inr ⟨i, k, by omega, h2, h3, h4, fun i' j' hi' q => ?_⟩
    by_cases e : i' = n
    · subst e
      have : ¬ j' < j := fun h => hf j' h q
      omega
    · exact h5 i' j' (by omega) q
theorem Up.first {N : Nat} (h : Up Q LN L N b l) : First (Sr Q N LN L) b := by
  rcases h with ⟨h1, h2⟩ | ⟨i, j, h1, h2, h3, h4, h5⟩
  · exact Or.inl ⟨h1, fun i j q => h2 i j q.1 q.2⟩
  · exact Or.inr ⟨i, j, h2, ⟨h1, h4⟩, fun i' j' q => h5 i' j' q.1 q.2⟩
end
/-- The program goes value by value: what is noted ahead of alarm p's value t. -/
def Seen (Q : Nat → Int) (N : Nat) (LN : Nat → Nat) (L : Nat → Nat → Int) (t p : Nat) (i j : Nat) : Prop := Sr Q N LN L i j ∧ (j < t ∨ (j = t ∧ i < p))
theorem seen_row {Q : Nat → Int} {N : Nat} {LN : Nat → Nat} {L : Nat → Nat → Int} {t : Nat} {r : Int} (h : First (Seen Q N LN L t N) r) : First (Seen Q N LN L (t + 1) 0) r := by
  have e : Seen Q N LN L (t + 1) 0 = Seen Q N LN L t N := by
    funext i j
    refine propext ⟨fun h => ⟨h.1, ?_⟩, fun h => ⟨h.1, ?_⟩⟩
    · have := h.1.1; have := h.2; omega
    · have := h.2; omega
  rw [e]; exact h
theorem seen_start (Q : Nat → Int) (N : Nat) (LN : Nat → Nat) (L : Nat → Nat → Int) : First (Seen Q N LN L 0 0) (-1) := Or.inl ⟨rfl, fun i j h => by have := h.2; omega⟩
theorem seen_same {Q : Nat → Int} {N : Nat} {LN : Nat → Nat} {L : Nat → Nat → Int} {t p : Nat} {r : Int} (h : First (Seen Q N LN L t p) r) (k : ¬ Sr Q N LN L p t) : First (Seen Q N LN L t (p + 1)) r := by
  have e : Seen Q N LN L t (p + 1) = Seen Q N LN L t p := by
    funext i j
    refine propext ⟨fun h => ⟨h.1, ?_⟩, fun h => ⟨h.1, ?_⟩⟩
    · rcases h.2 with q | ⟨q1, q2⟩
      · exact Or.inl q
      · by_cases e : i = p
        · subst e; subst q1; exact absurd h.1 k
        · exact Or.inr ⟨q1, by omega⟩
    · have := h.2; omega
  rw [e]; exact h
theorem seen_new {Q : Nat → Int} {N : Nat} {LN : Nat → Nat} {L : Nat → Nat → Int} {t p : Nat} (h : First (Seen Q N LN L t p) (-1)) (k : Sr Q N LN L p t) : First (Seen Q N LN L t (p + 1)) (p : Int) := by
  rcases h with ⟨_, h2⟩ | ⟨i, j, h1, _⟩
  · refine Or.inr ⟨p, t, rfl, ⟨k, Or.inr ⟨rfl, by omega⟩⟩, fun i j q => ?_⟩
    have n := h2 i j
    have : ¬ (j < t ∨ (j = t ∧ i < p)) := fun e => n ⟨q.1, e⟩
    have := q.2
    omega
  · omega
theorem seen_more {Q : Nat → Int} {N : Nat} {LN : Nat → Nat} {L : Nat → Nat → Int} {t p : Nat} {r : Int} (h : First (Seen Q N LN L t p) r) (hr : ¬ r = -1) : First (Seen Q N LN L t (p + 1)) r := by
  rcases h with ⟨h1, h2⟩ | ⟨i, j, h1, h2, h3⟩
  · exact absurd h1 hr
  · refine Or.inr ⟨i, j, h1, ⟨h2.1, by have := h2.2; omega⟩, fun i' j' q => ?_⟩
    by_cases e : j' < t ∨ (j' = t ∧ i' < p)
    · exact h3 i' j' ⟨q.1, e⟩
    · have := h2.2; have := q.2; omega
theorem seen_end {Q : Nat → Int} {N : Nat} {LN : Nat → Nat} {L : Nat → Nat → Int} {r : Int} (hl : ∀ i, i < N → LN i ≤ 300) (h : First (Seen Q N LN L 300 0) r) : First (Sr Q N LN L) r := by
  have e : Seen Q N LN L 300 0 = Sr Q N LN L := by
    funext i j
    refine propext ⟨fun h => h.1, fun h => ⟨h, Or.inl ?_⟩⟩
    have := h.2.1; have := hl i h.1; omega
  rw [← e]; exact h
end Al
end Go.Proofs.YtmejmpdljckfgaaDoor
