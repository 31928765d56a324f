/-
  Stores as the document tells them: right curves and rules, the line between two marks, a step, a run, what can be given in each step. No program is named here.
-/
namespace Go.Proofs.YtcjeieagpcphjaaDoor
namespace St

/-- Two numbers: a mark's level and volume; a rule's bound and its part. -/
structure Pr where
  a : Int
  b : Int

def MarkOk (p : Pr) : Prop := (0 ≤ p.a ∧ p.a ≤ 100000) ∧ (0 ≤ p.b ∧ p.b ≤ 1000000000)
def Rises (c : Nat → Pr) (i : Nat) : Prop := 0 < i → (c (i - 1)).a < (c i).a ∧ (c (i - 1)).b < (c i).b
/-- A right curve. -/
def CurveOk (n : Nat) (c : Nat → Pr) : Prop := (2 ≤ n ∧ n ≤ 30) ∧ ∀ i, i < n → MarkOk (c i) ∧ Rises c i
def RuleOk (p : Pr) : Prop := (0 ≤ p.a ∧ p.a ≤ 100) ∧ (0 ≤ p.b ∧ p.b ≤ 1000)
def Up (r : Nat → Pr) (i : Nat) : Prop := 0 < i → (r (i - 1)).a < (r i).a
/-- Right rules. -/
def RulesOk (m : Nat) (r : Nat → Pr) : Prop := (1 ≤ m ∧ m ≤ 20) ∧ (r 0).a = 0 ∧ ∀ i, i < m → RuleOk (r i) ∧ Up r i
def full (n : Nat) (c : Nat → Pr) : Int := (c (n - 1)).b
/-- A right store. -/
def StoreOk (n : Nat) (c : Nat → Pr) (m : Nat) (r : Nat → Pr) (v : Int) : Prop := CurveOk n c ∧ RulesOk m r ∧ 0 ≤ v ∧ v ≤ full n c

theorem rises_all {n : Nat} {c : Nat → Pr} (h : CurveOk n c) : ∀ j i, i < j → j < n → (c i).a < (c j).a ∧ (c i).b < (c j).b := by
  intro j
  induction j with
  | zero => intro i hi; omega
  | succ j ih =>
    intro i hi hj
    have hs := (h.2 (j + 1) hj).2 (by omega)
    rw [Nat.add_sub_cancel] at hs
    by_cases e : i = j
    · subst e; exact hs
    · have := ih i (by omega) (by omega); omega
theorem up_all {m : Nat} {r : Nat → Pr} (h : RulesOk m r) : ∀ j i, i < j → j < m → (r i).a < (r j).a := by
  intro j
  induction j with
  | zero => intro i hi; omega
  | succ j ih =>
    intro i hi hj
    have hs := (h.2.2 (j + 1) hj).2 (by omega)
    rw [Nat.add_sub_cancel] at hs
    by_cases e : i = j
    · subst e; exact hs
    · have := ih i (by omega) (by omega); omega
theorem full_bounds {n : Nat} {c : Nat → Pr} (h : CurveOk n c) : 1 ≤ full n c ∧ full n c ≤ 1000000000 := by
  have h1 := (h.2 (n - 1) (by have := h.1; omega)).1.2
  have h2 := (rises_all h (n - 1) 0 (by have := h.1; omega) (by have := h.1; omega)).2
  have h3 := (h.2 0 (by have := h.1; omega)).1.2
  unfold full
  omega

/-- How many places are ahead of the first of which something holds, if it then holds of all behind it. -/
def cnt (n : Nat) (p : Nat → Bool) : Nat := (List.range n).countP (fun i => !p i)
theorem cnt_succ (n : Nat) (p : Nat → Bool) : cnt (n + 1) p = cnt n p + (if p n = true then 0 else 1) := by
  unfold cnt
  rw [List.range_succ, List.countP_append]
  cases h : p n <;> simp [h]
theorem cnt_facts (p : Nat → Bool) : ∀ n, (∀ a b, a ≤ b → b < n → p a = true → p b = true) → cnt n p ≤ n ∧ (∀ i, i < cnt n p → p i = false) ∧ (∀ i, cnt n p ≤ i → i < n → p i = true) := by
  intro n
  induction n with
  | zero => intro _; exact ⟨by simp [cnt], fun i hi => by simp [cnt] at hi, fun i _ hi => by omega⟩
  | succ n ih =>
    intro hm
    obtain ⟨h1, h2, h3⟩ := ih (fun a b hab hb => hm a b hab (by omega))
    rw [cnt_succ]
    cases e : p n with
    | true =>
      simp only [if_true]
      refine ⟨by omega, h2, fun i hi hn => ?_⟩
      by_cases e2 : i = n
      · subst e2; exact e
      · exact h3 i hi (by omega)
    | false =>
      have hk : cnt n p = n := by
        by_cases hk : cnt n p < n
        · have := hm (cnt n p) n (by omega) (by omega) (h3 _ (Nat.le_refl _) hk)
          rw [e] at this; cases this
        · omega
      rw [if_neg (by simp), hk]
      refine ⟨Nat.le_refl _, fun i hi => ?_, fun i h1 h2 => by omega⟩
      by_cases e2 : i = n
      · subst e2; exact e
      · exact h2 i (by omega)
theorem cnt_eq {n k : Nat} {p : Nat → Bool} (hk : k ≤ n) (h1 : ∀ i, i < k → p i = false) (h2 : ∀ i, k ≤ i → i < n → p i = true) : cnt n p = k := by
  have hm : ∀ a b, a ≤ b → b < n → p a = true → p b = true := by
    intro a b hab hb ha
    by_cases e : a < k
    · rw [h1 a e] at ha; cases ha
    · exact h2 b (by omega) hb
  obtain ⟨g1, g2, g3⟩ := cnt_facts p n hm
  rcases Nat.lt_trichotomy (cnt n p) k with h | h | h
  · have := h1 _ h; rw [g3 _ (Nat.le_refl _) (by omega)] at this; cases this
  · exact h
  · have := g2 _ h; rw [h2 _ (Nat.le_refl _) (by omega)] at this; cases this

/-- The value along a line of marks: what is known rises, what is sought is told. -/
def along (n : Nat) (kn so : Nat → Int) (x : Int) : Int :=
  if cnt n (fun i => decide (x < kn i)) = 0 then so 0
  else if cnt n (fun i => decide (x < kn i)) = n then so (n - 1)
  else so (cnt n (fun i => decide (x < kn i)) - 1) + (x - kn (cnt n (fun i => decide (x < kn i)) - 1)) * (so (cnt n (fun i => decide (x < kn i))) - so (cnt n (fun i => decide (x < kn i)) - 1)) / (kn (cnt n (fun i => decide (x < kn i))) - kn (cnt n (fun i => decide (x < kn i)) - 1))
def RiseTo (n : Nat) (f : Nat → Int) : Prop := ∀ j i, i < j → j < n → f i < f j

theorem along_first {n : Nat} {kn so : Nat → Int} {x : Int} (hn : 2 ≤ n) (hk : RiseTo n kn) (h : x ≤ kn 0) : along n kn so x = so 0 := by
  unfold along
  by_cases e : x < kn 0
  · have hc : cnt n (fun i => decide (x < kn i)) = 0 := cnt_eq (Nat.zero_le _) (fun i hi => by omega) (fun i _ hi => by
      by_cases h0 : i = 0
      · subst h0; simpa using e
      · have := hk i 0 (by omega) hi; simp; omega)
    rw [if_pos hc]
  · have hx : x = kn 0 := by omega
    have hc : cnt n (fun i => decide (x < kn i)) = 1 := cnt_eq (by omega) (fun i hi => by obtain rfl : i = 0 := by omega
                                                                                          simpa using e) (fun i h1 hi => by have := hk i 0 (by omega) hi; simp; omega)
    rw [hc, if_neg (by omega), if_neg (by omega), hx]
    simp
theorem along_mid {n : Nat} {kn so : Nat → Int} {x : Int} (hk : RiseTo n kn) {i : Nat} (hi : 1 ≤ i) (hin : i < n) (h1 : kn (i - 1) < x) (h2 : x ≤ kn i) :
    along n kn so x = so (i - 1) + (x - kn (i - 1)) * (so i - so (i - 1)) / (kn i - kn (i - 1)) := by
  have low : ∀ j, j < i → kn j < x := fun j hj => by
    by_cases e : j = i - 1
    · subst e; exact h1
    · have := hk (i - 1) j (by omega) (by omega); omega
  unfold along
  by_cases e : x < kn i
  · have hc : cnt n (fun i => decide (x < kn i)) = i := cnt_eq (by omega) (fun j hj => by have := low j hj; simp; omega) (fun j h1 hj => by
      by_cases h0 : j = i
      · subst h0; simpa using e
      · have := hk j i (by omega) hj; simp; omega)
    rw [hc, if_neg (by omega), if_neg (by omega)]
  · have hx : x = kn i := by omega
    have hc : cnt n (fun i => decide (x < kn i)) = i + 1 := cnt_eq (by omega) (fun j hj => by
      by_cases h0 : j = i
      · subst h0; simpa using e
      · have := low j (by omega); simp; omega) (fun j h1 hj => by have := hk j i (by omega) hj; simp; omega)
    have hd : kn i - kn (i - 1) ≠ 0 := by omega
    have e1 : so (i - 1) + (x - kn (i - 1)) * (so i - so (i - 1)) / (kn i - kn (i - 1)) = so i := by
      rw [hx, Int.mul_comm, Int.mul_ediv_cancel _ hd]; omega
    rw [e1, hc, if_neg (by omega)]
    by_cases hn : i + 1 = n
    · rw [if_pos hn, ← hn, Nat.add_sub_cancel]
    · rw [if_neg hn, Nat.add_sub_cancel, hx]; simp
theorem along_last {n : Nat} {kn so : Nat → Int} {x : Int} (hn : 2 ≤ n) (h : ∀ j, j < n → kn j < x) : along n kn so x = so (n - 1) := by
  unfold along
  have hc : cnt n (fun i => decide (x < kn i)) = n := cnt_eq (Nat.le_refl _) (fun j hj => by have := h j hj; simp; omega) (fun j h1 hj => by omega)
  rw [hc, if_neg (by omega), if_pos rfl]

/-- The bounds of a mid value. -/
theorem mid_bounds {x k0 k1 s0 s1 : Int} (h0 : k0 ≤ x) (h1 : x < k1) (hs : s0 < s1) :
    0 ≤ (x - k0) * (s1 - s0) ∧ (x - k0) * (s1 - s0) ≤ (k1 - k0) * (s1 - s0) ∧ 0 ≤ (x - k0) * (s1 - s0) / (k1 - k0) ∧ (x - k0) * (s1 - s0) / (k1 - k0) < s1 - s0 := by
  have a1 : 0 ≤ (x - k0) * (s1 - s0) := Int.mul_nonneg (by omega) (by omega)
  have a2 : (x - k0) * (s1 - s0) < (k1 - k0) * (s1 - s0) := Int.mul_lt_mul_of_pos_right (by omega) (by omega)
  refine ⟨a1, Int.le_of_lt a2, Int.ediv_nonneg a1 (by omega), Int.ediv_lt_of_lt_mul (by omega) ?_⟩
  rw [Int.mul_comm (s1 - s0)]; exact a2

/-- Which rule holds. -/
def holdsN (m : Nat) (r : Nat → Pr) (f x : Int) : Nat := cnt m (fun i => decide (100 * x < (r i).a * f))
def giveOf (m : Nat) (r : Nat → Pr) (f x : Int) : Int := (r (holdsN m r f x - 1)).b
theorem holds_mono {m : Nat} {r : Nat → Pr} (h : RulesOk m r) {f x : Int} (hf : 0 ≤ f) : ∀ a b, a ≤ b → b < m → decide (100 * x < (r a).a * f) = true → decide (100 * x < (r b).a * f) = true := by
  intro a b hab hb ha
  by_cases e : a = b
  · subst e; exact ha
  · have h1 := up_all h b a (by omega) hb
    have h2 : (r a).a * f ≤ (r b).a * f := Int.mul_le_mul_of_nonneg_right (by omega) hf
    simp at ha ⊢; omega
theorem holdsN_facts {m : Nat} {r : Nat → Pr} (h : RulesOk m r) {f x : Int} (hf : 0 ≤ f) (hx : 0 ≤ x) : 1 ≤ holdsN m r f x ∧ holdsN m r f x ≤ m ∧ (∀ i, i < holdsN m r f x → (r i).a * f ≤ 100 * x) ∧ (∀ i, holdsN m r f x ≤ i → i < m → 100 * x < (r i).a * f) := by
  obtain ⟨g1, g2, g3⟩ := cnt_facts _ m (holds_mono h hf (x := x))
  refine ⟨?_, g1, fun i hi => by have := g2 i hi; simpa using this, fun i h1 h2 => by have := g3 i h1 h2; simpa using this⟩
  by_cases e : 1 ≤ holdsN m r f x
  · exact e
  · have h0 : holdsN m r f x = 0 := by omega
    have := g3 0 (by unfold holdsN at h0; omega) (by have := h.1; omega)
    rw [h.2.1] at this
    simp at this; omega
/-- What the rules give so far: the last one that holds among the first. -/
def giveTo (r : Nat → Pr) (f x : Int) : Nat → Int
  | 0 => 0
  | i + 1 => if (r i).a * f ≤ 100 * x then (r i).b else giveTo r f x i
theorem giveTo_all {m : Nat} {r : Nat → Pr} (h : RulesOk m r) {f x : Int} (hf : 0 ≤ f) (hx : 0 ≤ x) : giveTo r f x m = giveOf m r f x := by
  obtain ⟨h1, h2, h3, h4⟩ := holdsN_facts h hf hx
  unfold giveOf
  generalize holdsN m r f x = k at h1 h2 h3 h4
  have : ∀ i, k ≤ i → i ≤ m → giveTo r f x i = (r (k - 1)).b := by
    intro i
    induction i with
    | zero => intro hi; omega
    | succ i ih =>
      intro hi him
      by_cases e : k = i + 1
      · subst e
        rw [giveTo, if_pos (h3 i (by omega)), Nat.add_sub_cancel]
      · have := h4 i (by omega) (by omega)
        rw [giveTo, if_neg (by omega)]
        exact ih (by omega) (by omega)
  exact this m h2 (Nat.le_refl _)
theorem giveOf_bounds {m : Nat} {r : Nat → Pr} (h : RulesOk m r) {f x : Int} (hf : 0 ≤ f) (hx : 0 ≤ x) : 0 ≤ giveOf m r f x ∧ giveOf m r f x ≤ 1000 := by
  obtain ⟨h1, h2, _⟩ := holdsN_facts h hf hx
  exact (h.2.2 (holdsN m r f x - 1) (by omega)).1.2

/-- A step: what is there, what a thousand parts give. -/
structure Out where
  vol : Int
  giv : Int
  spl : Int
  sho : Int
def givenOf (g x want : Int) : Int := min (want * g / 1000) x
def stepOf (f g x want : Int) : Out := ⟨x - givenOf g x want - max (x - givenOf g x want - f) 0, givenOf g x want, max (x - givenOf g x want - f) 0, want - givenOf g x want⟩
theorem given_bounds {g x want : Int} (g0 : 0 ≤ g) (g1 : g ≤ 1000) (x0 : 0 ≤ x) (w0 : 0 ≤ want) : 0 ≤ want * g ∧ want * g ≤ want * 1000 ∧ 0 ≤ givenOf g x want ∧ givenOf g x want ≤ want ∧ givenOf g x want ≤ x := by
  have h1 : 0 ≤ want * g := Int.mul_nonneg w0 g0
  have h2 : want * g ≤ want * 1000 := Int.mul_le_mul_of_nonneg_left g1 w0
  unfold givenOf
  generalize want * g = y at h1 h2
  omega
theorem step_bounds {f g x want : Int} (f0 : 0 ≤ f) (g0 : 0 ≤ g) (g1 : g ≤ 1000) (x0 : 0 ≤ x) (w0 : 0 ≤ want) :
    (0 ≤ (stepOf f g x want).vol ∧ (stepOf f g x want).vol ≤ f) ∧ (0 ≤ (stepOf f g x want).giv ∧ (stepOf f g x want).giv ≤ want) ∧ (0 ≤ (stepOf f g x want).spl ∧ (stepOf f g x want).spl ≤ x) ∧ (0 ≤ (stepOf f g x want).sho ∧ (stepOf f g x want).sho ≤ want) ∧ x = (stepOf f g x want).vol + (stepOf f g x want).giv + (stepOf f g x want).spl ∧ want = (stepOf f g x want).giv + (stepOf f g x want).sho := by
  obtain ⟨_, _, h1, h2, h3⟩ := given_bounds g0 g1 x0 w0
  unfold stepOf
  generalize givenOf g x want = y at *
  simp only
  omega

def FlowOk (x : Int) : Prop := 0 ≤ x ∧ x ≤ 1000000
def FlowsOk (n : Nat) (f : Nat → Int) : Prop := ∀ i, i < n → FlowOk (f i)

/-- What stands in a run. -/
structure Sm where
  vol : Int
  giv : Int
  spl : Int
  sho : Int
  wor : Int
def addS (i : Nat) (s : Sm) (x : Out) : Sm := ⟨x.vol, s.giv + x.giv, s.spl + x.spl, s.sho + x.sho, if i = 0 then x.vol else min s.wor x.vol⟩
def runS (m : Nat) (r : Nat → Pr) (f v : Int) (ins wants : Nat → Int) : Nat → Sm
  | 0 => ⟨v, 0, 0, 0, v⟩
  | i + 1 => addS i (runS m r f v ins wants i) (stepOf f (giveOf m r f ((runS m r f v ins wants i).vol + ins i)) ((runS m r f v ins wants i).vol + ins i) (wants i))
def sumTo (f : Nat → Int) : Nat → Int
  | 0 => 0
  | i + 1 => sumTo f i + f i
theorem sumTo_bounds {n : Nat} {f : Nat → Int} (h : FlowsOk n f) : ∀ i, i ≤ n → 0 ≤ sumTo f i ∧ sumTo f i ≤ 1000000 * i := by
  intro i
  induction i with
  | zero => intro _; exact ⟨by simp [sumTo], by simp [sumTo]⟩
  | succ i ih => intro hi; have := ih (by omega); have := h i (by omega); unfold FlowOk at this; simp only [sumTo]; omega
/-- The book of a run. -/
theorem run_book {m : Nat} {r : Nat → Pr} {f v : Int} {ins wants : Nat → Int} {n : Nat} (hr : RulesOk m r) (f0 : 0 ≤ f) (v0 : 0 ≤ v) (v1 : v ≤ f) (hi : FlowsOk n ins) (hw : FlowsOk n wants) : ∀ i, i ≤ n →
    (0 ≤ (runS m r f v ins wants i).vol ∧ (runS m r f v ins wants i).vol ≤ f) ∧ (0 ≤ (runS m r f v ins wants i).giv) ∧ (0 ≤ (runS m r f v ins wants i).spl) ∧ (0 ≤ (runS m r f v ins wants i).sho) ∧ (0 ≤ (runS m r f v ins wants i).wor ∧ (runS m r f v ins wants i).wor ≤ (runS m r f v ins wants i).vol) ∧
    v + sumTo ins i = (runS m r f v ins wants i).vol + (runS m r f v ins wants i).giv + (runS m r f v ins wants i).spl ∧ sumTo wants i = (runS m r f v ins wants i).giv + (runS m r f v ins wants i).sho := by
  intro i
  induction i with
  | zero => intro _; simp [runS, sumTo]; omega
  | succ i ih =>
    intro hin
    have h1 := ih (by omega)
    have h2 := hi i (by omega)
    have h3 := hw i (by omega)
    unfold FlowOk at h2 h3
    simp only [runS, sumTo]
    generalize runS m r f v ins wants i = s at h1
    have hg := giveOf_bounds hr (f := f) (x := s.vol + ins i) f0 (by omega)
    generalize giveOf m r f (s.vol + ins i) = g at hg
    have hs := step_bounds (f := f) (g := g) (x := s.vol + ins i) (want := wants i) f0 hg.1 hg.2 (by omega) (by omega)
    generalize stepOf f g (s.vol + ins i) (wants i) = x at hs
    unfold addS
    simp only
    by_cases e : i = 0
    · rw [if_pos e]; omega
    · rw [if_neg e]; omega

/-- The water behind each step where all is given. -/
def volOf (f : Int) (ins : Nat → Int) (v y : Int) : Nat → Int
  | 0 => v
  | i + 1 => min (volOf f ins v y i + ins i - y) f
def Meets (f : Int) (ins : Nat → Int) (v y : Int) (n : Nat) : Prop := ∀ i, i < n → 0 ≤ volOf f ins v y i + ins i - y
theorem vol_mono {f : Int} {ins : Nat → Int} {v y z : Int} (h : y ≤ z) : ∀ i, volOf f ins v z i ≤ volOf f ins v y i := by
  intro i
  induction i with
  | zero => exact Int.le_refl _
  | succ i ih => simp only [volOf]; omega
theorem meets_mono {f : Int} {ins : Nat → Int} {v y z : Int} {n : Nat} (h : y ≤ z) (hz : Meets f ins v z n) : Meets f ins v y n := by
  intro i hi
  have := hz i hi
  have := vol_mono (f := f) (ins := ins) (v := v) h i
  omega
theorem vol_bounds {f : Int} {ins : Nat → Int} {v y : Int} {n : Nat} (v0 : 0 ≤ v) (v1 : v ≤ f) (hm : Meets f ins v y n) : ∀ i, i ≤ n → 0 ≤ volOf f ins v y i ∧ volOf f ins v y i ≤ f := by
  intro i
  induction i with
  | zero => intro _; exact ⟨v0, v1⟩
  | succ i ih => intro hi; have := ih (by omega); have := hm i (by omega); simp only [volOf]; omega
/-- What can be given in each step, and no more. -/
def IsYield (f : Int) (ins : Nat → Int) (v : Int) (n : Nat) (y : Int) : Prop := (0 ≤ y ∧ y ≤ 1000000) ∧ Meets f ins v y n ∧ (y = 1000000 ∨ ¬ Meets f ins v (y + 1) n)
theorem yield_one {f : Int} {ins : Nat → Int} {v : Int} {n : Nat} {y z : Int} (hy : IsYield f ins v n y) (hz : IsYield f ins v n z) : y = z := by
  obtain ⟨⟨a0, a1⟩, a2, a3⟩ := hy
  obtain ⟨⟨b0, b1⟩, b2, b3⟩ := hz
  rcases Int.lt_trichotomy y z with h | h | h
  · rcases a3 with a3 | a3
    · omega
    · exact absurd (meets_mono (by omega) b2) a3
  · exact h
  · rcases b3 with b3 | b3
    · omega
    · exact absurd (meets_mono (by omega) a2) b3
theorem meets_zero {f : Int} {ins : Nat → Int} {v : Int} {n : Nat} (v0 : 0 ≤ v) (f0 : 0 ≤ f) (hi : FlowsOk n ins) : Meets f ins v 0 n := by
  have : ∀ i, i ≤ n → 0 ≤ volOf f ins v 0 i := by
    intro i
    induction i with
    | zero => intro _; exact v0
    | succ i ih => intro h; have := ih (by omega); have := hi i (by omega); unfold FlowOk at this; simp only [volOf]; omega
  intro i hn
  have h1 := this i (by omega)
  have h2 := hi i hn
  unfold FlowOk at h2
  omega

/-- The one rule that gives all. -/
def allR : Nat → Pr := fun _ => ⟨0, 1000⟩
theorem allR_ok : RulesOk 1 allR := ⟨⟨Nat.le_refl _, by omega⟩, rfl, fun i _ => ⟨⟨⟨Int.le_refl _, by simp [allR]⟩, ⟨by simp [allR], by simp [allR]⟩⟩, fun h => by omega⟩⟩
theorem allR_give (f x : Int) : giveOf 1 allR f x = 1000 := rfl
theorem given_all {x y : Int} : givenOf 1000 x y = min y x := by
  unfold givenOf; omega
theorem run_meets {f v y : Int} {ins : Nat → Int} {n : Nat} (hm : Meets f ins v y n) : ∀ i, i ≤ n → (runS 1 allR f v ins (fun _ => y) i).vol = volOf f ins v y i ∧ (runS 1 allR f v ins (fun _ => y) i).sho = 0 := by
  intro i
  induction i with
  | zero => intro _; exact ⟨rfl, rfl⟩
  | succ i ih =>
    intro hi
    obtain ⟨h1, h2⟩ := ih (by omega)
    have h3 := hm i (by omega)
    simp only [runS, volOf]
    generalize runS 1 allR f v ins (fun _ => y) i = s at h1 h2
    rw [← h1] at h3 ⊢
    have hg : giveOf 1 allR f (s.vol + ins i) = 1000 := rfl
    rw [hg]
    unfold addS stepOf
    simp only [given_all]
    omega
theorem run_short {f v y : Int} {ins : Nat → Int} {n : Nat} (f0 : 0 ≤ f) (v0 : 0 ≤ v) (v1 : v ≤ f) (y0 : FlowOk y) (hi : FlowsOk n ins) (hm : ¬ Meets f ins v y n) : 0 < (runS 1 allR f v ins (fun _ => y) n).sho := by
  have hex : ∃ k, k < n ∧ Meets f ins v y k ∧ volOf f ins v y k + ins k - y < 0 := by
    have : ∀ j, j ≤ n → Meets f ins v y j ∨ ∃ k, k < j ∧ Meets f ins v y k ∧ volOf f ins v y k + ins k - y < 0 := by
      intro j
      induction j with
      | zero => intro _; exact Or.inl (fun i hi => by omega)
      | succ j ih =>
        intro hj
        rcases ih (by omega) with h | ⟨k, h1, h2, h3⟩
        · by_cases e : 0 ≤ volOf f ins v y j + ins j - y
          · refine Or.inl (fun i hi => ?_)
            by_cases e2 : i = j
            · subst e2; exact e
            · exact h i (by omega)
          · exact Or.inr ⟨j, by omega, h, by omega⟩
        · exact Or.inr ⟨k, by omega, h2, h3⟩
    rcases this n (Nat.le_refl _) with h | h
    · exact absurd h hm
    · exact h
  obtain ⟨k, hk, hmk, hs⟩ := hex
  have hw : FlowsOk n (fun _ : Nat => y) := fun _ _ => y0
  have bk := run_book allR_ok f0 v0 v1 hi hw
  have h1 : 0 < (runS 1 allR f v ins (fun _ => y) (k + 1)).sho := by
    obtain ⟨e1, e2⟩ := run_meets hmk k (Nat.le_refl _)
    simp only [runS]
    generalize runS 1 allR f v ins (fun _ => y) k = s at e1 e2
    rw [← e1] at hs
    have hg : giveOf 1 allR f (s.vol + ins k) = 1000 := rfl
    rw [hg]
    unfold addS stepOf
    simp only [given_all]
    omega
  have h2 : ∀ j, k + 1 ≤ j → j ≤ n → 0 < (runS 1 allR f v ins (fun _ => y) j).sho := by
    intro j
    induction j with
    | zero => intro h; omega
    | succ j ih =>
      intro hj hn
      by_cases e : k + 1 = j + 1
      · rw [← e]; exact h1
      · have h3 := ih (by omega) (by omega)
        have h4 := bk j (by omega)
        have h5 := hi j (by omega)
        unfold FlowOk at h5 y0
        simp only [runS]
        generalize runS 1 allR f v ins (fun _ => y) j = s at h3 h4
        have hg : giveOf 1 allR f (s.vol + ins j) = 1000 := rfl
        rw [hg]
        have hst := step_bounds (f := f) (g := 1000) (x := s.vol + ins j) (want := y) f0 (by omega) (by omega) (by omega) (by omega)
        generalize stepOf f 1000 (s.vol + ins j) y = x at hst
        unfold addS
        simp only
        omega
  exact h2 n (by omega) (Nat.le_refl _)

/-- Of a right curve what is sought stays between its ends, rises, and does not rise above itself. -/
theorem along_range {n : Nat} {kn so : Nat → Int} {x : Int} (hn : 2 ≤ n) (hk : RiseTo n kn) (hs : RiseTo n so) : so 0 ≤ along n kn so x ∧ along n kn so x ≤ so (n - 1) := by
  have s0 : ∀ i, i < n → so 0 ≤ so i := fun i hi => by
    by_cases e : i = 0
    · subst e; exact Int.le_refl _
    · exact Int.le_of_lt (hs i 0 (by omega) hi)
  have s1 : ∀ i, i < n → so i ≤ so (n - 1) := fun i hi => by
    by_cases e : i = n - 1
    · rw [← e]; exact Int.le_refl _
    · exact Int.le_of_lt (hs (n - 1) i (by omega) (by omega))
  have hm : ∀ a b, a ≤ b → b < n → (fun i => decide (x < kn i)) a = true → (fun i => decide (x < kn i)) b = true := by
    intro a b hab hb ha
    by_cases e : a = b
    · subst e; exact ha
    · have := hk b a (by omega) hb; simp at ha ⊢; omega
  obtain ⟨g1, g2, g3⟩ := cnt_facts _ n hm
  unfold along
  generalize cnt n (fun i => decide (x < kn i)) = k at g1 g2 g3
  by_cases e0 : k = 0
  · rw [if_pos e0]; exact ⟨Int.le_refl _, s0 (n - 1) (by omega)⟩
  · rw [if_neg e0]
    by_cases en : k = n
    · rw [if_pos en]; exact ⟨s0 (n - 1) (by omega), Int.le_refl _⟩
    · rw [if_neg en]
      have h1 := g2 (k - 1) (by omega)
      have h2 := g3 k (Nat.le_refl _) (by omega)
      simp at h1 h2
      have hb := mid_bounds (x := x) (k0 := kn (k - 1)) (k1 := kn k) (s0 := so (k - 1)) (s1 := so k) h1 h2 (hs k (k - 1) (by omega) (by omega))
      have := s0 (k - 1) (by omega)
      have := s1 k (by omega)
      generalize (x - kn (k - 1)) * (so k - so (k - 1)) / (kn k - kn (k - 1)) = q at *
      omega
/-- Where a place on a right curve lies. -/
theorem along_at {n : Nat} {kn so : Nat → Int} {x : Int} (hn : 2 ≤ n) (hk : RiseTo n kn) (h0 : kn 0 ≤ x) (h1 : x ≤ kn (n - 1)) :
    (∃ i, 1 ≤ i ∧ i < n ∧ kn (i - 1) ≤ x ∧ x < kn i ∧ along n kn so x = so (i - 1) + (x - kn (i - 1)) * (so i - so (i - 1)) / (kn i - kn (i - 1))) ∨ (x = kn (n - 1) ∧ along n kn so x = so (n - 1)) := by
  have hm : ∀ a b, a ≤ b → b < n → (fun i => decide (x < kn i)) a = true → (fun i => decide (x < kn i)) b = true := by
    intro a b hab hb ha
    by_cases e : a = b
    · subst e; exact ha
    · have := hk b a (by omega) hb; simp at ha ⊢; omega
  obtain ⟨g1, g2, g3⟩ := cnt_facts _ n hm
  unfold along
  generalize cnt n (fun i => decide (x < kn i)) = k at g1 g2 g3
  by_cases e0 : k = 0
  · have := g3 0 (by omega) (by omega); simp at this; omega
  · rw [if_neg e0]
    have h2 := g2 (k - 1) (by omega)
    simp at h2
    by_cases en : k = n
    · rw [if_pos en]
      exact Or.inr ⟨by rw [en] at h2; omega, rfl⟩
    · rw [if_neg en]
      have h3 := g3 k (Nat.le_refl _) (by omega)
      simp at h3
      exact Or.inl ⟨k, by omega, by omega, h2, h3, rfl⟩
theorem along_le {n : Nat} {kn so : Nat → Int} {x y : Int} (hn : 2 ≤ n) (hk : RiseTo n kn) (hs : RiseTo n so) (h0 : kn 0 ≤ x) (hxy : x ≤ y) (h1 : y ≤ kn (n - 1)) : along n kn so x ≤ along n kn so y := by
  rcases along_at (so := so) hn hk h0 (by omega : x ≤ kn (n - 1)) with ⟨i, i1, i2, i3, i4, e⟩ | ⟨ex, e⟩
  · rcases along_at (so := so) hn hk (by omega : kn 0 ≤ y) h1 with ⟨j, j1, j2, j3, j4, e'⟩ | ⟨ey, e'⟩
    · rw [e, e']
      by_cases hij : i = j
      · subst hij
        have : (x - kn (i - 1)) * (so i - so (i - 1)) ≤ (y - kn (i - 1)) * (so i - so (i - 1)) := Int.mul_le_mul_of_nonneg_right (by omega) (by have := hs i (i - 1) (by omega) i2; omega)
        have := Int.ediv_le_ediv (c := kn i - kn (i - 1)) (by omega) this
        omega
      · have hlt : i < j := by
          rcases Nat.lt_trichotomy i j with h | h | h
          · exact h
          · exact absurd h hij
          · by_cases e2 : j = i - 1
            · subst e2; omega
            · have := hk (i - 1) j (by omega) (by omega); omega
        have b1 := mid_bounds (s0 := so (i - 1)) (s1 := so i) i3 i4 (hs i (i - 1) (by omega) i2)
        have b2 := mid_bounds (s0 := so (j - 1)) (s1 := so j) j3 j4 (hs j (j - 1) (by omega) j2)
        have h3 : so i ≤ so (j - 1) := by
          by_cases e2 : i = j - 1
          · rw [← e2]; exact Int.le_refl _
          · exact Int.le_of_lt (hs (j - 1) i (by omega) (by omega))
        generalize (x - kn (i - 1)) * (so i - so (i - 1)) / (kn i - kn (i - 1)) = q at *
        generalize (y - kn (j - 1)) * (so j - so (j - 1)) / (kn j - kn (j - 1)) = q2 at *
        omega
    · rw [e']; exact (along_range hn hk hs).2
  · have : y = x := by omega
    rw [this]; exact Int.le_refl _
theorem along_back {n : Nat} {kn so : Nat → Int} {x : Int} (hn : 2 ≤ n) (hk : RiseTo n kn) (hs : RiseTo n so) (h0 : kn 0 ≤ x) (h1 : x ≤ kn (n - 1)) : along n so kn (along n kn so x) ≤ x := by
  rcases along_at (so := so) hn hk h0 h1 with ⟨i, i1, i2, i3, i4, e⟩ | ⟨ex, e⟩
  · have b := mid_bounds (s0 := so (i - 1)) (s1 := so i) i3 i4 (hs i (i - 1) (by omega) i2)
    have hd : 0 < so i - so (i - 1) := by have := hs i (i - 1) (by omega) i2; omega
    have hk0 : 0 < kn i - kn (i - 1) := by omega
    have hq : (x - kn (i - 1)) * (so i - so (i - 1)) / (kn i - kn (i - 1)) * (kn i - kn (i - 1)) ≤ (x - kn (i - 1)) * (so i - so (i - 1)) := Int.ediv_mul_le _ (by omega)
    rw [e]
    generalize (x - kn (i - 1)) * (so i - so (i - 1)) / (kn i - kn (i - 1)) = q at *
    have hc : cnt n (fun j => decide (so (i - 1) + q < so j)) = i := cnt_eq (by omega) (fun j hj => by
      by_cases e2 : j = i - 1
      · subst e2; simp; omega
      · have := hs (i - 1) j (by omega) (by omega); simp; omega) (fun j h1 hj => by
      by_cases e2 : j = i
      · subst e2; simp; omega
      · have := hs j i (by omega) hj; simp; omega)
    unfold along
    rw [hc, if_neg (by omega), if_neg (by omega)]
    have e3 : so (i - 1) + q - so (i - 1) = q := by omega
    rw [e3]
    have h4 : q * (kn i - kn (i - 1)) / (so i - so (i - 1)) ≤ x - kn (i - 1) := by
      have := Int.ediv_le_ediv (c := so i - so (i - 1)) hd hq
      rw [Int.mul_ediv_cancel _ (by omega)] at this
      exact this
    omega
  · rw [e]
    have : along n so kn (so (n - 1)) ≤ kn (n - 1) := (along_range hn hs hk).2
    omega
end St
end Go.Proofs.YtcjeieagpcphjaaDoor
