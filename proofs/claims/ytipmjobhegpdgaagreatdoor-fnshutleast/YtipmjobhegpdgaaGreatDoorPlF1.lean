/-
  Flows row by row, and what they are between places: mathematics.
-/
import Derived.Test.YtipmjobhegpdgaaGreatDoorPlFlow
import Derived.Test.YtipmjobhegpdgaaGreatDoorPlB0
namespace Go.Proofs.YtipmjobhegpdgaaGreatDoor
open Go.RowKit Go.Deep
namespace Fl
/-- How much a row may carry. -/
def cap (p : Pl.Plan) (i : Nat) : Int := if p.R (i * 3 + 2) = 1 then 1 else 1000
def isSrc (p : Pl.Plan) (v : Nat) : Prop := Pl.Has p.sn p.S (v : Int)
/-- What goes out of a place over a row. -/
def outR (p : Pl.Plan) (fl : Nat → Int) (a i : Nat) : Int := (if p.from_ i = a then fl i else 0) - (if p.to_ i = a then fl i else 0)
def net (p : Pl.Plan) (fl : Nat → Int) (a : Nat) : Int := sm (outR p fl a) p.rn
def FF (p : Pl.Plan) (fl : Nat → Int) (a b : Nat) : Int := sm (fun i => (if p.from_ i = a ∧ p.to_ i = b then fl i else 0) - (if p.from_ i = b ∧ p.to_ i = a then fl i else 0)) p.rn
def btw (p : Pl.Plan) (i a b : Nat) : Prop := (p.from_ i = a ∧ p.to_ i = b) ∨ (p.from_ i = b ∧ p.to_ i = a)
instance (p : Pl.Plan) (i a b : Nat) : Decidable (btw p i a b) := by unfold btw; exact inferInstance
def cc (p : Pl.Plan) (a b : Nat) : Int := sm (fun i => if btw p i a b then 1 else 0) p.rn
def hh (p : Pl.Plan) (a b : Nat) : Prop := ∃ i, i < p.rn ∧ btw p i a b ∧ p.R (i * 3 + 2) ≠ 1
/-- A flow of k to t, row by row. -/
structure RF (p : Pl.Plan) (t : Nat) (fl : Nat → Int) (k : Nat) : Prop where
  most : ∀ i, i < p.rn → - cap p i ≤ fl i ∧ fl i ≤ cap p i
  low : ∀ i, i < p.rn → - (k : Int) ≤ fl i ∧ fl i ≤ k
  net : ∀ a, a < p.hn → ¬ isSrc p a → Fl.net p fl a = if a = t then - (k : Int) else 0
theorem sm_sub (f g : Nat → Int) (n : Nat) : sm (fun i => f i - g i) n = sm f n - sm g n := by
  induction n with
  | zero => rfl
  | succ n ih => simp only [sm]; rw [ih]; omega
theorem sm_ind {n t : Nat} (ht : t < n) (P : Prop) [Decidable P] (x : Int) : sm (fun b => if P ∧ t = b then x else 0) n = if P then x else 0 := by
  rw [sm_one ht (fun b _ ne => by rw [if_neg (fun h => ne h.2.symm)])]
  by_cases h : P
  · rw [if_pos ⟨h, rfl⟩, if_pos h]
  · rw [if_neg (fun x => h x.1), if_neg h]
theorem sm_ind' {n t : Nat} (ht : t < n) (P : Prop) [Decidable P] (x : Int) : sm (fun b => if t = b ∧ P then x else 0) n = if P then x else 0 := by
  rw [← sm_ind ht P x]
  exact sm_congr (fun b _ => by simp only [And.comm])
theorem sm_FF {p : Pl.Plan} (hr : Pl.Right p) (fl : Nat → Int) (a : Nat) : sm (fun b => FF p fl a b) p.hn = net p fl a := by
  unfold FF net
  rw [sm_swap (fun b i => (if p.from_ i = a ∧ p.to_ i = b then fl i else 0) - (if p.from_ i = b ∧ p.to_ i = a then fl i else 0))]
  refine sm_congr (fun i hi => ?_)
  rw [sm_sub, sm_ind (hr.to_lt hi), sm_ind' (hr.from_lt hi)]
  rfl
theorem FF_anti (p : Pl.Plan) (fl : Nat → Int) (a b : Nat) : FF p fl a b = - FF p fl b a := by
  unfold FF
  rw [← sm_neg]
  exact sm_congr (fun i _ => by omega)
theorem term_le {p : Pl.Plan} (hr : Pl.Right p) {fl : Nat → Int} {i a b : Nat} (hi : i < p.rn) (h1 : -1 ≤ fl i) (h2 : fl i ≤ 1) : (if p.from_ i = a ∧ p.to_ i = b then fl i else 0) - (if p.from_ i = b ∧ p.to_ i = a then fl i else 0) ≤ if btw p i a b then 1 else 0 := by
  have hne := hr.ne hi
  by_cases c1 : p.from_ i = a ∧ p.to_ i = b
  · have c2 : ¬ (p.from_ i = b ∧ p.to_ i = a) := fun x => hne (by omega)
    rw [if_pos c1, if_neg c2, if_pos (show btw p i a b from Or.inl c1)]; omega
  · by_cases c2 : p.from_ i = b ∧ p.to_ i = a
    · rw [if_neg c1, if_pos c2, if_pos (show btw p i a b from Or.inr c2)]; omega
    · rw [if_neg c1, if_neg c2, if_neg (show ¬ btw p i a b from fun x => Or.elim x c1 c2)]; omega
theorem cap_good {p : Pl.Plan} {i : Nat} (h : p.R (i * 3 + 2) = 1) : cap p i = 1 := by unfold cap; rw [if_pos h]
theorem cap_held {p : Pl.Plan} {i : Nat} (h : p.R (i * 3 + 2) ≠ 1) : cap p i = 1000 := by unfold cap; rw [if_neg h]
theorem RF.flow {p : Pl.Plan} (hr : Pl.Right p) {t k : Nat} {fl : Nat → Int} (h : RF p t fl k) (ht : t < p.hn) (hs : ¬ isSrc p t) : Flow p.hn (cc p) (hh p) (isSrc p) t (FF p fl) k := by
  refine ⟨FF_anti p fl, fun a b ha hb hn => ?_, fun a ha hsa hne => ?_, ?_⟩
  · unfold FF cc
    refine sm_le (fun i hi => ?_)
    by_cases hg : btw p i a b
    · have hv : p.R (i * 3 + 2) = 1 := by
        by_cases e : p.R (i * 3 + 2) = 1
        · exact e
        · exact absurd ⟨i, hi, hg, e⟩ hn
      have h1 := h.most i hi
      rw [cap_good hv] at h1
      exact term_le hr hi (by omega) h1.2
    · have c1 : ¬ (p.from_ i = a ∧ p.to_ i = b) := fun x => hg (Or.inl x)
      have c2 : ¬ (p.from_ i = b ∧ p.to_ i = a) := fun x => hg (Or.inr x)
      rw [if_neg c1, if_neg c2, if_neg hg]; omega
  · rw [sm_FF hr, h.net a ha hsa, if_neg hne]
  · have e : sm (fun b => FF p fl b t) p.hn = - Fl.net p fl t := by
      rw [← sm_FF hr, ← sm_neg]
      exact sm_congr (fun b _ => FF_anti p fl b t)
    rw [e, h.net t ht hs, if_pos rfl]; omega
/-- One more can go over a row from u to v. -/
def roomR (p : Pl.Plan) (fl : Nat → Int) (i u v : Nat) : Prop := (p.from_ i = u ∧ p.to_ i = v ∧ fl i < cap p i) ∨ (p.from_ i = v ∧ p.to_ i = u ∧ - fl i < cap p i)
def RoomP (p : Pl.Plan) (fl : Nat → Int) (u v : Nat) : Prop := ∃ i, i < p.rn ∧ roomR p fl i u v
theorem sm_lt {f g : Nat → Int} {n j : Nat} (h : ∀ i, i < n → f i ≤ g i) (hj : j < n) (hl : f j < g j) : sm f n < sm g n := by
  induction n with
  | zero => omega
  | succ n ih =>
    simp only [sm]
    by_cases e : j = n
    · subst e
      have := sm_le (fun i (hi : i < j) => h i (by omega))
      omega
    · have h1 := ih (fun i hi => h i (by omega)) (by omega)
      have h2 := h n (by omega)
      omega
theorem room_iff {p : Pl.Plan} (hr : Pl.Right p) {t k : Nat} {fl : Nat → Int} (h : RF p t fl k) (hk : k < 1000) {u v : Nat} : RoomP p fl u v ↔ Room (cc p) (hh p) (FF p fl) u v := by
  constructor
  · rintro ⟨i, hi, hroom⟩
    by_cases hH : hh p u v
    · exact Or.inl hH
    · right
      have gd : ∀ j, j < p.rn → btw p j u v → p.R (j * 3 + 2) = 1 := fun j hj hb => by
        by_cases e : p.R (j * 3 + 2) = 1
        · exact e
        · exact absurd ⟨j, hj, hb, e⟩ hH
      unfold FF cc
      have hb : btw p i u v := by
        rcases hroom with ⟨a, b, _⟩ | ⟨a, b, _⟩
        · exact Or.inl ⟨a, b⟩
        · exact Or.inr ⟨a, b⟩
      refine sm_lt (j := i) (fun j hj => ?_) hi ?_
      · by_cases hg : btw p j u v
        · have h1 := h.most j hj
          rw [cap_good (gd j hj hg)] at h1
          exact term_le hr hj (by omega) h1.2
        · have c1 : ¬ (p.from_ j = u ∧ p.to_ j = v) := fun x => hg (Or.inl x)
          have c2 : ¬ (p.from_ j = v ∧ p.to_ j = u) := fun x => hg (Or.inr x)
          rw [if_neg c1, if_neg c2, if_neg hg]; omega
      · have hne := hr.ne hi
        rw [if_pos hb]
        rcases hroom with ⟨a, b, c⟩ | ⟨a, b, c⟩
        · rw [cap_good (gd i hi hb)] at c
          rw [if_pos ⟨a, b⟩, if_neg (fun x => hne (by omega))]; omega
        · rw [cap_good (gd i hi hb)] at c
          rw [if_pos (show p.from_ i = v ∧ p.to_ i = u from ⟨a, b⟩), if_neg (fun x => hne (by omega))]; omega
  · rintro (⟨i, hi, hb, hv⟩ | hlt)
    · have h1 := h.low i hi
      refine ⟨i, hi, ?_⟩
      rcases hb with ⟨a, b⟩ | ⟨a, b⟩
      · exact Or.inl ⟨a, b, by rw [cap_held hv]; omega⟩
      · exact Or.inr ⟨a, b, by rw [cap_held hv]; omega⟩
    · apply Classical.byContradiction
      intro hno
      have : sm (fun i => if btw p i u v then (1 : Int) else 0) p.rn ≤ FF p fl u v := by
        unfold FF
        refine sm_le (fun i hi => ?_)
        have hne := hr.ne hi
        have hc : 1 ≤ cap p i := by unfold cap; split <;> omega
        by_cases c1 : p.from_ i = u ∧ p.to_ i = v
        · have c2 : ¬ (p.from_ i = v ∧ p.to_ i = u) := fun x => hne (by omega)
          rw [if_pos c1, if_neg c2, if_pos (show btw p i u v from Or.inl c1)]
          have : ¬ fl i < cap p i := fun x => hno ⟨i, hi, Or.inl ⟨c1.1, c1.2, x⟩⟩
          omega
        · by_cases c2 : p.from_ i = v ∧ p.to_ i = u
          · rw [if_neg c1, if_pos c2, if_pos (show btw p i u v from Or.inr c2)]
            have : ¬ - fl i < cap p i := fun x => hno ⟨i, hi, Or.inr ⟨c2.1, c2.2, x⟩⟩
            omega
          · rw [if_neg c1, if_neg c2, if_neg (show ¬ btw p i u v from fun x => Or.elim x c1 c2)]; omega
      unfold cc at hlt
      omega
/-- The places from which one more could go to t, by rows. -/
structure NearR (p : Pl.Plan) (fl : Nat → Int) (t : Nat) (N : Nat → Bool) : Prop where
  self : N t = true
  shut : ∀ a b, a < p.hn → b < p.hn → RoomP p fl a b → N b = true → N a = true
  least : ∀ M : Nat → Bool, M t = true → (∀ a b, a < p.hn → b < p.hn → RoomP p fl a b → M b = true → M a = true) → ∀ a, a < p.hn → N a = true → M a = true
theorem NearR.near {p : Pl.Plan} (hr : Pl.Right p) {t k : Nat} {fl : Nat → Int} (h : RF p t fl k) (hk : k < 1000) {N : Nat → Bool} (hn : NearR p fl t N) : Near p.hn (cc p) (hh p) (FF p fl) t N := by
  refine ⟨hn.self, fun a b ha hb ea eb x => ?_, fun M hM hc a ha e => ?_⟩
  · have := hn.shut a b ha hb ((room_iff hr h hk).2 x) eb
    rw [ea] at this; cases this
  · refine hn.least M hM (fun a b ha hb hR eb => ?_) a ha e
    cases ea : M a with
    | true => rfl
    | false => exact absurd ((room_iff hr h hk).1 hR) (hc a b ha hb ea eb)
/-- What the answer is read off: near places by some greatest flow. -/
structure Best (p : Pl.Plan) (t : Nat) (N : Nat → Bool) : Prop where
  ex : ∃ (F : Nat → Nat → Int) (k : Int), Flow p.hn (cc p) (hh p) (isSrc p) t F k ∧ Near p.hn (cc p) (hh p) F t N
  far : ∀ a, a < p.hn → isSrc p a → N a = false
theorem Best.same {p : Pl.Plan} {t : Nat} {N N' : Nat → Bool} (ht : t < p.hn) (h : Best p t N) (h' : Best p t N') : ∀ a, a < p.hn → N a = N' a := by
  obtain ⟨F, k, hf, hn⟩ := h.ex
  obtain ⟨F', k', hf', hn'⟩ := h'.ex
  exact (hn.same hf h.far hn' hf' h'.far ht).2
/-- A search ahead from the sources that does not come to t. -/
theorem NearR.best {p : Pl.Plan} (hr : Pl.Right p) {t k : Nat} {fl : Nat → Int} (h : RF p t fl k) (hk : k < 1000) (ht : t < p.hn) (hs : ¬ isSrc p t) {N : Nat → Bool} (hn : NearR p fl t N) {A : Nat → Bool} (hA : ∀ v, v < p.hn → isSrc p v → A v = true) (hc : ∀ a b, a < p.hn → b < p.hn → RoomP p fl a b → A a = true → A b = true) (hAt : A t = false) : Best p t N := by
  refine ⟨⟨_, _, h.flow hr ht hs, hn.near hr h hk⟩, fun a ha hsa => ?_⟩
  cases e : N a with
  | false => rfl
  | true =>
    have := hn.least (fun v => ! A v) (by simp [hAt]) (fun a b ha hb hR hb' => by
      cases e2 : A a with
      | false => rfl
      | true => have := hc a b ha hb hR e2; simp [this] at hb') a ha e
    rw [hA a ha hsa] at this; cases this
/-- The rows about the near places. -/
def about (p : Pl.Plan) (N : Nat → Bool) : List Nat := (List.range p.rn).filter fun i => N (p.from_ i) != N (p.to_ i)
theorem Best.about_eq {p : Pl.Plan} (hr : Pl.Right p) {t : Nat} {N N' : Nat → Bool} (ht : t < p.hn) (h : Best p t N) (h' : Best p t N') : about p N = about p N' := by
  unfold about
  refine List.filter_congr (fun i hi => ?_)
  have hi := List.mem_range.1 hi
  rw [h.same ht h' _ (hr.from_lt hi), h.same ht h' _ (hr.to_lt hi)]
/-- One row changed. -/
theorem sm_upd {f g : Nat → Int} {n j : Nat} (hj : j < n) (h : ∀ i, i < n → i ≠ j → g i = f i) : sm g n = sm f n - f j + g j := by
  induction n with
  | zero => omega
  | succ n ih =>
    simp only [sm]
    by_cases e : j = n
    · subst e
      rw [sm_congr (fun i (hi : i < j) => h i (by omega) (by omega))]; omega
    · rw [ih (by omega) (fun i hi => h i (by omega)), h n (by omega) (Ne.symm e)]; omega
theorem net_upd {p : Pl.Plan} {fl : Nat → Int} {j a : Nat} {x : Int} (hj : j < p.rn) : net p (updI fl j x) a = net p fl a + (if p.from_ j = a then x - fl j else 0) - (if p.to_ j = a then x - fl j else 0) := by
  unfold net
  rw [sm_upd (f := outR p fl a) hj (fun i hi hne => by unfold outR updI; rw [if_neg hne])]
  unfold outR
  have e : updI fl j x j = x := by unfold updI; rw [if_pos rfl]
  rw [e]
  split <;> split <;> omega
/-- No more than the rows with good valves can go to a place that is dry by all of them. -/
theorem RF.bound {p : Pl.Plan} (hr : Pl.Right p) {t k : Nat} {fl : Nat → Int} (h : RF p t fl k) (ht : t < p.hn) (hd : ¬ Pl.Wet p (Pl.Good p) t) : (k : Int) ≤ p.rn := by
  have hnsrc : ∀ a, ¬ Pl.Wet p (Pl.Good p) a → ¬ isSrc p a := fun a hw ⟨i, hi, e⟩ => hw (by have := Pl.Wet.src (p := p) (sh := Pl.Good p) i hi; rw [e] at this; simpa using this)
  have e1 : sm (fun b => if dB (Pl.Wet p (Pl.Good p) b) = true then 0 else - Fl.net p fl b) p.hn = k := by
    rw [sm_one ht (fun b hb hne => ?_)]
    · rw [dB_ff hd]
      simp only [Bool.false_eq_true, if_false]
      rw [h.net t ht (hnsrc t hd), if_pos rfl]; omega
    · by_cases hw : Pl.Wet p (Pl.Good p) b
      · rw [dB_tt hw]; rfl
      · rw [dB_ff hw]
        simp only [Bool.false_eq_true, if_false]
        rw [h.net b hb (hnsrc b hw), if_neg hne]; rfl
  have e2 : sm (fun b => if dB (Pl.Wet p (Pl.Good p) b) = true then 0 else - Fl.net p fl b) p.hn = sm (fun b => sm (fun i => if dB (Pl.Wet p (Pl.Good p) b) = true then 0 else - outR p fl b i) p.rn) p.hn := by
    refine sm_congr (fun b _ => ?_)
    cases dB (Pl.Wet p (Pl.Good p) b) with
    | true => simp only [if_true]; rw [sm_zero (fun _ _ => rfl)]
    | false => simp only [Bool.false_eq_true, if_false]; unfold Fl.net; rw [← sm_neg]
  rw [e2, sm_swap (fun b i => if dB (Pl.Wet p (Pl.Good p) b) = true then 0 else - outR p fl b i)] at e1
  have e3 : sm (fun i => sm (fun b => if dB (Pl.Wet p (Pl.Good p) b) = true then 0 else - outR p fl b i) p.hn) p.rn ≤ sm (fun _ => 1) p.rn := by
    refine sm_le (fun i hi => ?_)
    have e4 : sm (fun b => if dB (Pl.Wet p (Pl.Good p) b) = true then 0 else - outR p fl b i) p.hn = (if dB (Pl.Wet p (Pl.Good p) (p.to_ i)) = false then fl i else 0) - (if dB (Pl.Wet p (Pl.Good p) (p.from_ i)) = false then fl i else 0) := by
      have q1 : sm (fun b => if p.to_ i = b ∧ dB (Pl.Wet p (Pl.Good p) b) = false then fl i else 0) p.hn = if dB (Pl.Wet p (Pl.Good p) (p.to_ i)) = false then fl i else 0 := by
        rw [sm_one (hr.to_lt hi) (fun b _ ne => by rw [if_neg (fun x => ne x.1.symm)])]; simp
      have q2 : sm (fun b => if p.from_ i = b ∧ dB (Pl.Wet p (Pl.Good p) b) = false then fl i else 0) p.hn = if dB (Pl.Wet p (Pl.Good p) (p.from_ i)) = false then fl i else 0 := by
        rw [sm_one (hr.from_lt hi) (fun b _ ne => by rw [if_neg (fun x => ne x.1.symm)])]; simp
      rw [← q1, ← q2]
      rw [← sm_sub]
      refine sm_congr (fun b _ => ?_)
      unfold outR
      cases dB (Pl.Wet p (Pl.Good p) b) with
      | true => simp
      | false => simp only [Bool.false_eq_true, if_false, and_true]; omega
    rw [e4]
    by_cases w1 : Pl.Wet p (Pl.Good p) (p.to_ i)
    · by_cases w2 : Pl.Wet p (Pl.Good p) (p.from_ i)
      · rw [dB_tt w1, dB_tt w2]; simp
      · have hg : Pl.Good p i := Classical.byContradiction (fun x => w2 (.bwd i hi x w1))
        have h1 := h.most i hi
        rw [cap_good hg.2] at h1
        rw [dB_tt w1, dB_ff w2]; simp; omega
    · by_cases w2 : Pl.Wet p (Pl.Good p) (p.from_ i)
      · have hg : Pl.Good p i := Classical.byContradiction (fun x => w1 (.fwd i hi x w2))
        have h1 := h.most i hi
        rw [cap_good hg.2] at h1
        rw [dB_ff w1, dB_tt w2]; simp; omega
      · rw [dB_ff w1, dB_ff w2]; simp
  have e5 : ∀ n, sm (fun _ => (1 : Int)) n = n := fun n => by
    induction n with
    | zero => rfl
    | succ n ih => simp only [sm]; rw [ih]; omega
  rw [e5] at e3
  omega
end Fl
end Go.Proofs.YtipmjobhegpdgaaGreatDoor
