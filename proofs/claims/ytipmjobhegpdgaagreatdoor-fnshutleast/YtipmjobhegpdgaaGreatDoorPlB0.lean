/-
  A search from goals, place by place: mathematics.
-/
import Derived.Test.YtipmjobhegpdgaaGreatDoorPlMath
namespace Go.Proofs.YtipmjobhegpdgaaGreatDoor
open Go.RowKit Go.Deep

/-- How many of the first are nowhere. -/
def cntN (nx : Nat → Int) : Nat → Nat
  | 0 => 0
  | n + 1 => cntN nx n + if nx n = -1 then 1 else 0
theorem cntN_congr {f g : Nat → Int} {n : Nat} (h : ∀ i, i < n → f i = g i) : cntN f n = cntN g n := by
  induction n with
  | zero => rfl
  | succ n ih => simp only [cntN]; rw [ih (fun i hi => h i (by omega)), h n (by omega)]
theorem cntN_put {f : Nat → Int} {n i : Nat} {x : Int} (hi : i < n) (h : f i = -1) (hx : x ≠ -1) : cntN (updI f i x) n + 1 = cntN f n := by
  induction n with
  | zero => omega
  | succ n ih =>
    simp only [cntN]
    by_cases e : i = n
    · subst e
      have e1 : cntN (updI f i x) i = cntN f i := cntN_congr (fun j hj => by unfold updI; rw [if_neg (by omega)])
      rw [e1]
      unfold updI
      simp [h, hx]
    · have := ih (by omega)
      have e2 : updI f i x n = f n := by unfold updI; rw [if_neg (Ne.symm e)]
      rw [e2]
      omega
/-- What stands in a search: all that are reached lead on, with room, to a goal; all that lead to what was gone through are reached. -/
structure Bf (pl : Nat) (goal : Nat → Prop) (R : Nat → Nat → Prop) (nx : Nat → Int) (q : List Int) (rk : Nat → Nat) (T : Nat) (ex : Nat → Prop) : Prop where
  rng : ∀ v, v < pl → nx v = -1 ∨ (0 ≤ nx v ∧ nx v < pl)
  goals : ∀ v, v < pl → goal v → nx v = (v : Int)
  val : ∀ v, v < pl → nx v ≠ -1 → (goal v ∧ nx v = (v : Int)) ∨ (R v (nx v).toNat ∧ nx (nx v).toNat ≠ -1 ∧ rk (nx v).toNat < rk v)
  que : ∀ x, x ∈ q → (0 ≤ x ∧ x < pl) ∧ nx x.toNat ≠ -1
  done : ∀ v, v < pl → nx v ≠ -1 → (v : Int) ∈ q ∨ ex v ∨ ∀ a, a < pl → R a v → nx a ≠ -1
  low : ∀ v, v < pl → nx v ≠ -1 → rk v ≤ T
theorem Bf.take {pl : Nat} {goal : Nat → Prop} {R : Nat → Nat → Prop} {nx : Nat → Int} {x : Int} {q : List Int} {rk : Nat → Nat} {T : Nat} (h : Bf pl goal R nx (x :: q) rk T (fun _ => False)) : Bf pl goal R nx q rk T (fun v => (v : Int) = x) := by
  refine ⟨h.rng, h.goals, h.val, fun y hy => h.que y (List.mem_cons_of_mem _ hy), fun v hv hn => ?_, h.low⟩
  rcases h.done v hv hn with h1 | h1 | h1
  · rcases List.mem_cons.1 h1 with h2 | h2
    · exact Or.inr (Or.inl h2)
    · exact Or.inl h2
  · exact absurd h1 id
  · exact Or.inr (Or.inr h1)
theorem Bf.over {pl : Nat} {goal : Nat → Prop} {R : Nat → Nat → Prop} {nx : Nat → Int} {q : List Int} {rk : Nat → Nat} {T : Nat} {ex : Nat → Prop} (h : Bf pl goal R nx q rk T ex) (hx : ∀ v, v < pl → ex v → ∀ a, a < pl → R a v → nx a ≠ -1) : Bf pl goal R nx q rk T (fun _ => False) := by
  refine ⟨h.rng, h.goals, h.val, h.que, fun v hv hn => ?_, h.low⟩
  rcases h.done v hv hn with h1 | h1 | h1
  · exact Or.inl h1
  · exact Or.inr (Or.inr (hx v hv h1))
  · exact Or.inr (Or.inr h1)
theorem Bf.put {pl : Nat} {goal : Nat → Prop} {R : Nat → Nat → Prop} {nx : Nat → Int} {q : List Int} {rk : Nat → Nat} {T : Nat} {ex : Nat → Prop} (h : Bf pl goal R nx q rk T ex) {a b : Nat} (ha : a < pl) (hb : b < pl) (hna : nx a = -1) (hnb : nx b ≠ -1) (hR : R a b) :
    Bf pl goal R (updI nx a (b : Int)) (q ++ [(a : Int)]) (fun v => if v = a then T + 1 else rk v) (T + 1) ex := by
  have hab : b ≠ a := fun e => hnb (e ▸ hna)
  have up : ∀ v, v ≠ a → updI nx a (b : Int) v = nx v := fun v hv => by unfold updI; rw [if_neg hv]
  have ua : updI nx a (b : Int) a = (b : Int) := by unfold updI; rw [if_pos rfl]
  have ne : ∀ v, nx v ≠ -1 → v ≠ a := fun v hv e => hv (e ▸ hna)
  refine ⟨fun v hv => ?_, fun v hv hg => ?_, fun v hv hn => ?_, fun x hx => ?_, fun v hv hn => ?_, fun v hv hn => ?_⟩
  · by_cases e : v = a
    · subst e; rw [ua]; right; omega
    · rw [up v e]; exact h.rng v hv
  · have : v ≠ a := fun e => by
      have := h.goals v hv hg
      rw [e, hna] at this
      omega
    rw [up v this]; exact h.goals v hv hg
  · by_cases e : v = a
    · subst e
      right
      rw [ua]
      have e2 : ((b : Int)).toNat = b := by omega
      rw [e2, up b hab]
      refine ⟨hR, hnb, ?_⟩
      simp only [if_true, if_neg hab]
      have := h.low b hb hnb
      omega
    · rw [up v e] at hn ⊢
      rcases h.val v hv hn with h1 | ⟨h1, h2, h3⟩
      · exact Or.inl h1
      · refine Or.inr ⟨h1, ?_, ?_⟩
        · rw [up _ (ne _ h2)]; exact h2
        · simp only [if_neg (ne _ h2), if_neg e]; exact h3
  · rcases List.mem_append.1 hx with h1 | h1
    · have h2 := h.que x h1
      exact ⟨h2.1, by rw [up _ (ne _ h2.2)]; exact h2.2⟩
    · simp at h1
      subst h1
      refine ⟨by omega, ?_⟩
      have e2 : ((a : Int)).toNat = a := by omega
      rw [e2, ua]; omega
  · by_cases e : v = a
    · subst e; exact Or.inl (by simp)
    · rw [up v e] at hn
      rcases h.done v hv hn with h1 | h1 | h1
      · exact Or.inl (by simp [h1])
      · exact Or.inr (Or.inl h1)
      · refine Or.inr (Or.inr fun c hc hRc => ?_)
        have h2 := h1 c hc hRc
        rw [up c (ne c h2)]; exact h2
  · by_cases e : v = a
    · simp [e]
    · rw [up v e] at hn
      simp only [if_neg e]
      have := h.low v hv hn
      omega
/-- What a search tells. -/
structure Found (pl : Nat) (goal : Nat → Prop) (R : Nat → Nat → Prop) (nx : Nat → Int) : Prop where
  rng : ∀ v, v < pl → nx v = -1 ∨ (0 ≤ nx v ∧ nx v < pl)
  goals : ∀ v, v < pl → goal v → nx v = (v : Int)
  shut : ∀ a b, a < pl → b < pl → nx b ≠ -1 → R a b → nx a ≠ -1
  rank : ∃ rk : Nat → Nat, ∀ v, v < pl → nx v ≠ -1 → (goal v ∧ nx v = (v : Int)) ∨ (R v (nx v).toNat ∧ nx (nx v).toNat ≠ -1 ∧ rk (nx v).toNat < rk v)
theorem Bf.found {pl : Nat} {goal : Nat → Prop} {R : Nat → Nat → Prop} {nx : Nat → Int} {rk : Nat → Nat} {T : Nat} (h : Bf pl goal R nx [] rk T (fun _ => False)) : Found pl goal R nx := by
  refine ⟨h.rng, h.goals, fun a b ha hb hn hR => ?_, rk, h.val⟩
  rcases h.done b hb hn with h1 | h1 | h1
  · simp at h1
  · exact absurd h1 id
  · exact h1 a ha hR
/-- What is closed and holds the goals holds all that were reached. -/
theorem Found.sub {pl : Nat} {goal : Nat → Prop} {R : Nat → Nat → Prop} {nx : Nat → Int} (h : Found pl goal R nx) {A : Nat → Prop} (h1 : ∀ v, v < pl → goal v → A v) (h2 : ∀ a b, a < pl → b < pl → R a b → A b → A a) : ∀ v, v < pl → nx v ≠ -1 → A v := by
  obtain ⟨rk, hr⟩ := h.rank
  have key : ∀ n v, rk v = n → v < pl → nx v ≠ -1 → A v := by
    intro n
    induction n using Nat.strongRecOn with
    | _ n ih =>
      intro v e hv hn
      rcases hr v hv hn with ⟨hg, _⟩ | ⟨hR, hn2, hlt⟩
      · exact h1 v hv hg
      · have hb : (nx v).toNat < pl := by
          rcases h.rng v hv with h3 | h3
          · exact absurd h3 hn
          · omega
        exact h2 v _ hv hb hR (ih _ (by omega) _ rfl hb hn2)
  intro v hv hn
  exact key _ v rfl hv hn
end Go.Proofs.YtipmjobhegpdgaaGreatDoor
