/-
  Flows between places and the rows that part them: the least cut next to a place is the same whatever greatest flow it is read off.
-/
import Derived.RowKit
namespace Go.Proofs.YtipmjobhegpdgaaGreatDoor
namespace Fl

/-- A sum over the first places. -/
def sm (f : Nat → Int) : Nat → Int
  | 0 => 0
  | n + 1 => sm f n + f n
theorem sm_congr {f g : Nat → Int} {n : Nat} (h : ∀ i, i < n → f i = g i) : sm f n = sm g n := by
  induction n with
  | zero => rfl
  | succ n ih => simp only [sm]; rw [ih (fun i hi => h i (by omega)), h n (by omega)]
theorem sm_le {f g : Nat → Int} {n : Nat} (h : ∀ i, i < n → f i ≤ g i) : sm f n ≤ sm g n := by
  induction n with
  | zero => exact Int.le_refl _
  | succ n ih => simp only [sm]; have h1 := ih (fun i hi => h i (by omega)); have h2 := h n (by omega); omega
theorem sm_zero {f : Nat → Int} {n : Nat} (h : ∀ i, i < n → f i = 0) : sm f n = 0 := by
  induction n with
  | zero => rfl
  | succ n ih => simp only [sm]; rw [ih (fun i hi => h i (by omega)), h n (by omega)]; rfl
theorem sm_add (f g : Nat → Int) (n : Nat) : sm (fun i => f i + g i) n = sm f n + sm g n := by
  induction n with
  | zero => rfl
  | succ n ih => simp only [sm]; rw [ih]; omega
theorem sm_neg (f : Nat → Int) (n : Nat) : sm (fun i => - f i) n = - sm f n := by
  induction n with
  | zero => rfl
  | succ n ih => simp only [sm]; rw [ih]; omega
theorem sm_swap (f : Nat → Nat → Int) (n m : Nat) : sm (fun i => sm (fun j => f i j) m) n = sm (fun j => sm (fun i => f i j) n) m := by
  induction n with
  | zero => simp only [sm]; rw [sm_zero (fun _ _ => rfl)]
  | succ n ih =>
    simp only [sm]
    rw [ih, sm_add]
/-- Two sums that are alike term by term but where one is less are alike. -/
theorem sm_tight {f g : Nat → Int} {n : Nat} (h : ∀ i, i < n → f i ≤ g i) (e : sm g n ≤ sm f n) : ∀ i, i < n → f i = g i := by
  induction n with
  | zero => intro i hi; omega
  | succ n ih =>
    simp only [sm] at e
    have h1 := sm_le (fun i (hi : i < n) => h i (by omega))
    have h2 := h n (by omega)
    intro i hi
    by_cases ei : i = n
    · subst ei; omega
    · exact ih (fun i hi => h i (by omega)) (by omega) i (by omega)
theorem sm_one {f : Nat → Int} {n t : Nat} (ht : t < n) (h : ∀ i, i < n → i ≠ t → f i = 0) : sm f n = f t := by
  induction n with
  | zero => omega
  | succ n ih =>
    simp only [sm]
    by_cases e : t = n
    · subst e
      rw [sm_zero (fun i hi => h i (by omega) (by omega))]; omega
    · rw [ih (by omega) (fun i hi => h i (by omega)), h n (by omega) (by omega)]; omega

/-- A flow to the place t: F a b goes from a to b. -/
structure Flow (n : Nat) (c : Nat → Nat → Int) (held : Nat → Nat → Prop) (src : Nat → Prop) (t : Nat) (F : Nat → Nat → Int) (k : Int) : Prop where
  anti : ∀ a b, F a b = - F b a
  most : ∀ a b, a < n → b < n → ¬ held a b → F a b ≤ c a b
  cons : ∀ a, a < n → ¬ src a → a ≠ t → sm (fun b => F a b) n = 0
  val : sm (fun b => F b t) n = k
/-- A set of places about t that no row that cannot be shut leads into. -/
structure Cut (n : Nat) (held : Nat → Nat → Prop) (src : Nat → Prop) (t : Nat) (M : Nat → Bool) : Prop where
  self : M t = true
  src : ∀ a, a < n → src a → M a = false
  free : ∀ a b, a < n → b < n → M a = false → M b = true → ¬ held a b
/-- What comes in over the border. -/
def inn (n : Nat) (M : Nat → Bool) (F : Nat → Nat → Int) : Int := sm (fun b => sm (fun a => if M a = false ∧ M b = true then F a b else 0) n) n

theorem Flow.inn_eq {n : Nat} {c : Nat → Nat → Int} {held : Nat → Nat → Prop} {src : Nat → Prop} {t : Nat} {F : Nat → Nat → Int} {k : Int} (h : Flow n c held src t F k) (ht : t < n) {M : Nat → Bool} (hM : Cut n held src t M) : inn n M F = k := by
  -- all that comes into places of M
  have e1 : sm (fun b => sm (fun a => if M b = true then F a b else 0) n) n = k := by
    rw [sm_one ht (fun b hb ne => ?_)]
    · rw [← h.val]; exact sm_congr (fun a _ => by rw [if_pos hM.self])
    · cases e : M b with
      | false => exact sm_zero (fun a _ => by simp)
      | true =>
        have : sm (fun a => if true = true then F a b else 0) n = - sm (fun a => F b a) n := by
          rw [← sm_neg]; exact sm_congr (fun a _ => by rw [if_pos rfl]; exact h.anti a b)
        rw [this, h.cons b hb (fun hs => by have := hM.src b hb hs; rw [this] at e; cases e) ne]; rfl
  have e2 : sm (fun b => sm (fun a => if M a = true ∧ M b = true then F a b else 0) n) n = 0 := by
    have s : sm (fun b => sm (fun a => if M a = true ∧ M b = true then F a b else 0) n) n = - sm (fun b => sm (fun a => if M a = true ∧ M b = true then F a b else 0) n) n := by
      conv => lhs; rw [sm_swap (fun b a => if M a = true ∧ M b = true then F a b else 0)]
      rw [← sm_neg]
      refine sm_congr (fun b hb => ?_)
      rw [← sm_neg]
      refine sm_congr (fun a ha => ?_)
      by_cases e : M a = true ∧ M b = true
      · rw [if_pos e, if_pos ⟨e.2, e.1⟩]; exact h.anti b a
      · rw [if_neg e, if_neg (fun x => e ⟨x.2, x.1⟩)]; rfl
    omega
  have e3 : sm (fun b => sm (fun a => if M b = true then F a b else 0) n) n = inn n M F + sm (fun b => sm (fun a => if M a = true ∧ M b = true then F a b else 0) n) n := by
    unfold inn
    rw [← sm_add]
    refine sm_congr (fun b hb => ?_)
    rw [← sm_add]
    refine sm_congr (fun a ha => ?_)
    cases ea : M a <;> cases eb : M b <;> simp
  omega

theorem Flow.le_cut {n : Nat} {c : Nat → Nat → Int} {held : Nat → Nat → Prop} {src : Nat → Prop} {t : Nat} {F : Nat → Nat → Int} {k : Int} (h : Flow n c held src t F k) (ht : t < n) {M : Nat → Bool} (hM : Cut n held src t M) : k ≤ inn n M c := by
  rw [← h.inn_eq ht hM]
  refine sm_le (fun b hb => sm_le (fun a ha => ?_))
  by_cases e : M a = false ∧ M b = true
  · rw [if_pos e, if_pos e]; exact h.most a b ha hb (hM.free a b ha hb e.1 e.2)
  · rw [if_neg e, if_neg e]; exact Int.le_refl _
/-- Where a cut is as small as the flow, no more can go over it. -/
theorem Flow.full {n : Nat} {c : Nat → Nat → Int} {held : Nat → Nat → Prop} {src : Nat → Prop} {t : Nat} {F : Nat → Nat → Int} {k : Int} (h : Flow n c held src t F k) (ht : t < n) {M : Nat → Bool} (hM : Cut n held src t M) (hk : inn n M c ≤ k) {a b : Nat} (ha : a < n) (hb : b < n) (ea : M a = false) (eb : M b = true) : F a b = c a b := by
  have h0 := h.inn_eq ht hM
  have hle : ∀ b, b < n → ∀ a, a < n → (if M a = false ∧ M b = true then F a b else 0) ≤ (if M a = false ∧ M b = true then c a b else 0) := by
    intro b hb a ha
    by_cases e : M a = false ∧ M b = true
    · rw [if_pos e, if_pos e]; exact h.most a b ha hb (hM.free a b ha hb e.1 e.2)
    · rw [if_neg e, if_neg e]; exact Int.le_refl _
  unfold inn at h0 hk
  have h1 := sm_tight (n := n) (fun b hb => sm_le (fun a ha => hle b hb a ha)) (by rw [h0]; exact hk) b hb
  have h2 := sm_tight (n := n) (fun a ha => hle b hb a ha) (by rw [h1]; exact Int.le_refl _) a ha
  rw [if_pos ⟨ea, eb⟩, if_pos ⟨ea, eb⟩] at h2
  exact h2
/-- More can go from a to b. -/
def Room (c : Nat → Nat → Int) (held : Nat → Nat → Prop) (F : Nat → Nat → Int) (a b : Nat) : Prop := held a b ∨ F a b < c a b
/-- The places from which more could go to t: closed, and each reached. -/
structure Near (n : Nat) (c : Nat → Nat → Int) (held : Nat → Nat → Prop) (F : Nat → Nat → Int) (t : Nat) (N : Nat → Bool) : Prop where
  self : N t = true
  shut : ∀ a b, a < n → b < n → N a = false → N b = true → ¬ Room c held F a b
  least : ∀ M : Nat → Bool, M t = true → (∀ a b, a < n → b < n → M a = false → M b = true → ¬ Room c held F a b) → ∀ a, a < n → N a = true → M a = true
theorem Near.cut {n : Nat} {c : Nat → Nat → Int} {held : Nat → Nat → Prop} {src : Nat → Prop} {t : Nat} {F : Nat → Nat → Int} {N : Nat → Bool} (h : Near n c held F t N) (hs : ∀ a, a < n → src a → N a = false) : Cut n held src t N :=
  ⟨h.self, hs, fun a b ha hb ea eb x => h.shut a b ha hb ea eb (Or.inl x)⟩
theorem Near.size {n : Nat} {c : Nat → Nat → Int} {held : Nat → Nat → Prop} {src : Nat → Prop} {t : Nat} {F : Nat → Nat → Int} {k : Int} {N : Nat → Bool} (h : Near n c held F t N) (hf : Flow n c held src t F k) (ht : t < n) (hs : ∀ a, a < n → src a → N a = false) : inn n N c = k := by
  have hc := h.cut hs
  rw [← hf.inn_eq ht hc]
  unfold inn
  refine sm_congr (fun b hb => sm_congr (fun a ha => ?_))
  by_cases e : N a = false ∧ N b = true
  · rw [if_pos e, if_pos e]
    have h1 := h.shut a b ha hb e.1 e.2
    have h2 := hf.most a b ha hb (fun x => h1 (Or.inl x))
    have h3 : ¬ F a b < c a b := fun x => h1 (Or.inr x)
    omega
  · rw [if_neg e, if_neg e]
/-- What is near by a greatest flow lies in every least cut. -/
theorem Near.sub {n : Nat} {c : Nat → Nat → Int} {held : Nat → Nat → Prop} {src : Nat → Prop} {t : Nat} {F : Nat → Nat → Int} {k : Int} {N : Nat → Bool} (h : Near n c held F t N) (hf : Flow n c held src t F k) (ht : t < n) {M : Nat → Bool} (hM : Cut n held src t M) (hk : inn n M c ≤ k) : ∀ a, a < n → N a = true → M a = true := by
  refine h.least M hM.self (fun a b ha hb ea eb x => ?_)
  rcases x with x | x
  · exact hM.free a b ha hb ea eb x
  · have := hf.full ht hM hk ha hb ea eb; omega
theorem Near.same {n : Nat} {c : Nat → Nat → Int} {held : Nat → Nat → Prop} {src : Nat → Prop} {t : Nat} {F F' : Nat → Nat → Int} {k k' : Int} {N N' : Nat → Bool} (h : Near n c held F t N) (hf : Flow n c held src t F k) (hs : ∀ a, a < n → src a → N a = false) (h' : Near n c held F' t N') (hf' : Flow n c held src t F' k') (hs' : ∀ a, a < n → src a → N' a = false) (ht : t < n) : k = k' ∧ ∀ a, a < n → N a = N' a := by
  have e1 := h.size hf ht hs
  have e2 := h'.size hf' ht hs'
  have l1 := hf.le_cut ht (h'.cut hs')
  have l2 := hf'.le_cut ht (h.cut hs)
  have ek : k = k' := by omega
  refine ⟨ek, fun a ha => ?_⟩
  have s1 := h.sub hf ht (h'.cut hs') (by omega) a ha
  have s2 := h'.sub hf' ht (h.cut hs) (by omega) a ha
  cases e : N a with
  | true => exact (s1 e).symm
  | false =>
    cases e' : N' a with
    | false => rfl
    | true => rw [s2 e'] at e; cases e
end Fl
end Go.Proofs.YtipmjobhegpdgaaGreatDoor
