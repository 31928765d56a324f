/-
  Ways taken one by one between places, as the program takes them: mathematics.
-/
import Derived.Test.YtipmjobhegpdgaaGreatDoorPlF1
namespace Go.Proofs.YtipmjobhegpdgaaGreatDoor
open Go.RowKit Go.Deep
namespace Fl
/-- One more from u to v. -/
def bump (F : Nat → Nat → Int) (u v : Nat) : Nat → Nat → Int := fun a b => F a b + (if a = u ∧ b = v then 1 else 0) - (if a = v ∧ b = u then 1 else 0)
theorem bump_anti {F : Nat → Nat → Int} (h : ∀ a b, F a b = - F b a) (u v : Nat) : ∀ a b, bump F u v a b = - bump F u v b a := fun a b => by
  unfold bump
  have h1 := h a b
  have e1 : (if b = u ∧ a = v then (1 : Int) else 0) = if a = v ∧ b = u then 1 else 0 := by simp only [And.comm]
  have e2 : (if b = v ∧ a = u then (1 : Int) else 0) = if a = u ∧ b = v then 1 else 0 := by simp only [And.comm]
  rw [e1, e2]
  omega
theorem bump_sum {F : Nat → Nat → Int} {n u v a : Nat} (hu : u < n) (hv : v < n) : sm (fun b => bump F u v a b) n = sm (fun b => F a b) n + (if a = u then 1 else 0) - (if a = v then 1 else 0) := by
  unfold bump
  rw [sm_sub (fun b => F a b + (if a = u ∧ b = v then 1 else 0)), sm_add]
  have e1 : sm (fun b => if a = u ∧ b = v then (1 : Int) else 0) n = if a = u then 1 else 0 := by
    rw [← sm_ind hv (a = u) 1]
    exact sm_congr (fun b _ => by simp only [eq_comm])
  have e2 : sm (fun b => if a = v ∧ b = u then (1 : Int) else 0) n = if a = v then 1 else 0 := by
    rw [← sm_ind hu (a = v) 1]
    exact sm_congr (fun b _ => by simp only [eq_comm])
  rw [e1, e2]
/-- A way that is being taken, from a source on; it stands at x. -/
structure AugF (n : Nat) (c : Nat → Nat → Int) (held : Nat → Nat → Prop) (src : Nat → Prop) (t : Nat) (F : Nat → Nat → Int) (nx : Nat → Int) (rk : Nat → Nat) (cur : Nat → Nat → Int) (x : Nat) (k : Int) : Prop where
  anti : ∀ a b, cur a b = - cur b a
  fanti : ∀ a b, F a b = - F b a
  net : ∀ a, a < n → ¬ src a → sm (fun b => cur a b) n = (if a = t then - k else 0) - (if a = x then 1 else 0)
  same : ∀ v, v < n → rk v ≤ rk x → nx v ≠ -1 → cur v (nx v).toNat = F v (nx v).toNat
  most : ∀ a b, a < n → b < n → ¬ held a b → cur a b ≤ c a b
  near : ∀ a b, F a b - 1 ≤ cur a b ∧ cur a b ≤ F a b + 1
  lt : x < n
  reach : nx x ≠ -1
theorem AugF.start {n : Nat} {c : Nat → Nat → Int} {held : Nat → Nat → Prop} {src : Nat → Prop} {t : Nat} {F : Nat → Nat → Int} {nx : Nat → Int} {rk : Nat → Nat} {k : Int} (h : Flow n c held src t F k) (hts : ¬ src t) {s : Nat} (hs : src s) (hn : s < n) (hr : nx s ≠ -1) : AugF n c held src t F nx rk F s k := by
  refine ⟨h.anti, h.anti, fun a ha hsa => ?_, fun _ _ _ _ => rfl, h.most, fun a b => by omega, hn, hr⟩
  have hne : ¬ a = s := fun e => hsa (e ▸ hs)
  rw [if_neg hne]
  by_cases e : a = t
  · subst e
    rw [if_pos rfl]
    have h1 : sm (fun b => F a b) n = - sm (fun b => F b a) n := by rw [← sm_neg]; exact sm_congr (fun b _ => h.anti a b)
    rw [h1, h.val]; omega
  · rw [if_neg e, h.cons a ha hsa e]; rfl
theorem AugF.step {n : Nat} {c : Nat → Nat → Int} {held : Nat → Nat → Prop} {src : Nat → Prop} {t : Nat} {F : Nat → Nat → Int} {nx : Nat → Int} {rk : Nat → Nat} {k : Int} {cur : Nat → Nat → Int} {x y : Nat} (h : AugF n c held src t F nx rk cur x k)
    (hv : ∀ v, v < n → nx v ≠ -1 → (v = t ∧ nx v = (v : Int)) ∨ (Room c held F v (nx v).toNat ∧ nx (nx v).toNat ≠ -1 ∧ rk (nx v).toNat < rk v)) (hy : nx x = (y : Int)) (hyn : y < n) (hne : y ≠ x) : AugF n c held src t F nx rk (bump cur x y) y k ∧ rk y < rk x ∧ Room c held cur x y := by
  have hxy : (nx x).toNat = y := by omega
  obtain ⟨hR, hn, hrk⟩ : Room c held F x y ∧ nx y ≠ -1 ∧ rk y < rk x := by
    rcases hv x h.lt h.reach with ⟨_, e⟩ | e
    · rw [hy] at e; exact absurd (by omega) hne
    · rw [hxy] at e; exact e
  have hsx := h.same x h.lt (Nat.le_refl _) h.reach
  rw [hxy] at hsx
  have hRc : Room c held cur x y := hR.elim Or.inl (fun e => Or.inr (by rw [hsx]; exact e))
  refine ⟨⟨bump_anti h.anti x y, h.fanti, fun a ha hsa => ?_, fun v hvn hvr hvx => ?_, fun a b ha hb hh => ?_, fun a b => ?_, hyn, hn⟩, hrk, hRc⟩
  · rw [bump_sum h.lt hyn, h.net a ha hsa]
    by_cases e1 : a = x
    · have e2 : ¬ a = y := fun e => hne (by omega)
      rw [if_pos e1, if_neg e2]
      omega
    · by_cases e2 : a = y
      · simp only [if_neg e1, if_pos e2]; omega
      · simp only [if_neg e1, if_neg e2]; omega
  · unfold bump
    have h1 : ¬ (v = x ∧ (nx v).toNat = y) := fun e => by rw [e.1] at hvr; omega
    have h2 : ¬ (v = y ∧ (nx v).toNat = x) := fun e => by
      rcases hv v hvn hvx with ⟨_, e3⟩ | ⟨_, _, e3⟩
      · rw [e.1] at e3
        have e4 := e.2
        rw [e.1] at e4
        omega
      · rw [e.2, e.1] at e3; omega
    rw [if_neg h1, if_neg h2, h.same v hvn (by omega) hvx]
    omega
  · unfold bump
    have hm := h.most a b ha hb hh
    by_cases e1 : a = x ∧ b = y
    · have e2 : ¬ (a = y ∧ b = x) := fun e => hne (by omega)
      rw [if_pos e1, if_neg e2]
      rcases hRc with r | r
      · exact absurd r (by rw [e1.1, e1.2] at hh; exact hh)
      · rw [e1.1, e1.2]; omega
    · rw [if_neg e1]
      split <;> omega
  · have hn2 := h.near a b
    unfold bump
    by_cases e1 : a = x ∧ b = y
    · have e2 : ¬ (a = y ∧ b = x) := fun e => hne (by omega)
      rw [if_pos e1, if_neg e2, e1.1, e1.2, hsx]; omega
    · by_cases e2 : a = y ∧ b = x
      · have h3 := h.anti y x
        have h4 := h.fanti y x
        rw [if_neg e1, if_pos e2, e2.1, e2.2]
        omega
      · rw [if_neg e1, if_neg e2]; omega
theorem AugF.stop {n : Nat} {c : Nat → Nat → Int} {held : Nat → Nat → Prop} {src : Nat → Prop} {t : Nat} {F : Nat → Nat → Int} {nx : Nat → Int} {rk : Nat → Nat} {k : Int} {cur : Nat → Nat → Int} (h : AugF n c held src t F nx rk cur t k) (hts : ¬ src t) : Flow n c held src t cur (k + 1) := by
  refine ⟨h.anti, h.most, fun a ha hsa hne => ?_, ?_⟩
  · rw [h.net a ha hsa, if_neg hne, if_neg hne]; rfl
  · have h1 : sm (fun b => cur b t) n = - sm (fun b => cur t b) n := by rw [← sm_neg]; exact sm_congr (fun b _ => h.anti b t)
    rw [h1, h.net t h.lt hts, if_pos rfl, if_pos rfl]; omega
/-- What a search from t tells of the near places. -/
theorem found_near {n : Nat} {c : Nat → Nat → Int} {held : Nat → Nat → Prop} {F : Nat → Nat → Int} {t : Nat} {nx : Nat → Int} {R : Nat → Nat → Prop} (ht : t < n) (hR : ∀ a b, a < n → b < n → (R a b ↔ Room c held F a b)) (h : Found n (fun v => v = t) R nx) : Near n c held F t (fun v => nx v != -1) := by
  refine ⟨?_, fun a b ha hb ea eb x => ?_, fun M hM hc a ha e => ?_⟩
  · rw [h.goals t ht rfl]; simp
  · have := h.shut a b ha hb (by simpa using eb) ((hR a b ha hb).2 x)
    simp at ea
    exact this ea
  · refine h.sub (A := fun v => M v = true) (fun v _ e => by rw [e]; exact hM) (fun a b ha hb hr eb => ?_) a ha (by simpa using e)
    cases ea : M a with
    | true => rfl
    | false => exact absurd ((hR a b ha hb).1 hr) (hc a b ha hb ea eb)
theorem found_best {p : Pl.Plan} {F : Nat → Nat → Int} {k : Int} {t : Nat} {nx : Nat → Int} {R : Nat → Nat → Prop} (ht : t < p.hn) (hf : Flow p.hn (cc p) (hh p) (isSrc p) t F k) (hR : ∀ a b, a < p.hn → b < p.hn → (R a b ↔ Room (cc p) (hh p) F a b)) (h : Found p.hn (fun v => v = t) R nx) (hs : ∀ a, a < p.hn → isSrc p a → nx a = -1) : Best p t (fun v => nx v != -1) :=
  ⟨⟨F, k, hf, found_near ht hR h⟩, fun a ha hsa => by simp [hs a ha hsa]⟩
/-- The steps of a search, as the way that is taken wants them. -/
theorem found_steps {n : Nat} {c : Nat → Nat → Int} {held : Nat → Nat → Prop} {F : Nat → Nat → Int} {t : Nat} {nx : Nat → Int} {R : Nat → Nat → Prop} (hR : ∀ a b, a < n → b < n → (R a b ↔ Room c held F a b)) (h : Found n (fun v => v = t) R nx) : ∃ rk : Nat → Nat, ∀ v, v < n → nx v ≠ -1 → (v = t ∧ nx v = (v : Int)) ∨ (Room c held F v (nx v).toNat ∧ nx (nx v).toNat ≠ -1 ∧ rk (nx v).toNat < rk v) := by
  obtain ⟨rk, hr⟩ := h.rank
  refine ⟨rk, fun v hv hn => ?_⟩
  rcases hr v hv hn with e | ⟨e1, e2, e3⟩
  · exact Or.inl e
  · have hb : (nx v).toNat < n := by
      rcases h.rng v hv with z | z
      · exact absurd z hn
      · omega
    exact Or.inr ⟨(hR v _ hv hb).1 e1, e2, e3⟩
/-- The places that are dry by all good rows are a cut. -/
theorem dry_cut {p : Pl.Plan} (_hr : Pl.Right p) {t : Nat} (hd : ¬ Pl.Wet p (Pl.Good p) t) : Cut p.hn (hh p) (isSrc p) t (fun v => dB (¬ Pl.Wet p (Pl.Good p) v)) := by
  refine ⟨dB_tt hd, fun a _ hs => ?_, fun a b _ _ ea eb hH => ?_⟩
  · obtain ⟨i, hi, e⟩ := hs
    refine dB_ff (fun x => x ?_)
    have := Pl.Wet.src (p := p) (sh := Pl.Good p) i hi
    rw [e] at this
    simpa using this
  · obtain ⟨i, hi, hb, hv⟩ := hH
    have hng : ¬ Pl.Good p i := fun x => hv x.2
    have hwb : ¬ Pl.Wet p (Pl.Good p) b := dB_iff.1 eb
    have hwa : Pl.Wet p (Pl.Good p) a := Classical.byContradiction (fun x => by rw [dB_tt x] at ea; cases ea)
    rcases hb with ⟨e1, e2⟩ | ⟨e1, e2⟩
    · exact hwb (by rw [← e2]; exact .fwd i hi hng (by rw [e1]; exact hwa))
    · exact hwb (by rw [← e1]; exact .bwd i hi hng (by rw [e2]; exact hwa))
theorem sm_bd {f : Nat → Int} {n : Nat} {B : Int} (h : ∀ i, i < n → f i ≤ B) : sm f n ≤ n * B := by
  induction n with
  | zero => simp [sm]
  | succ n ih =>
    simp only [sm]
    have h1 := ih (fun i hi => h i (by omega))
    have h2 := h n (by omega)
    have e : ((n + 1 : Nat) : Int) * B = n * B + B := by rw [Int.natCast_add, Int.add_mul]; simp
    omega
theorem cc_bd (p : Pl.Plan) (a b : Nat) : cc p a b ≤ p.rn := by
  unfold cc
  have := sm_bd (f := fun i => if btw p i a b then (1 : Int) else 0) (n := p.rn) (B := 1) (fun i _ => by split <;> omega)
  omega
/-- The number of ways is bounded. -/
theorem Flow.few {p : Pl.Plan} (hr : Pl.Right p) {t : Nat} (ht : t < p.hn) (hd : ¬ Pl.Wet p (Pl.Good p) t) {F : Nat → Nat → Int} {k : Int} (h : Flow p.hn (cc p) (hh p) (isSrc p) t F k) : k ≤ 160000 := by
  have h1 := h.le_cut ht (dry_cut hr hd)
  have h2 : inn p.hn (fun v => dB (¬ Pl.Wet p (Pl.Good p) v)) (cc p) ≤ p.hn * (p.hn * 100) := by
    unfold inn
    refine sm_bd (fun b _ => sm_bd (fun a _ => ?_))
    split
    · have := cc_bd p a b; have := hr.r; omega
    · omega
  have h3 := hr.h2
  have h4 : ((p.hn : Int) * ((p.hn : Int) * 100)) ≤ 40 * (40 * 100) := Int.mul_le_mul (by omega) (by omega) (by omega) (by omega)
  omega
end Fl
end Go.Proofs.YtipmjobhegpdgaaGreatDoor
