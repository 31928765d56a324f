/-
  The flows of bundles as flows between places: mathematics.
-/
import Derived.Test.YtipmjobhegpdgaaGreatDoorPlG1
import Derived.Test.YtipmjobhegpdgaaGreatDoorPlD0
namespace Go.Proofs.YtipmjobhegpdgaaGreatDoor
open Go Go.RowKit Go.Deep
namespace Fl
theorem lo_comm (a b : Int) : Pl.lo a b = Pl.lo b a := by unfold Pl.lo; split <;> split <;> omega
theorem hi_comm (a b : Int) : Pl.hi a b = Pl.hi b a := by unfold Pl.hi; split <;> split <;> omega
theorem lohi_inj {a b u v : Nat} (h : (Pl.lo (a : Int) (b : Int), Pl.hi (a : Int) (b : Int)) = (Pl.lo (u : Int) (v : Int), Pl.hi (u : Int) (v : Int))) : (a = u ∧ b = v) ∨ (a = v ∧ b = u) := by
  simp only [Prod.mk.injEq] at h
  unfold Pl.lo Pl.hi at h
  obtain ⟨h1, h2⟩ := h
  by_cases c1 : (a : Int) ≤ b <;> by_cases c2 : (u : Int) ≤ v <;> simp only [c1, c2, if_true, if_false] at h1 h2 <;> omega
/-- What goes from a to b, by the bundles. -/
noncomputable def FB (cnt : Nat) (kf : Nat → Int × Int) (fl : Nat → Int) (a b : Nat) : Int :=
  @dite _ (a ≠ b ∧ ∃ j, j < cnt ∧ kf j = (Pl.lo (a : Int) (b : Int), Pl.hi (a : Int) (b : Int))) (Classical.propDecidable _) (fun h => dirF a b (fl (Classical.choose h.2))) (fun _ => 0)
theorem FB_at {cnt : Nat} {kf : Nat → Int × Int} {fl : Nat → Int} (hinj : ∀ i j, i < cnt → j < cnt → kf i = kf j → i = j) {a b j : Nat} (hne : a ≠ b) (hj : j < cnt) (e : kf j = (Pl.lo (a : Int) (b : Int), Pl.hi (a : Int) (b : Int))) : FB cnt kf fl a b = dirF a b (fl j) := by
  have h : a ≠ b ∧ ∃ j, j < cnt ∧ kf j = (Pl.lo (a : Int) (b : Int), Pl.hi (a : Int) (b : Int)) := ⟨hne, j, hj, e⟩
  unfold FB
  rw [dif_pos h]
  have hc := Classical.choose_spec h.2
  rw [hinj _ j hc.1 hj (hc.2.trans e.symm)]
theorem FB_none {cnt : Nat} {kf : Nat → Int × Int} {fl : Nat → Int} {a b : Nat} (h : ¬ (a ≠ b ∧ ∃ j, j < cnt ∧ kf j = (Pl.lo (a : Int) (b : Int), Pl.hi (a : Int) (b : Int)))) : FB cnt kf fl a b = 0 := by
  unfold FB
  rw [dif_neg h]
theorem dirF_anti {a b : Nat} (h : a ≠ b) (x : Int) : dirF a b x = - dirF b a x := by
  unfold dirF
  split <;> split <;> omega
theorem FB_anti {cnt : Nat} {kf : Nat → Int × Int} {fl : Nat → Int} (hinj : ∀ i j, i < cnt → j < cnt → kf i = kf j → i = j) (a b : Nat) : FB cnt kf fl a b = - FB cnt kf fl b a := by
  by_cases h : a ≠ b ∧ ∃ j, j < cnt ∧ kf j = (Pl.lo (a : Int) (b : Int), Pl.hi (a : Int) (b : Int))
  · obtain ⟨hne, j, hj, e⟩ := h
    have e2 : kf j = (Pl.lo (b : Int) (a : Int), Pl.hi (b : Int) (a : Int)) := by rw [lo_comm, hi_comm]; exact e
    rw [FB_at hinj hne hj e, FB_at hinj (Ne.symm hne) hj e2]
    exact dirF_anti hne _
  · have h2 : ¬ (b ≠ a ∧ ∃ j, j < cnt ∧ kf j = (Pl.lo (b : Int) (a : Int), Pl.hi (b : Int) (a : Int))) := fun ⟨hne, j, hj, e⟩ => h ⟨Ne.symm hne, j, hj, by rw [lo_comm, hi_comm]; exact e⟩
    rw [FB_none h, FB_none h2]; rfl
/-- One more over a bundle. -/
theorem FB_bump {cnt : Nat} {kf : Nat → Int × Int} {fl : Nat → Int} (hinj : ∀ i j, i < cnt → j < cnt → kf i = kf j → i = j) {u v j : Nat} (hne : u ≠ v) (hj : j < cnt) (e : kf j = (Pl.lo (u : Int) (v : Int), Pl.hi (u : Int) (v : Int))) : FB cnt kf (updI fl j (fl j + if u < v then 1 else -1)) = bump (FB cnt kf fl) u v := by
  funext a b
  unfold bump
  by_cases h : a ≠ b ∧ ∃ j, j < cnt ∧ kf j = (Pl.lo (a : Int) (b : Int), Pl.hi (a : Int) (b : Int))
  · obtain ⟨hab, i, hi, ei⟩ := h
    rw [FB_at hinj hab hi ei, FB_at hinj hab hi ei]
    by_cases eij : i = j
    · subst eij
      have hk := lohi_inj (ei.symm.trans e)
      unfold updI dirF
      rw [if_pos rfl]
      rcases hk with ⟨rfl, rfl⟩ | ⟨rfl, rfl⟩
      · have q1 : (if a = a ∧ b = b then (1 : Int) else 0) = 1 := if_pos ⟨rfl, rfl⟩
        have q2 : (if a = b ∧ b = a then (1 : Int) else 0) = 0 := if_neg (fun x => hab x.1)
        rw [q1, q2]
        by_cases c : a < b
        · have c2 : ¬ (b : Int) < a := by omega
          rw [if_neg c2, if_pos c, if_neg c2]; omega
        · have c2 : (b : Int) < a := by omega
          rw [if_pos c2, if_neg c, if_pos c2]; omega
      · have q1 : (if a = b ∧ b = a then (1 : Int) else 0) = 0 := if_neg (fun x => hab x.1)
        have q2 : (if a = a ∧ b = b then (1 : Int) else 0) = 1 := if_pos ⟨rfl, rfl⟩
        rw [q1, q2]
        by_cases c : b < a
        · have c2 : (b : Int) < a := by omega
          rw [if_pos c2, if_pos c, if_pos c2]; omega
        · have c2 : ¬ (b : Int) < a := by omega
          rw [if_neg c2, if_neg c, if_neg c2]; omega
    · have h1 : ¬ (a = u ∧ b = v) := fun x => eij (hinj i j hi hj (by rw [ei, e, x.1, x.2]))
      have h2 : ¬ (a = v ∧ b = u) := fun x => eij (hinj i j hi hj (by rw [ei, e, x.1, x.2, lo_comm, hi_comm]))
      rw [if_neg h1, if_neg h2]
      unfold updI
      rw [if_neg eij]
      omega
  · rw [FB_none h, FB_none h]
    have h1 : ¬ (a = u ∧ b = v) := fun x => h ⟨by rw [x.1, x.2]; exact hne, j, hj, by rw [x.1, x.2]; exact e⟩
    have h2 : ¬ (a = v ∧ b = u) := fun x => h ⟨by rw [x.1, x.2]; exact Ne.symm hne, j, hj, by rw [x.1, x.2, lo_comm, hi_comm]; exact e⟩
    rw [if_neg h1, if_neg h2]
    rfl
theorem key_btw {p : Pl.Plan} (hr : Pl.Right p) {i : Nat} (hi : i < p.rn) (a b : Nat) : Pl.key p i = (Pl.lo (a : Int) (b : Int), Pl.hi (a : Int) (b : Int)) ↔ btw p i a b := Pl.key_iff hr hi a b
theorem hh_iff {p : Pl.Plan} (hr : Pl.Right p) {sh : Nat → Prop} (hs : ∀ i, ¬ sh i) (a b : Nat) : hh p a b ↔ Pl.heldB p sh p.rn (Pl.lo (a : Int) (b : Int), Pl.hi (a : Int) (b : Int)) = true := by
  unfold Pl.heldB
  rw [dB_iff]
  constructor
  · rintro ⟨i, hi, hb, hv⟩; exact ⟨i, hi, hs i, (key_btw hr hi a b).2 hb, hv⟩
  · rintro ⟨i, hi, _, hk, hv⟩; exact ⟨i, hi, (key_btw hr hi a b).1 hk, hv⟩
theorem cc_eq {p : Pl.Plan} (hr : Pl.Right p) {sh : Nat → Prop} (hs : ∀ i, ¬ sh i) {a b : Nat} (hn : ¬ hh p a b) : cc p a b = (Pl.goodL p sh p.rn (Pl.lo (a : Int) (b : Int), Pl.hi (a : Int) (b : Int))).length := by
  unfold cc
  have key : ∀ k, k ≤ p.rn → sm (fun i => if btw p i a b then (1 : Int) else 0) k = (Pl.goodL p sh k (Pl.lo (a : Int) (b : Int), Pl.hi (a : Int) (b : Int))).length := by
    intro k
    induction k with
    | zero => intro _; rfl
    | succ k ih =>
      intro hk
      simp only [sm]
      rw [ih (by omega), Pl.goodL_succ]
      by_cases hb : btw p k a b
      · have hg : Pl.gd p k := Classical.byContradiction (fun x => hn ⟨k, by omega, hb, x⟩)
        rw [if_pos hb, dB_tt ⟨hs k, (key_btw hr (by omega) a b).2 hb, hg⟩]
        simp
      · rw [if_neg hb, dB_ff (fun x => hb ((key_btw hr (by omega) a b).1 x.2.1))]
        simp
  exact key p.rn (Nat.le_refl _)
/-- Room by the bundles is room between places. -/
theorem roomB_iff {p : Pl.Plan} (hr : Pl.Right p) {sh : Nat → Prop} (hs : ∀ i, ¬ sh i) {cnt : Nat} {kf : Nat → Int × Int} {fl : Nat → Int} (hinj : ∀ i j, i < cnt → j < cnt → kf i = kf j → i = j) (hko : KeysOk cnt kf p.hn) (hall : ∀ i, i < p.rn → ∃ j, j < cnt ∧ kf j = Pl.key p i) (a b : Nat) :
    RoomR cnt kf (fun j => (Pl.goodL p sh p.rn (kf j)).length) (fun j => Pl.heldB p sh p.rn (kf j)) fl a b ↔ Room (cc p) (hh p) (FB cnt kf fl) a b := by
  constructor
  · rintro ⟨j, hj, e, h⟩
    have hne : a ≠ b := fun x => by
      have := hko j hj
      rw [e, x] at this
      simp only at this
      unfold Pl.lo Pl.hi at this
      split at this <;> omega
    by_cases hH : hh p a b
    · exact Or.inl hH
    · right
      rcases h with h | h
      · simp only [e] at h
        exact absurd ((hh_iff hr hs a b).2 h) hH
      · simp only [e] at h
        rw [FB_at hinj hne hj e, cc_eq hr hs hH]
        exact h
  · rintro (⟨i, hi, hb, hv⟩ | h)
    · obtain ⟨j, hj, e⟩ := hall i hi
      rw [(key_btw hr hi a b).2 hb] at e
      refine ⟨j, hj, e, Or.inl ?_⟩
      simp only [e]
      exact (hh_iff hr hs a b).1 ⟨i, hi, hb, hv⟩
    · by_cases hH : hh p a b
      · obtain ⟨i, hi, hb, hv⟩ := hH
        obtain ⟨j, hj, e⟩ := hall i hi
        rw [(key_btw hr hi a b).2 hb] at e
        refine ⟨j, hj, e, Or.inl ?_⟩
        simp only [e]
        exact (hh_iff hr hs a b).1 ⟨i, hi, hb, hv⟩
      · by_cases hx : a ≠ b ∧ ∃ j, j < cnt ∧ kf j = (Pl.lo (a : Int) (b : Int), Pl.hi (a : Int) (b : Int))
        · obtain ⟨hne, j, hj, e⟩ := hx
          refine ⟨j, hj, e, Or.inr ?_⟩
          simp only [e]
          rw [FB_at hinj hne hj e, cc_eq hr hs hH] at h
          exact h
        · rw [FB_none hx] at h
          have hz : cc p a b = 0 := by
            unfold cc
            refine sm_zero (fun i hi => ?_)
            rw [if_neg (fun hb => hx ⟨fun x => ?_, ?_⟩)]
            · have := hr.ne hi
              unfold btw at hb
              omega
            · obtain ⟨j, hj, e⟩ := hall i hi
              exact ⟨j, hj, e.trans ((key_btw hr hi a b).2 hb)⟩
          omega
/-- Nothing goes at first. -/
theorem flow_zero (p : Pl.Plan) (cnt : Nat) (kf : Nat → Int × Int) (t : Nat) : Flow p.hn (cc p) (hh p) (isSrc p) t (FB cnt kf (fun _ => 0)) 0 := by
  have hz : ∀ a b, FB cnt kf (fun _ => 0) a b = 0 := fun a b => by
    unfold FB dirF
    split
    · split <;> rfl
    · rfl
  refine ⟨fun a b => by rw [hz, hz]; rfl, fun a b _ _ _ => ?_, fun a _ _ _ => sm_zero (fun b _ => hz a b), sm_zero (fun b _ => hz b t)⟩
  rw [hz]
  unfold cc
  have : sm (fun _ => (0 : Int)) p.rn ≤ sm (fun i => if btw p i a b then (1 : Int) else 0) p.rn := sm_le (fun i _ => by split <;> omega)
  rw [sm_zero (fun _ _ => rfl)] at this
  exact this
end Fl
end Go.Proofs.YtipmjobhegpdgaaGreatDoor
