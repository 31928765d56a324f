/-
  The rows around the near places: mathematics.
-/
import Derived.Test.YtipmjobhegpdgaaGreatDoorPlH0
namespace Go.Proofs.YtipmjobhegpdgaaGreatDoor
open Go Go.RowKit Go.Deep

theorem key_seq_inj {cnt : Nat} {kf : Nat → Int × Int} {f : Nat → Int} (hinj : ∀ i j, i < cnt → j < cnt → kf i = kf j → i = j) (h : ∀ j, j < cnt → ∃ i, i < cnt ∧ kf j = (f (i * 2), f (i * 2 + 1))) : ∀ i i', i < cnt → i' < cnt → (f (i * 2), f (i * 2 + 1)) = (f (i' * 2), f (i' * 2 + 1)) → i = i' := by
  have hc : ∀ j, ∃ i, j < cnt → i < cnt ∧ kf j = (f (i * 2), f (i * 2 + 1)) := fun j => by
    by_cases hj : j < cnt
    · obtain ⟨i, h1⟩ := h j hj; exact ⟨i, fun _ => h1⟩
    · exact ⟨0, fun x => absurd x hj⟩
  obtain ⟨ψ, hψ⟩ := Classical.axiomOfChoice hc
  have hpi : ∀ j j', j < cnt → j' < cnt → ψ j = ψ j' → j = j' := fun j j' hj hj' e => hinj j j' hj hj' (by rw [(hψ j hj).2, (hψ j' hj').2, e])
  have hnd : ((List.range cnt).map ψ).Nodup := by
    rw [List.nodup_iff_pairwise_ne, List.pairwise_map]
    have : (List.range cnt).Pairwise (fun a b => a < cnt ∧ b < cnt ∧ a ≠ b) := by
      have h1 : (List.range cnt).Pairwise (· < ·) := List.pairwise_lt_range
      refine List.Pairwise.imp_of_mem (fun {a b} ha hb hab => ⟨List.mem_range.1 ha, List.mem_range.1 hb, by omega⟩) h1
    exact this.imp (fun {a b} x e => x.2.2 (hpi a b x.1 x.2.1 e))
  have hsur : ∀ i, i < cnt → ∃ j, j < cnt ∧ ψ j = i := fun i hi => Classical.byContradiction (fun hno => by
    have hni : i ∉ (List.range cnt).map ψ := fun hm => by
      obtain ⟨j, hj, e⟩ := List.mem_map.1 hm
      exact hno ⟨j, List.mem_range.1 hj, e⟩
    have h2 : (i :: (List.range cnt).map ψ).Nodup := List.nodup_cons.2 ⟨hni, hnd⟩
    have h3 := nodup_len (n := cnt) h2 (fun j hj => by
      rcases List.mem_cons.1 hj with e | e
      · omega
      · obtain ⟨q, hq, e2⟩ := List.mem_map.1 e
        rw [← e2]; exact (hψ q (List.mem_range.1 hq)).1)
    simp at h3
    omega)
  intro i i' hi hi' e
  obtain ⟨j, hj, rfl⟩ := hsur i hi
  obtain ⟨j', hj', rfl⟩ := hsur i' hi'
  rw [hinj j j' hj hj' (by rw [(hψ j hj).2, (hψ j' hj').2, e])]
/-- The rows that are gathered from the first bundles. -/
noncomputable def gath (p : Pl.Plan) (sh : Nat → Prop) (nx : Nat → Int) (f : Nat → Int) : Nat → List Nat
  | 0 => []
  | i + 1 => gath p sh nx f i ++ (if ((nx (f (i * 2)).toNat == -1) != (nx (f (i * 2 + 1)).toNat == -1)) = true then Pl.goodL p sh p.rn (f (i * 2), f (i * 2 + 1)) else [])
theorem gath_mem {p : Pl.Plan} {sh : Nat → Prop} {nx f : Nat → Int} {r : Nat} : ∀ c, r ∈ gath p sh nx f c ↔ ∃ i, i < c ∧ ((nx (f (i * 2)).toNat == -1) != (nx (f (i * 2 + 1)).toNat == -1)) = true ∧ r ∈ Pl.goodL p sh p.rn (f (i * 2), f (i * 2 + 1)) := by
  intro c
  induction c with
  | zero => simp [gath]
  | succ c ih =>
    simp only [gath, List.mem_append, ih]
    constructor
    · rintro (⟨i, h1, h2⟩ | h)
      · exact ⟨i, by omega, h2⟩
      · split at h
        · rename_i hc
          exact ⟨c, by omega, hc, h⟩
        · cases h
    · rintro ⟨i, h1, h2, h3⟩
      by_cases e : i = c
      · subst e; right; rw [if_pos h2]; exact h3
      · exact Or.inl ⟨i, by omega, h2, h3⟩
theorem goodL_mem {p : Pl.Plan} {sh : Nat → Prop} {k r : Nat} {κ : Int × Int} : r ∈ Pl.goodL p sh k κ ↔ r < k ∧ ¬ sh r ∧ Pl.key p r = κ ∧ Pl.gd p r := by
  unfold Pl.goodL
  rw [List.mem_filter, List.mem_range, dB_iff]
theorem gath_nodup {p : Pl.Plan} {sh : Nat → Prop} {nx f : Nat → Int} {c : Nat} (hf : ∀ i i', i < c → i' < c → (f (i * 2), f (i * 2 + 1)) = (f (i' * 2), f (i' * 2 + 1)) → i = i') : ∀ k, k ≤ c → (gath p sh nx f k).Nodup := by
  intro k
  induction k with
  | zero => intro _; exact List.nodup_nil
  | succ k ih =>
    intro hk
    simp only [gath]
    rw [List.nodup_append]
    refine ⟨ih (by omega), ?_, ?_⟩
    · split
      · unfold Pl.goodL; exact List.Sublist.nodup List.filter_sublist List.nodup_range
      · exact List.nodup_nil
    · intro a ha b hb e
      subst e
      obtain ⟨i, h1, _, h3⟩ := (gath_mem k).1 ha
      split at hb
      · have e1 := (goodL_mem.1 h3).2.2.1
        have e2 := (goodL_mem.1 hb).2.2.1
        have := hf i k (by omega) (by omega) (e1.symm.trans e2)
        omega
      · cases hb
theorem gath_about {p : Pl.Plan} (hr : Pl.Right p) {sh : Nat → Prop} (hs : ∀ i, ¬ sh i) {nx f : Nat → Int} {cnt : Nat} {kf : Nat → Int × Int} (h2 : ∀ j, j < cnt → ∃ i, i < cnt ∧ kf j = (f (i * 2), f (i * 2 + 1))) (hall : ∀ i, i < p.rn → ∃ j, j < cnt ∧ kf j = Pl.key p i)
    (hheld : ∀ a c, a < p.hn → c < p.hn → Fl.hh p a c → ((nx a != -1) = (nx c != -1))) (r : Nat) : r ∈ gath p sh nx f cnt ↔ r ∈ Fl.about p (fun v => nx v != -1) := by
  have hlo : ∀ r, r < p.rn → ((nx (Pl.key p r).1.toNat == -1) != (nx (Pl.key p r).2.toNat == -1)) = ((nx (p.from_ r) != -1) != (nx (p.to_ r) != -1)) := fun r hr' => by
    have hrow := hr.rows r hr'
    unfold Pl.key Pl.lo Pl.hi
    have e1 : p.from_ r = (p.R (r * 3)).toNat := rfl
    have e2 : p.to_ r = (p.R (r * 3 + 1)).toNat := rfl
    rw [e1, e2]
    split <;> simp only [bne] <;> cases (nx (p.R (r * 3)).toNat == -1) <;> cases (nx (p.R (r * 3 + 1)).toNat == -1) <;> rfl
  unfold Fl.about
  rw [gath_mem, List.mem_filter, List.mem_range]
  constructor
  · rintro ⟨i, hi, hc, hg⟩
    obtain ⟨hrr, _, hk, _⟩ := goodL_mem.1 hg
    refine ⟨hrr, ?_⟩
    rw [← hlo r hrr, hk]
    exact hc
  · rintro ⟨hrr, hc⟩
    obtain ⟨j, hj, e⟩ := hall r hrr
    obtain ⟨i, hi, e2⟩ := h2 j hj
    have ek : Pl.key p r = (f (i * 2), f (i * 2 + 1)) := e.symm.trans e2
    refine ⟨i, hi, ?_, goodL_mem.2 ⟨hrr, hs r, ek, ?_⟩⟩
    · have := hlo r hrr
      rw [ek] at this
      rw [this]; exact hc
    · refine Classical.byContradiction (fun hng => ?_)
      have hrow := hr.rows r hrr
      have hb : Fl.hh p (p.from_ r) (p.to_ r) := ⟨r, hrr, Or.inl ⟨rfl, rfl⟩, hng⟩
      have := hheld _ _ (by have := hrow.1; show (p.R (r * 3)).toNat < _; omega) (by have := hrow.2.1; show (p.R (r * 3 + 1)).toNat < _; omega) hb
      simp only [this] at hc
      simp at hc
/-- Sorted, they are the rows about the near places. -/
theorem gath_sorted {p : Pl.Plan} {N : Nat → Bool} {l : List Nat} (hn : l.Nodup) (hm : ∀ r, r ∈ l ↔ r ∈ Fl.about p N) : (l.map (fun i : Nat => (i : Int))).mergeSort (fun x y => decide (x ≤ y)) = (Fl.about p N).map (fun i : Nat => (i : Int)) := by
  have hp : l.Perm (Fl.about p N) := (List.perm_ext_iff_of_nodup hn (List.Sublist.nodup List.filter_sublist List.nodup_range)).2 hm
  have hs : ((Fl.about p N).map (fun i : Nat => (i : Int))).Pairwise (fun x y => decide (x ≤ y) = true) := by
    rw [List.pairwise_map]
    have h1 : (List.range p.rn).Pairwise (· < ·) := List.pairwise_lt_range
    exact (h1.filter _).imp (fun {a b} h => by simp; omega)
  have hp2 := (hp.map (fun i : Nat => (i : Int)))
  have hm2 := (List.mergeSort_perm (l.map (fun i : Nat => (i : Int))) (fun x y => decide (x ≤ y))).trans hp2
  have hs2 : ((l.map (fun i : Nat => (i : Int))).mergeSort (fun x y => decide (x ≤ y))).Pairwise (fun x y => decide (x ≤ y) = true) := List.pairwise_mergeSort (fun a b c h1 h2 => by simp at h1 h2 ⊢; omega) (fun a b => by simp; omega) _
  exact List.Perm.eq_of_pairwise (fun a b _ _ h1 h2 => by simp at h1 h2; omega) hs2 hs hm2
end Go.Proofs.YtipmjobhegpdgaaGreatDoor
