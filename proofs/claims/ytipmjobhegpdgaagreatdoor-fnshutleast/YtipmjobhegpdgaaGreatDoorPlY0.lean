/-
  The layout of a plan: the bundles of its rows, in a map.
-/
import Derived.Test.YtipmjobhegpdgaaGreatDoorPlM2
import Derived.Test.YtipmjobhegpdgaaGreatDoorPlW1
namespace Go.Proofs.YtipmjobhegpdgaaGreatDoor
open Go Go.RowKit Go.Deep
open Go.ChangeMaps (setBlock)

namespace Pl
/-- The key of a row. -/
def key (p : Plan) (i : Nat) : Int × Int := (lo (p.R (i * 3)) (p.R (i * 3 + 1)), hi (p.R (i * 3)) (p.R (i * 3 + 1)))
/-- The rows with good valves between two places, of the first ones, that are not shut. -/
noncomputable def goodL (p : Plan) (sh : Nat → Prop) (k : Nat) (κ : Int × Int) : List Nat := (List.range k).filter fun i => dB (¬ sh i ∧ key p i = κ ∧ gd p i)
/-- There is another one. -/
noncomputable def heldB (p : Plan) (sh : Nat → Prop) (k : Nat) (κ : Int × Int) : Bool := dB (∃ i, i < k ∧ ¬ sh i ∧ key p i = κ ∧ ¬ gd p i)
theorem goodL_succ {p : Plan} {sh : Nat → Prop} {k : Nat} {κ : Int × Int} : goodL p sh (k + 1) κ = goodL p sh k κ ++ (if dB (¬ sh k ∧ key p k = κ ∧ gd p k) = true then [k] else []) := by
  unfold goodL
  rw [List.range_succ, List.filter_append]
  congr 1
  simp [List.filter_cons]
theorem goodL_not {p : Plan} {sh : Nat → Prop} {k : Nat} {κ : Int × Int} (h : ¬ (¬ sh k ∧ key p k = κ ∧ gd p k)) : goodL p sh (k + 1) κ = goodL p sh k κ := by
  rw [goodL_succ, dB_ff h]; simp
theorem goodL_yes {p : Plan} {sh : Nat → Prop} {k : Nat} (h : ¬ sh k) (hg : gd p k) : goodL p sh (k + 1) (key p k) = goodL p sh k (key p k) ++ [k] := by
  rw [goodL_succ, dB_tt ⟨h, rfl, hg⟩]; simp
theorem heldB_not {p : Plan} {sh : Nat → Prop} {k : Nat} {κ : Int × Int} (h : ¬ (¬ sh k ∧ key p k = κ ∧ ¬ gd p k)) : heldB p sh (k + 1) κ = heldB p sh k κ := by
  refine dB_congr ⟨fun ⟨i, hi, x⟩ => ⟨i, ?_, x⟩, fun ⟨i, hi, x⟩ => ⟨i, by omega, x⟩⟩
  by_cases e : i = k
  · subst e; exact absurd x h
  · omega
theorem heldB_yes {p : Plan} {sh : Nat → Prop} {k : Nat} (h : ¬ sh k) (hg : ¬ gd p k) : heldB p sh (k + 1) (key p k) = true := dB_tt ⟨k, by omega, h, rfl, hg⟩
theorem goodL_none {p : Plan} {sh : Nat → Prop} {k : Nat} {κ : Int × Int} (h : ∀ i, i < k → ¬ sh i → key p i ≠ κ) : goodL p sh k κ = [] := by
  unfold goodL
  rw [List.filter_eq_nil_iff]
  intro i hi
  rw [dB_ff (fun x => h i (List.mem_range.1 hi) x.1 x.2.1)]
  simp
theorem heldB_none {p : Plan} {sh : Nat → Prop} {k : Nat} {κ : Int × Int} (h : ∀ i, i < k → ¬ sh i → key p i ≠ κ) : heldB p sh k κ = false := dB_ff (fun ⟨i, hi, h1, h2, _⟩ => h i hi h1 h2)
theorem goodL_len {p : Plan} {sh : Nat → Prop} {k : Nat} {κ : Int × Int} : (goodL p sh k κ).length ≤ k := by
  have := List.length_filter_le (fun i => dB (¬ sh i ∧ key p i = κ ∧ gd p i)) (List.range k)
  simpa [goodL] using this
end Pl
theorem LMap.congr {b cnt : Nat} {kf kf' : Nat → Int × Int} {vf vf' : Nat → Value} {w : World} (h : LMap b cnt kf vf w) (hk : ∀ j, j < cnt → kf j = kf' j) (hv : ∀ j, j < cnt → vf j = vf' j) : LMap b cnt kf' vf' w := by
  have e : LEs cnt kf vf = LEs cnt kf' vf' := by
    apply Array.toList_inj.1
    simp only [LEs]
    refine List.map_congr_left (fun j hj => ?_)
    have := List.mem_range.1 hj
    simp [ent, hk j this, hv j this]
  refine ⟨by rw [← e]; exact h.heap, fun j hj => by rw [← hk j hj]; exact h.rng j hj, fun i j hi hj x => h.inj i j hi hj (by rw [hk i hi, hk j hj]; exact x)⟩
/-- A bundle as a value. -/
abbrev bu (v : Value) (h : Bool) (f : Int) : Value := .agg #[v, .bool h, .int .i64 f]
abbrev numsV (l : List Nat) : List Value := l.map fun i => .int .i64 (i : Nat)
/-- A layout of the first rows. -/
structure LayS (p : Pl.Plan) (sh : Nat → Prop) (k b cnt : Nat) (kf : Nat → Int × Int) (gv : Nat → Value) (B : Nat) (W : World) : Prop where
  map : LMap b cnt kf (fun j => bu (gv j) (Pl.heldB p sh k (kf j)) 0) W
  own : ∀ j, j < cnt → W.ownsRow B 2 1 (gv j) (Pl.goodL p sh k (kf j)).length (numsV (Pl.goodL p sh k (kf j)))
  apart : ∀ i j, i < cnt → j < cnt → i ≠ j → ∀ g, (gv i).ownBlock = some g → (gv j).ownBlock ≠ some g
  ne : ∀ j, j < cnt → ∀ g, (gv j).ownBlock = some g → g ≠ b
  lo : B ≤ b
  all : ∀ i, i < k → ¬ sh i → ∃ j, j < cnt ∧ kf j = Pl.key p i
  each : ∀ j, j < cnt → ∃ i, i < k ∧ ¬ sh i ∧ kf j = Pl.key p i
theorem LayS.grown {p : Pl.Plan} {sh : Nat → Prop} {k b cnt : Nat} {kf : Nat → Int × Int} {gv : Nat → Value} {B : Nat} {W W' : World} (h : LayS p sh k b cnt kf gv B W) (hb : Below W.heap.size W W') : LayS p sh k b cnt kf gv B W' :=
  ⟨h.map.below hb, fun j hj => (h.own j hj).kept (row := none) ⟨hb.os, hb.tape, hb.output, hb.size, fun i hi _ => hb.block i hi⟩ (by cases hv : (gv j).ownBlock <;> simp), h.apart, h.ne, h.lo, h.all, h.each⟩
theorem LayS.skip {p : Pl.Plan} {sh : Nat → Prop} {k b cnt : Nat} {kf : Nat → Int × Int} {gv : Nat → Value} {B : Nat} {W : World} (h : LayS p sh k b cnt kf gv B W) (hs : sh k) : LayS p sh (k + 1) b cnt kf gv B W := by
  refine ⟨?_, fun j hj => ?_, h.apart, h.ne, h.lo, fun i hi hsi => ?_, fun j hj => ?_⟩
  · have : (fun j => bu (gv j) (Pl.heldB p sh (k + 1) (kf j)) 0) = (fun j => bu (gv j) (Pl.heldB p sh k (kf j)) 0) := by
      funext j; rw [Pl.heldB_not (fun x => x.1 hs)]
    rw [this]; exact h.map
  · rw [Pl.goodL_not (fun x => x.1 hs)]; exact h.own j hj
  · by_cases e : i = k
    · subst e; exact absurd hs hsi
    · exact h.all i (by omega) hsi
  · obtain ⟨i, hi, x⟩ := h.each j hj; exact ⟨i, by omega, x⟩
/-- What a bundle was before its row came. -/
def LayTag (cnt : Nat) (kf : Nat → Int × Int) (gv : Nat → Value) (κ : Int × Int) (g0 : Value) : Prop := (∃ j, j < cnt ∧ kf j = κ ∧ gv j = g0) ∨ ((∀ j, j < cnt → kf j ≠ κ) ∧ g0 = .slice none 0 0)
theorem LayS.look {p : Pl.Plan} {sh : Nat → Prop} {k b cnt : Nat} {kf : Nat → Int × Int} {gv : Nat → Value} {B : Nat} {W : World} (h : LayS p sh k b cnt kf gv B W) {κ : Int × Int} (hk : KIn κ) :
    ∃ g0, (∀ V, Below W.heap.size W V → (Instr.lookup 79 (.map (some b)) (kV κ) false).run Tryz.prog V = .ok (bu g0 (Pl.heldB p sh k κ) 0) V) ∧ W.ownsRow B 2 1 g0 (Pl.goodL p sh k κ).length (numsV (Pl.goodL p sh k κ)) ∧ LayTag cnt kf gv κ g0 := by
  by_cases c : ∃ j, j < cnt ∧ kf j = κ
  · obtain ⟨j, hj, rfl⟩ := c
    exact ⟨gv j, fun V hb => (h.map.below hb).look_hit hj, h.own j hj, Or.inl ⟨j, hj, rfl, rfl⟩⟩
  · have hno : ∀ j, j < cnt → kf j ≠ κ := fun j hj e => c ⟨j, hj, e⟩
    have hn : ∀ i, i < k → ¬ sh i → Pl.key p i ≠ κ := fun i hi hs e => by
      obtain ⟨j, hj, e2⟩ := h.all i hi hs
      exact hno j hj (e2.trans e)
    refine ⟨.slice none 0 0, fun V hb => ?_, ?_, Or.inr ⟨hno, rfl⟩⟩
    · rw [Pl.heldB_none hn]; exact (h.map.below hb).look_miss hk hno
    · rw [Pl.goodL_none hn]; exact World.ownsRow_nil _ _ _ _
theorem LayS.put {p : Pl.Plan} {sh : Nat → Prop} {k b cnt : Nat} {kf : Nat → Int × Int} {gv : Nat → Value} {B : Nat} {W X : World} (h : LayS p sh k b cnt kf gv B W) (hs : ¬ sh k) (hk : KIn (Pl.key p k)) {g0 g1 : Value} (ht : LayTag cnt kf gv (Pl.key p k) g0) (hX : W.grownBy X g0.ownBlock)
    (hown : X.ownsRow B 2 1 g1 (Pl.goodL p sh (k + 1) (Pl.key p k)).length (numsV (Pl.goodL p sh (k + 1) (Pl.key p k)))) (hblk : ∀ g, g1.ownBlock = some g → g0.ownBlock = some g ∨ W.heap.size ≤ g) :
    ∃ Y cnt' kf' gv', (Instr.mapUpdate 79 (.map (some b)) (kV (Pl.key p k)) (bu g1 (Pl.heldB p sh (k + 1) (Pl.key p k)) 0)).run Tryz.prog X = .ok () Y ∧ LayS p sh (k + 1) b cnt' kf' gv' B Y ∧ Only b X Y := by
  have hbW := h.map.lt
  have other : ∀ κ, κ ≠ Pl.key p k → Pl.goodL p sh (k + 1) κ = Pl.goodL p sh k κ ∧ Pl.heldB p sh (k + 1) κ = Pl.heldB p sh k κ := fun κ hne => ⟨Pl.goodL_not (fun x => hne x.2.1.symm), Pl.heldB_not (fun x => hne x.2.1.symm)⟩
  rcases ht with ⟨j0, hj0, e0, rfl⟩ | ⟨hno, rfl⟩
  · -- a bundle that is there
    have hMX : LMap b cnt kf (fun j => bu (gv j) (Pl.heldB p sh k (kf j)) 0) X := h.map.of_block (hX.block b hbW (fun e => h.ne j0 hj0 b e.symm rfl))
    have hput := hMX.put_hit hj0 (bu g1 (Pl.heldB p sh (k + 1) (Pl.key p k)) 0)
    rw [e0] at hput
    have hO := setBlock_only hMX (.map (LEs cnt kf (updV (fun j => bu (gv j) (Pl.heldB p sh k (kf j)) 0) j0 (bu g1 (Pl.heldB p sh (k + 1) (Pl.key p k)) 0))) cnt)
    refine ⟨_, cnt, kf, updV gv j0 g1, hput, ?_, hO⟩
    have hgY : X.grownBy _ (some b) := ⟨hO.os, hO.tape, hO.output, hO.size, fun i hi hne => hO.block i hi (fun e => hne (by rw [e]))⟩
    have hkne : ∀ j, j < cnt → j ≠ j0 → kf j ≠ Pl.key p k := fun j hj hne e => hne (h.map.inj j j0 hj hj0 (e.trans e0.symm))
    have hg1b : ∀ g, g1.ownBlock = some g → g ≠ b := fun g hg => by
      rcases hblk g hg with h1 | h1
      · exact h.ne j0 hj0 g h1
      · omega
    refine ⟨?_, fun j hj => ?_, fun i j hi hj hne g hg => ?_, fun j hj g hg => ?_, h.lo, fun i hi hsi => ?_, fun j hj => ?_⟩
    · refine (hMX.hit _).congr (fun _ _ => rfl) (fun j hj => ?_)
      unfold updV
      by_cases e : j = j0
      · subst e; simp [e0]
      · simp only [if_neg e]; rw [(other _ (hkne j hj e)).2]
    · unfold updV
      by_cases e : j = j0
      · subst e
        rw [if_pos rfl, e0]
        exact hown.kept hgY (by
          cases hv : g1.ownBlock with
          | none => exact Or.inl rfl
          | some g => exact Or.inr (fun x => hg1b g hv (Option.some.inj x)))
      · rw [if_neg e, (other _ (hkne j hj e)).1]
        have h1 : X.ownsRow B 2 1 (gv j) _ _ := (h.own j hj).kept hX (by
          cases hv : (gv j).ownBlock with
          | none => exact Or.inl rfl
          | some g => exact Or.inr (fun x => h.apart j j0 hj hj0 e g hv x.symm))
        exact h1.kept hgY (by
          cases hv : (gv j).ownBlock with
          | none => exact Or.inl rfl
          | some g => exact Or.inr (fun x => h.ne j hj g hv (Option.some.inj x)))
    · unfold updV at hg ⊢
      by_cases ei : i = j0
      · by_cases ej : j = j0
        · exact absurd (ei.trans ej.symm) hne
        · rw [if_pos ei] at hg
          rw [if_neg ej]
          intro x
          rcases hblk g hg with h1 | h1
          · exact h.apart j0 j hj0 hj (Ne.symm ej) g h1 x
          · have := ((h.own j hj).lt g x).2; omega
      · by_cases ej : j = j0
        · rw [if_neg ei] at hg
          rw [if_pos ej]
          intro x
          rcases hblk g x with h1 | h1
          · exact h.apart i j0 hi hj0 ei g hg h1
          · have := ((h.own i hi).lt g hg).2; omega
        · rw [if_neg ei] at hg
          rw [if_neg ej]
          exact h.apart i j hi hj hne g hg
    · unfold updV at hg
      by_cases e : j = j0
      · rw [if_pos e] at hg; exact hg1b g hg
      · rw [if_neg e] at hg; exact h.ne j hj g hg
    · by_cases e : i = k
      · subst e; exact ⟨j0, hj0, e0⟩
      · exact h.all i (by omega) hsi
    · obtain ⟨i, hi, x⟩ := h.each j hj; exact ⟨i, by omega, x⟩
  · -- a new one
    have hMX : LMap b cnt kf (fun j => bu (gv j) (Pl.heldB p sh k (kf j)) 0) X := h.map.of_block (hX.block b hbW (by simp [Value.ownBlock]))
    have hput := hMX.put_miss hk hno (bu g1 (Pl.heldB p sh (k + 1) (Pl.key p k)) 0)
    have hO := setBlock_only hMX (.map (LEs (cnt + 1) (updV kf cnt (Pl.key p k)) (updV (fun j => bu (gv j) (Pl.heldB p sh k (kf j)) 0) cnt (bu g1 (Pl.heldB p sh (k + 1) (Pl.key p k)) 0))) (cnt + 1))
    refine ⟨_, cnt + 1, updV kf cnt (Pl.key p k), updV gv cnt g1, hput, ?_, hO⟩
    have hgY : X.grownBy _ (some b) := ⟨hO.os, hO.tape, hO.output, hO.size, fun i hi hne => hO.block i hi (fun e => hne (by rw [e]))⟩
    have hg1b : ∀ g, g1.ownBlock = some g → W.heap.size ≤ g := fun g hg => by
      rcases hblk g hg with h1 | h1
      · simp [Value.ownBlock] at h1
      · exact h1
    refine ⟨?_, fun j hj => ?_, fun i j hi hj hne g hg => ?_, fun j hj g hg => ?_, h.lo, fun i hi hsi => ?_, fun j hj => ?_⟩
    · refine (hMX.miss hk hno _).congr (fun _ _ => rfl) (fun j hj => ?_)
      unfold updV
      by_cases e : j = cnt
      · simp [e]
      · simp only [if_neg e]; rw [(other _ (hno j (by omega))).2]
    · unfold updV
      by_cases e : j = cnt
      · rw [if_pos e, if_pos e]
        exact hown.kept hgY (by
          cases hv : g1.ownBlock with
          | none => exact Or.inl rfl
          | some g => exact Or.inr (fun x => by have := hg1b g hv; have := Option.some.inj x; omega))
      · rw [if_neg e, if_neg e, (other _ (hno j (by omega))).1]
        have h1 : X.ownsRow B 2 1 (gv j) _ _ := (h.own j (by omega)).kept hX (by
          cases hv : (gv j).ownBlock with
          | none => exact Or.inl rfl
          | some g => exact Or.inr (by simp [Value.ownBlock]))
        exact h1.kept hgY (by
          cases hv : (gv j).ownBlock with
          | none => exact Or.inl rfl
          | some g => exact Or.inr (fun x => h.ne j (by omega) g hv (Option.some.inj x)))
    · unfold updV at hg ⊢
      by_cases ei : i = cnt
      · by_cases ej : j = cnt
        · exact absurd (ei.trans ej.symm) hne
        · rw [if_pos ei] at hg
          rw [if_neg ej]
          intro x
          have h1 := hg1b g hg
          have := ((h.own j (by omega)).lt g x).2; omega
      · by_cases ej : j = cnt
        · rw [if_neg ei] at hg
          rw [if_pos ej]
          intro x
          have h1 := hg1b g x
          have := ((h.own i (by omega)).lt g hg).2; omega
        · rw [if_neg ei] at hg
          rw [if_neg ej]
          exact h.apart i j (by omega) (by omega) hne g hg
    · unfold updV at hg
      by_cases e : j = cnt
      · rw [if_pos e] at hg; have := hg1b g hg; omega
      · rw [if_neg e] at hg; exact h.ne j (by omega) g hg
    · by_cases e : i = k
      · subst e; exact ⟨cnt, by omega, by simp [updV]⟩
      · obtain ⟨j, hj, x⟩ := h.all i (by omega) hsi
        exact ⟨j, by omega, by unfold updV; rw [if_neg (by omega)]; exact x⟩
    · unfold updV
      by_cases e : j = cnt
      · rw [if_pos e]; exact ⟨k, by omega, hs, rfl⟩
      · rw [if_neg e]; obtain ⟨i, hi, x⟩ := h.each j (by omega); exact ⟨i, by omega, x⟩
end Go.Proofs.YtipmjobhegpdgaaGreatDoor
