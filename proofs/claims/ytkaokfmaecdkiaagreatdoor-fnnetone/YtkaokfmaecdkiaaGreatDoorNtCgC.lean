/-
  Joined: NtSv4, NtSv5, NtSv6, NtSv7, NtAp, NtSv8, NtAs2, NtCatch2, NtSv9, NtSv10.
-/
import Derived.Test.YtkaokfmaecdkiaaGreatDoorNtCgA
import Derived.WalkMore
import Derived.Deep.AppendLies
import Derived.Test.YtkaokfmaecdkiaaGreatDoorNtMem
import Derived.Laws.AppendOwn
import Derived.Test.YtkaokfmaecdkiaaGreatDoorNtAs
import Derived.Test.YtkaokfmaecdkiaaGreatDoorNtCatch
namespace Go.Proofs.YtkaokfmaecdkiaaGreatDoor
open Go Go.RowKit Go.Deep

namespace Nt
/-- Rows of m + 1 numbers, one behind the other. -/
def flat (m : Nat) (U : El.Mx) : Nat → Int × Int := fun i => U (i / (m + 1)) (i % (m + 1))
theorem flat_at {m : Nat} (U : El.Mx) {r c : Nat} (hc : c ≤ m) : flat m U (r * (m + 1) + c) = U r c := by
  unfold flat
  rw [Nat.mul_comm, Nat.mul_add_div (by omega), Nat.mul_add_mod, Nat.div_eq_of_lt (by omega), Nat.mod_eq_of_lt (by omega), Nat.add_zero]
theorem flat_split {m i : Nat} : ∃ r c, i = r * (m + 1) + c ∧ c ≤ m := ⟨i / (m + 1), i % (m + 1), by rw [Nat.mul_comm]; exact (Nat.div_add_mod i (m + 1)).symm, by have := Nat.mod_lt i (show 0 < m + 1 by omega); omega⟩
theorem flat_row {m r c s k : Nat} (hc : c ≤ m) (hk : k ≤ m) : (s * (m + 1) + k ≤ r * (m + 1) + c ∧ r * (m + 1) + c < s * (m + 1) + k + (m + 1 - k)) ↔ (r = s ∧ k ≤ c) := by
  constructor
  · rintro ⟨h1, h2⟩
    have e : r = s := by
      rcases Nat.lt_trichotomy r s with h | h | h
      · have := Nat.mul_le_mul_right (m + 1) h
        rw [Nat.succ_mul] at this
        omega
      · exact h
      · have := Nat.mul_le_mul_right (m + 1) h
        rw [Nat.succ_mul] at this
        omega
    subst e
    omega
  · rintro ⟨rfl, h⟩
    omega
theorem flat_lt {m r c : Nat} (hr : r < m) (hc : c ≤ m) : r * (m + 1) + c < m * (m + 1) := by
  have := Nat.mul_le_mul_right (m + 1) hr
  rw [Nat.succ_mul] at this
  omega
/-- A row taken off the row r: what the block holds then. -/
theorem tr_flat {m k r : Nat} {U : El.Mx} (hk : k < m) (hkr : k < r) (hf : (El.fac U k r).1 ≠ 0) (i : Nat) : trF (flat m (El.part U k r)) (r * (m + 1) + k) (k * (m + 1) + k) (El.fac U k r) (m + 1 - k) i = flat m (El.part U k (r + 1)) i := by
  obtain ⟨a, c, rfl, hc⟩ := flat_split (m := m) (i := i)
  rw [flat_at _ hc]
  unfold trF
  by_cases h : a = r ∧ k ≤ c
  · obtain ⟨rfl, hkc⟩ := h
    rw [if_pos ((flat_row hc (by omega)).2 ⟨rfl, hkc⟩), flat_at _ hc, show k * (m + 1) + k + (a * (m + 1) + c - (a * (m + 1) + k)) = k * (m + 1) + c by omega, flat_at _ hc]
    have e1 : El.part U k a a c = U a c := by unfold El.part; rw [if_neg (by omega)]
    have e2 : El.part U k a k c = U k c := by unfold El.part; rw [if_neg (by omega)]
    have e3 : El.part U k (a + 1) a c = El.el U k a c := by unfold El.part; rw [if_pos ⟨hkr, by omega, hkc⟩]
    rw [e1, e2, e3]
    unfold El.el
    rw [if_neg hf]
    rfl
  · rw [if_neg (fun x => h ((flat_row hc (by omega)).1 x)), flat_at _ hc]
    unfold El.part
    by_cases h2 : k < a ∧ a < r ∧ k ≤ c
    · rw [if_pos h2, if_pos ⟨h2.1, by omega, h2.2.2⟩]
    · rw [if_neg h2, if_neg (fun x => by
        by_cases e : a = r
        · exact h ⟨e, x.2.2⟩
        · exact h2 ⟨x.1, by omega, x.2.2⟩)]
theorem part_none {k r : Nat} {U : El.Mx} (hf : (El.fac U k r).1 = 0) : El.part U k (r + 1) = El.part U k r := by
  funext a c
  unfold El.part
  by_cases h2 : k < a ∧ a < r ∧ k ≤ c
  · rw [if_pos h2, if_pos ⟨h2.1, by omega, h2.2.2⟩]
  · rw [if_neg h2]
    by_cases h3 : k < a ∧ a < r + 1 ∧ k ≤ c
    · obtain rfl : a = r := by
        by_cases e : a = r
        · exact e
        · exact absurd ⟨h3.1, by omega, h3.2.2⟩ h2
      rw [if_pos h3]
      unfold El.el
      rw [if_pos hf]
    · rw [if_neg h3]
theorem tr_ok {m k r : Nat} {U : El.Mx} : TrOk (flat m (El.part U k r)) (r * (m + 1) + k) (k * (m + 1) + k) (El.fac U k r) (m + 1 - k) ↔ ∀ c, k ≤ c → c ≤ m → El.CellOk U k r c := by
  have e1 : ∀ c, El.part U k r r c = U r c := fun c => by unfold El.part; rw [if_neg (by omega)]
  have e2 : ∀ c, El.part U k r k c = U k c := fun c => by unfold El.part; rw [if_neg (by omega)]
  constructor
  · intro h c h1 h2
    have := h (c - k) (by omega)
    rw [show r * (m + 1) + k + (c - k) = r * (m + 1) + c by omega, show k * (m + 1) + k + (c - k) = k * (m + 1) + c by omega, flat_at _ h2, flat_at _ h2, e1, e2] at this
    exact this
  · intro h c hc
    rw [show r * (m + 1) + k + c = r * (m + 1) + (k + c) by omega, show k * (m + 1) + k + c = k * (m + 1) + (k + c) by omega, flat_at _ (by omega), flat_at _ (by omega), e1, e2]
    exact h (k + c) (by omega) (by omega)
end Nt
/-- Rows of numbers in memory: one block of slices, one of numbers. -/
def rwV (gc m : Nat) (r : Nat) : Value := .slice (some ⟨gc, r * (m + 1) * 2, none⟩) (m + 1) (m + 1)
/-- What is told of rows taken off one another. -/
def ElEnd (gc m : Nat) (U : El.Mx) (e : Ending) (W : World) : Prop := (El.Good m U m m ∧ e = .returned (.tuple #[]) ∧ IsBlk 35 gc (m * (m + 1) * 2) (Nt.cells2 (Nt.flat m (El.mats m U m))) W) ∨ (¬ El.Good m U m m ∧ ∃ s, e = thrown s 5)
/-- What a step reads that it does not write: the slices, how often. -/
structure ElR (gr gc m gb : Nat) (f : Int × Int) (b V : World) : Prop where
  bel : Below b.heap.size b V
  rr : V.rowIs gr 29 m (rwV gc m)
  rf : V.rowIs gb 35 2 (rowN [.int .i64 f.1, .int .i64 f.2])
theorem ElR.below {gr gc m gb : Nat} {f : Int × Int} {b V V' : World} (h : ElR gr gc m gb f b V) (hb : Below V.heap.size V V') : ElR gr gc m gb f b V' := ⟨h.bel.trans (hb.mono h.bel.size), nrow_below h.rr hb, nrow_below h.rf hb⟩
set_option maxRecDepth 100000 in
set_option maxHeartbeats 8000000 in
theorem eliminate_any (gr gc m cp : Nat) (U : El.Mx) (b w : World) (hb : Below b.heap.size b w) (hgb : b.heap.size ≤ gc) (hr : w.rowIs gr 29 m (rwV gc m)) (h : IsBlk 35 gc (m * (m + 1) * 2) (Nt.cells2 (Nt.flat m U)) w) (hne : gr ≠ gc) (hm : m ≤ 12) (hR : El.AllR m U) (hs : Nt.Sure m 0 (fun r c => Fq.q (U r c))) (hg : NEt b) :
    Calls Tryz.prog 66 #[.slice (some ⟨gr, 0, none⟩) m cp] w fun e w' => ElEnd gc m U e w' ∧ Fg gc b w w' := by
  have hsz : m * (m + 1) ≤ 156 := by
    have := Nat.mul_le_mul hm (show m + 1 ≤ 13 by omega)
    omega
  have HF0 : Hid (Fg gc b w w) := ⟨hb, Nat.le_refl _, fun _ _ _ => rfl⟩
  have HI0 : Hid (IsBlk 35 gc (m * (m + 1) * 2) (Nt.cells2 (Nt.flat m (El.mats m U 0))) w) := h
  have HRW := Lib.hid hr
  have HGB := Lib.hid hgb
  have HNE := Lib.hid hne
  have HPV := Lib.hid (fun k hk s => El.Piv.of hR hs k hk s)
  have HG := Lib.hid hg
  have HSZ := Lib.hid hsz
  have HGL := Lib.hid h.lt
  clear hb hgb hr h hne hR hs hg hsz
  go_enter Tryz.func66, Tryz.ntmps66
  go_wp2_with fail
  go_step3
  go_wp2_with fail
  go_step3
  go_wp2_with fail
  go_loopw [2, 3, 4, 5, 8] (fun kv bv rv fv iv wr => ∃ (k : Nat), k ≤ m ∧ iv = .int .i64 k ∧ Hid (Fg gc b w wr) ∧ Hid (IsBlk 35 gc (m * (m + 1) * 2) (Nt.cells2 (Nt.flat m (El.mats m U k))) wr) ∧ Hid (El.Good m U k (k + 1))) (fun _ _ _ _ iv _ => m - (intOf iv).toNat)
  case atStart => exact ⟨0, Nat.zero_le _, rfl, HF0, HI0, El.Good.zero m U⟩
  case round =>
    clear HF0 HI0
    obtain ⟨k, hk, rfl, HF0, HI0, HGD⟩ := hrel
    by_cases hlt : k < m
    case neg =>
      obtain rfl : k = m := by omega
      go_wp2_with fail
      show Exit.noGoto _ _ _ _
      simp only [Exit.noGoto]
      refine bodyPost_end (v := .tuple #[]) (by simp only [results, Tryz.results66]; simp [go_sem]) rfl ⟨Or.inl ⟨⟨HGD.out.1, fun r h1 h2 => absurd h1 (by omega)⟩, rfl, HI0.out⟩, HF0.out⟩
    have hltz : (k : Int) < (m : Int) := by omega
    have d0 := (HF0.out.row HRW.out HNE.out).cell (i := k) hlt
    have hd0 : rwV gc m k = .slice (some ⟨gc, k * (m + 1) * 2, none⟩) (m + 1) (m + 1) := rfl
    rw [hd0] at d0
    clear hd0
    have HI1 : Hid (IsBlk 35 gc (m * (m + 1) * 2) (Nt.cells2 (Nt.flat m (El.part (El.mats m U k) k (k + 1)))) wr) := by show IsBlk _ _ _ _ _; rw [El.part_start]; exact HI0.out
    clear HI0
    go_wp2_with fail
    clear d0
    go_loopw [4, 5] (fun rv fv wx => ∃ (r : Nat), k + 1 ≤ r ∧ r ≤ m ∧ rv = .int .i64 r ∧ Hid (Fg gc b w wx) ∧ Hid (IsBlk 35 gc (m * (m + 1) * 2) (Nt.cells2 (Nt.flat m (El.part (El.mats m U k) k r))) wx) ∧ Hid (El.Good m U k r)) (fun rv _ _ => m - (intOf rv).toNat)
    case atStart => exact ⟨k + 1, Nat.le_refl _, by omega, by go_num, HF0, HI1, HGD⟩
    case round =>
      clear HF0 HI1 HGD
      obtain ⟨r, hr1, hr2, rfl, HF0, HI1, HGD⟩ := hrel
      by_cases hrm : r = m
      case pos =>
        subst hrm
        go_wp2_with fail
        go_roundw
        case rel => exact ⟨k + 1, by omega, by go_num, HF0, HI1, HGD.out.next⟩
        case measure => simp [intOf]; omega
      case neg =>
      have hrz : ¬ (r : Int) = (m : Int) := by omega
      have hre : ((r : Int) == (m : Int)) = false := by simp; omega
      have hrlt : r < m := by omega
      have hrltz : (r : Int) < (m : Int) := by omega
      obtain ⟨V0, hV0⟩ : ∃ w', w' = wr := ⟨_, rfl⟩
      rw [← hV0] at HF0 HI1 ⊢
      clear hV0
      have HPK := Lib.hid (HPV.out k (by omega) r HGD.out)
      obtain ⟨P, hP⟩ : ∃ P, P = r * (m + 1) := ⟨_, rfl⟩
      obtain ⟨Q, hQ⟩ : ∃ Q, Q = k * (m + 1) := ⟨_, rfl⟩
      obtain ⟨X, hX⟩ : ∃ X, X = El.mats m U k r k := ⟨_, rfl⟩
      obtain ⟨Y, hY⟩ : ∃ Y, Y = El.mats m U k k k := ⟨_, rfl⟩
      have HRX : Hid (Fq.R X) := by show Fq.R _; rw [hX]; exact HPK.out.r r k hrlt (by omega)
      have HRY : Hid (Fq.R Y) := by show Fq.R _; rw [hY]; exact HPK.out.r k k hlt (by omega)
      have HY0 : Hid (Y.1 ≠ 0) := by show _ ≠ _; rw [hY]; exact HPK.out.ne hlt
      have HPL : Hid (P + (m + 1) ≤ m * (m + 1)) := by
        have := Nat.mul_le_mul_right (m + 1) hrlt
        rw [Nat.succ_mul] at this
        show _ ≤ _
        omega
      have HQL : Hid (Q + (m + 1) ≤ P) := by
        have := Nat.mul_le_mul_right (m + 1) (show k + 1 ≤ r by omega)
        rw [Nat.succ_mul] at this
        show _ ≤ _
        omega
      have HCX : Hid (∀ V, Below V0.heap.size V0 V → V.cell? ⟨gc, (P + k) * 2, none⟩ = some (.int .i64 X.1) ∧ V.cell? ⟨gc, (P + k) * 2 + 1, none⟩ = some (.int .i64 X.2) ∧ V.cell? ⟨gc, (Q + k) * 2, none⟩ = some (.int .i64 Y.1) ∧ V.cell? ⟨gc, (Q + k) * 2 + 1, none⟩ = some (.int .i64 Y.2) ∧ V.cell? ⟨gr, r, none⟩ = some (.slice (some ⟨gc, P * 2, none⟩) (m + 1) (m + 1))) := by
        intro V hV
        have a1 := HPL.out
        have a2 := HQL.out
        have e1 : El.part (El.mats m U k) k r r k = X := by rw [hX]; unfold El.part; rw [if_neg (by omega)]
        have e2 : El.part (El.mats m U k) k r k k = Y := by rw [hY]; unfold El.part; rw [if_neg (by omega)]
        have f1 : Nt.flat m (El.part (El.mats m U k) k r) (P + k) = X := by rw [hP, Nt.flat_at _ (by omega)]; exact e1
        have f2 : Nt.flat m (El.part (El.mats m U k) k r) (Q + k) = Y := by rw [hQ, Nt.flat_at _ (by omega)]; exact e2
        have I := HI1.out.below hV
        have c0 := I.cell (i := (P + k) * 2) (by omega)
        have c1 := I.cell (i := (P + k) * 2 + 1) (by omega)
        have c2 := I.cell (i := (Q + k) * 2) (by omega)
        have c3 := I.cell (i := (Q + k) * 2 + 1) (by omega)
        rw [Nt.cells2_0, f1] at c0
        rw [Nt.cells2_1, f1] at c1
        rw [Nt.cells2_0, f2] at c2
        rw [Nt.cells2_1, f2] at c3
        refine ⟨c0, c1, c2, c3, ?_⟩
        have := (nrow_below (HF0.out.row HRW.out HNE.out) hV).cell (i := r) hrlt
        unfold rwV at this
        rw [← hP] at this
        exact this
      have HXE := Lib.hid hX
      have HYE := Lib.hid hY
      have HPE := Lib.hid hP
      have HQE := Lib.hid hQ
      have e1 : P * 2 + k * 2 = (P + k) * 2 := by omega
      have e2 : Q * 2 + k * 2 = (Q + k) * 2 := by omega
      have hk1 : (k : Int) < (m : Int) + 1 := by omega
      have hk4 : ¬ (m : Int) + 1 ≤ (k : Int) := by omega
      rw [← hQ]
      clear hX hY hP hQ
      go_upto_region 6 with fail
      by_cases hc : Fq.code (Fq.div X Y) = 0
      case neg =>
        have HNG : Hid (¬ El.Good m U m m) := fun h => hc (by have := (h.1 k hlt r (by omega) hrlt).1; rw [← HXE.out, ← HYE.out] at this; exact this)
        refine wp_region_held_drew (S := fun V => Below V0.heap.size V0 V) (by kernel_rfl) (Below.refl _ _).drew (fun hHeld => ?_)
        obtain ⟨Z, hZ⟩ : ∃ Z, Z = V0.drew := ⟨_, rfl⟩
        rw [← hZ] at hHeld ⊢
        clear hZ
        refine take_do (i := 0) (v := (.slice (some ⟨gr, 0, none⟩) m cp)) rfl (by kernel_rfl) (by kernel_rfl) (by kernel_rfl) (fun _ _ _ h => h) (by rfl) ?_ (by assumption) ?_
        · intro w hSw
          skip
          go_simp
        simp only [Act.put, List.setIfInBounds_toArray, List.set_cons_zero, List.set_cons_succ]
        refine take_do (i := 1) (v := (.int .i64 r)) rfl (by kernel_rfl) (by kernel_rfl) (by kernel_rfl) (fun _ _ _ h => h) (by rfl) ?_ (by assumption) ?_
        · intro w hSw
          skip
          go_simp
        simp only [Act.put, List.setIfInBounds_toArray, List.set_cons_zero, List.set_cons_succ]
        refine take_do (i := 2) (v := (.pointer (some ⟨gr, r, none⟩))) rfl (by kernel_rfl) (by kernel_rfl) (by kernel_rfl) (fun _ _ _ h => h) (by rfl) ?_ (by assumption) ?_
        · intro w hSw
          skip
          go_simp
        simp only [Act.put, List.setIfInBounds_toArray, List.set_cons_zero, List.set_cons_succ]
        refine take_do (i := 3) (v := (.slice (some ⟨gc, P * 2, none⟩) (m + 1) (m + 1))) rfl (by kernel_rfl) (by kernel_rfl) (by kernel_rfl) (fun _ _ _ h => h) (by rfl) ?_ (by assumption) ?_
        · intro w hSw
          obtain ⟨_, _, _, _, q4⟩ := HCX.out w hSw
          go_simp
        simp only [Act.put, List.setIfInBounds_toArray, List.set_cons_zero, List.set_cons_succ]
        refine take_do (i := 4) (v := (.int .i64 k)) rfl (by kernel_rfl) (by kernel_rfl) (by kernel_rfl) (fun _ _ _ h => h) (by rfl) ?_ (by assumption) ?_
        · intro w hSw
          skip
          go_simp
        simp only [Act.put, List.setIfInBounds_toArray, List.set_cons_zero, List.set_cons_succ]
        refine take_do (i := 5) (v := (.pointer (some ⟨gc, (P + k) * 2, none⟩))) rfl (by kernel_rfl) (by kernel_rfl) (by kernel_rfl) (fun _ _ _ h => h) (by rfl) ?_ (by assumption) ?_
        · intro w hSw
          skip
          go_simp
        simp only [Act.put, List.setIfInBounds_toArray, List.set_cons_zero, List.set_cons_succ]
        refine take_do (i := 6) (v := (frV X)) rfl (by kernel_rfl) (by kernel_rfl) (by kernel_rfl) (fun _ _ _ h => h) (by rfl) ?_ (by assumption) ?_
        · intro w hSw
          obtain ⟨q0, q1, _, _, _⟩ := HCX.out w hSw
          go_simp
        simp only [Act.put, List.setIfInBounds_toArray, List.set_cons_zero, List.set_cons_succ]
        refine take_do (i := 7) (v := (.slice (some ⟨gc, Q * 2, none⟩) (m + 1) (m + 1))) rfl (by kernel_rfl) (by kernel_rfl) (by kernel_rfl) (fun _ _ _ h => h) (by rfl) ?_ (by assumption) ?_
        · intro w hSw
          skip
          go_simp
        simp only [Act.put, List.setIfInBounds_toArray, List.set_cons_zero, List.set_cons_succ]
        refine take_do (i := 8) (v := (.int .i64 k)) rfl (by kernel_rfl) (by kernel_rfl) (by kernel_rfl) (fun _ _ _ h => h) (by rfl) ?_ (by assumption) ?_
        · intro w hSw
          skip
          go_simp
        simp only [Act.put, List.setIfInBounds_toArray, List.set_cons_zero, List.set_cons_succ]
        refine take_do (i := 9) (v := (.pointer (some ⟨gc, (Q + k) * 2, none⟩))) rfl (by kernel_rfl) (by kernel_rfl) (by kernel_rfl) (fun _ _ _ h => h) (by rfl) ?_ (by assumption) ?_
        · intro w hSw
          skip
          go_simp
        simp only [Act.put, List.setIfInBounds_toArray, List.set_cons_zero, List.set_cons_succ]
        refine take_do (i := 10) (v := (frV Y)) rfl (by kernel_rfl) (by kernel_rfl) (by kernel_rfl) (fun _ _ _ h => h) (by rfl) ?_ (by assumption) ?_
        · intro w hSw
          obtain ⟨_, _, q2, q3, _⟩ := HCX.out w hSw
          go_simp
        simp only [Act.put, List.setIfInBounds_toArray, List.set_cons_zero, List.set_cons_succ]
        refine wpAnyH_ready (rs := [11, 13]) (by kernel_rfl) (by simp) (AllReadyH.cons (at_drop (i := 11) rfl) (fun K2 hK => ?_) (AllReadyH.cons (at_drop (i := 13) rfl) (fun K2 hK => ?_) (AllReadyH.nil)))
        · go_simp
          refine (nimplDiv X Y _ HRX.out HRY.out (HG.out.below (HF0.out.bel.trans (hHeld.mono HF0.out.bel.size)))).mono ?_
          rintro e Z1 ⟨rfl, hb⟩
          go_wp2_with fail
          refine hK.out _ _ (hHeld.trans (hb.mono hHeld.size)) (fun hHeld2 => ?_)
          clear hK hHeld
          have hHeld := hHeld2
          clear hHeld2
          clear hb
          refine wpAnyH_ready (rs := [12, 13]) (by kernel_rfl) (by simp) (AllReadyH.cons (at_drop (i := 12) rfl) (fun K2 hK => ?_) (AllReadyH.cons (at_drop (i := 13) rfl) (fun K2 hK => ?_) (AllReadyH.nil)))
          · go_simp
            refine (sureQ_bad (Fq.div X Y) hc (Fq.div_fit HRX.out HRY.out HY0.out).1 _).mono ?_
            rintro e Z2 ⟨⟨s, rfl⟩, hb⟩
            go_wp2_with fail
            exact ⟨rfl, Or.inr ⟨HNG.out, s, rfl⟩, HF0.out.below (hHeld.trans (hb.mono hHeld.size))⟩
          · obtain ⟨Z3, hZ3⟩ : ∃ Z3, Z3 = Z1.alloc (.cells #[.int .i64 0, .int .i64 0] 35) := ⟨_, rfl⟩
            have hb : Below Z1.heap.size Z1 Z3 := by rw [hZ3]; exact nbel_alloc _ _
            obtain ⟨gb, hgb⟩ : ∃ gb, gb = Z1.heap.size := ⟨_, rfl⟩
            have RZ : Hid (Z3.rowIs gb 35 2 (rowN [.int .i64 0, .int .i64 0])) := by show World.rowIs _ _ _ _ _; rw [hZ3, hgb]; exact rowN_alloc _ _ _
            have HGB : Hid (V0.heap.size ≤ gb) := by show _ ≤ _; rw [hgb]; exact hHeld.size
            go_simp
            rw [← hZ3, ← hgb]
            refine hK.out _ _ (hHeld.trans (hb.mono hHeld.size)) (fun hHeld2 => ?_)
            clear hK hHeld
            have hHeld := hHeld2
            clear hHeld2
            clear hb hZ3 hgb
            refine take_call (i := 12) rfl (by kernel_rfl) (fun K2 hK => ?_)
            go_simp
            refine (sureQ_bad (Fq.div X Y) hc (Fq.div_fit HRX.out HRY.out HY0.out).1 _).mono ?_
            rintro e Z4 ⟨⟨s, rfl⟩, hb⟩
            go_wp2_with fail
            exact ⟨rfl, Or.inr ⟨HNG.out, s, rfl⟩, HF0.out.below (hHeld.trans (hb.mono hHeld.size))⟩
        · obtain ⟨Z5, hZ5⟩ : ∃ Z5, Z5 = Z.alloc (.cells #[.int .i64 0, .int .i64 0] 35) := ⟨_, rfl⟩
          have hb : Below Z.heap.size Z Z5 := by rw [hZ5]; exact nbel_alloc _ _
          obtain ⟨gb, hgb⟩ : ∃ gb, gb = Z.heap.size := ⟨_, rfl⟩
          have RZ : Hid (Z5.rowIs gb 35 2 (rowN [.int .i64 0, .int .i64 0])) := by show World.rowIs _ _ _ _ _; rw [hZ5, hgb]; exact rowN_alloc _ _ _
          have HGB : Hid (V0.heap.size ≤ gb) := by show _ ≤ _; rw [hgb]; exact hHeld.size
          go_simp
          rw [← hZ5, ← hgb]
          refine hK.out _ _ (hHeld.trans (hb.mono hHeld.size)) (fun hHeld2 => ?_)
          clear hK hHeld
          have hHeld := hHeld2
          clear hHeld2
          clear hb hZ5 hgb
          refine take_call (i := 11) rfl (by kernel_rfl) (fun K2 hK => ?_)
          go_simp
          refine (nimplDiv X Y _ HRX.out HRY.out (HG.out.below (HF0.out.bel.trans (hHeld.mono HF0.out.bel.size)))).mono ?_
          rintro e Z6 ⟨rfl, hb⟩
          replace RZ := Lib.hid (nrow_below RZ.out hb)
          go_wp2_with fail
          refine hK.out _ _ (hHeld.trans (hb.mono hHeld.size)) (fun hHeld2 => ?_)
          clear hK hHeld
          have hHeld := hHeld2
          clear hHeld2
          clear hb
          refine take_call (i := 12) rfl (by kernel_rfl) (fun K2 hK => ?_)
          go_simp
          refine (sureQ_bad (Fq.div X Y) hc (Fq.div_fit HRX.out HRY.out HY0.out).1 _).mono ?_
          rintro e Z7 ⟨⟨s, rfl⟩, hb⟩
          go_wp2_with fail
          exact ⟨rfl, Or.inr ⟨HNG.out, s, rfl⟩, HF0.out.below (hHeld.trans (hb.mono hHeld.size))⟩
      case pos =>
        obtain ⟨f, hf⟩ : ∃ f, f = Fq.val (Fq.div X Y) := ⟨_, rfl⟩
        have HRF : Hid (Fq.R f) := by show Fq.R _; rw [hf]; exact (Fq.val_div HRX.out HRY.out HY0.out hc).1
        have HFE : Hid (El.fac (El.mats m U k) k r = f) := by show _ = _; rw [hf, HXE.out, HYE.out]; rfl
        have HFF := Lib.hid hf
        have HC := Lib.hid hc
        clear hf hc
        go_cut [5] (fun p V => ∃ gb, p = .pointer (some ⟨gb, 0, none⟩) ∧ Hid (V.rowIs gb 35 2 (rowN [.int .i64 f.1, .int .i64 f.2]) ∧ Below V0.heap.size V0 V ∧ V0.heap.size ≤ gb))
        case first =>
          refine wp_region_held_drew (S := fun V => Below V0.heap.size V0 V) (by kernel_rfl) (Below.refl _ _).drew (fun hHeld => ?_)
          obtain ⟨Z, hZ⟩ : ∃ Z, Z = V0.drew := ⟨_, rfl⟩
          rw [← hZ] at hHeld ⊢
          clear hZ
          refine take_do (i := 0) (v := (.slice (some ⟨gr, 0, none⟩) m cp)) rfl (by kernel_rfl) (by kernel_rfl) (by kernel_rfl) (fun _ _ _ h => h) (by rfl) ?_ (by assumption) ?_
          · intro w hSw
            skip
            go_simp
          simp only [Act.put, List.setIfInBounds_toArray, List.set_cons_zero, List.set_cons_succ]
          refine take_do (i := 1) (v := (.int .i64 r)) rfl (by kernel_rfl) (by kernel_rfl) (by kernel_rfl) (fun _ _ _ h => h) (by rfl) ?_ (by assumption) ?_
          · intro w hSw
            skip
            go_simp
          simp only [Act.put, List.setIfInBounds_toArray, List.set_cons_zero, List.set_cons_succ]
          refine take_do (i := 2) (v := (.pointer (some ⟨gr, r, none⟩))) rfl (by kernel_rfl) (by kernel_rfl) (by kernel_rfl) (fun _ _ _ h => h) (by rfl) ?_ (by assumption) ?_
          · intro w hSw
            skip
            go_simp
          simp only [Act.put, List.setIfInBounds_toArray, List.set_cons_zero, List.set_cons_succ]
          refine take_do (i := 3) (v := (.slice (some ⟨gc, P * 2, none⟩) (m + 1) (m + 1))) rfl (by kernel_rfl) (by kernel_rfl) (by kernel_rfl) (fun _ _ _ h => h) (by rfl) ?_ (by assumption) ?_
          · intro w hSw
            obtain ⟨_, _, _, _, q4⟩ := HCX.out w hSw
            go_simp
          simp only [Act.put, List.setIfInBounds_toArray, List.set_cons_zero, List.set_cons_succ]
          refine take_do (i := 4) (v := (.int .i64 k)) rfl (by kernel_rfl) (by kernel_rfl) (by kernel_rfl) (fun _ _ _ h => h) (by rfl) ?_ (by assumption) ?_
          · intro w hSw
            skip
            go_simp
          simp only [Act.put, List.setIfInBounds_toArray, List.set_cons_zero, List.set_cons_succ]
          refine take_do (i := 5) (v := (.pointer (some ⟨gc, (P + k) * 2, none⟩))) rfl (by kernel_rfl) (by kernel_rfl) (by kernel_rfl) (fun _ _ _ h => h) (by rfl) ?_ (by assumption) ?_
          · intro w hSw
            skip
            go_simp
          simp only [Act.put, List.setIfInBounds_toArray, List.set_cons_zero, List.set_cons_succ]
          refine take_do (i := 6) (v := (frV X)) rfl (by kernel_rfl) (by kernel_rfl) (by kernel_rfl) (fun _ _ _ h => h) (by rfl) ?_ (by assumption) ?_
          · intro w hSw
            obtain ⟨q0, q1, _, _, _⟩ := HCX.out w hSw
            go_simp
          simp only [Act.put, List.setIfInBounds_toArray, List.set_cons_zero, List.set_cons_succ]
          refine take_do (i := 7) (v := (.slice (some ⟨gc, Q * 2, none⟩) (m + 1) (m + 1))) rfl (by kernel_rfl) (by kernel_rfl) (by kernel_rfl) (fun _ _ _ h => h) (by rfl) ?_ (by assumption) ?_
          · intro w hSw
            skip
            go_simp
          simp only [Act.put, List.setIfInBounds_toArray, List.set_cons_zero, List.set_cons_succ]
          refine take_do (i := 8) (v := (.int .i64 k)) rfl (by kernel_rfl) (by kernel_rfl) (by kernel_rfl) (fun _ _ _ h => h) (by rfl) ?_ (by assumption) ?_
          · intro w hSw
            skip
            go_simp
          simp only [Act.put, List.setIfInBounds_toArray, List.set_cons_zero, List.set_cons_succ]
          refine take_do (i := 9) (v := (.pointer (some ⟨gc, (Q + k) * 2, none⟩))) rfl (by kernel_rfl) (by kernel_rfl) (by kernel_rfl) (fun _ _ _ h => h) (by rfl) ?_ (by assumption) ?_
          · intro w hSw
            skip
            go_simp
          simp only [Act.put, List.setIfInBounds_toArray, List.set_cons_zero, List.set_cons_succ]
          refine take_do (i := 10) (v := (frV Y)) rfl (by kernel_rfl) (by kernel_rfl) (by kernel_rfl) (fun _ _ _ h => h) (by rfl) ?_ (by assumption) ?_
          · intro w hSw
            obtain ⟨_, _, q2, q3, _⟩ := HCX.out w hSw
            go_simp
          simp only [Act.put, List.setIfInBounds_toArray, List.set_cons_zero, List.set_cons_succ]
          refine wpAnyH_ready (rs := [11, 13]) (by kernel_rfl) (by simp) (AllReadyH.cons (at_drop (i := 11) rfl) (fun K2 hK => ?_) (AllReadyH.cons (at_drop (i := 13) rfl) (fun K2 hK => ?_) (AllReadyH.nil)))
          · go_simp
            refine (nimplDiv X Y _ HRX.out HRY.out (HG.out.below (HF0.out.bel.trans (hHeld.mono HF0.out.bel.size)))).mono ?_
            rintro e Z1 ⟨rfl, hb⟩
            go_wp2_with fail
            refine hK.out _ _ (hHeld.trans (hb.mono hHeld.size)) (fun hHeld2 => ?_)
            clear hK hHeld
            have hHeld := hHeld2
            clear hHeld2
            clear hb
            refine wpAnyH_ready (rs := [12, 13]) (by kernel_rfl) (by simp) (AllReadyH.cons (at_drop (i := 12) rfl) (fun K2 hK => ?_) (AllReadyH.cons (at_drop (i := 13) rfl) (fun K2 hK => ?_) (AllReadyH.nil)))
            · go_simp
              refine (sureQ_ok (Fq.div X Y) HC.out _).mono ?_
              rintro e Z2 ⟨rfl, hb⟩
              rw [← HFF.out]
              go_wp2_with fail
              refine hK.out _ _ (hHeld.trans (hb.mono hHeld.size)) (fun hHeld2 => ?_)
              clear hK hHeld
              have hHeld := hHeld2
              clear hHeld2
              clear hb
              refine take_call (i := 13) rfl (by kernel_rfl) (fun K2 hK => ?_)
              obtain ⟨Z3, hZ3⟩ : ∃ Z3, Z3 = Z2.alloc (.cells #[.int .i64 0, .int .i64 0] 35) := ⟨_, rfl⟩
              have hb : Below Z2.heap.size Z2 Z3 := by rw [hZ3]; exact nbel_alloc _ _
              obtain ⟨gb, hgb⟩ : ∃ gb, gb = Z2.heap.size := ⟨_, rfl⟩
              have RZ : Hid (Z3.rowIs gb 35 2 (rowN [.int .i64 0, .int .i64 0])) := by show World.rowIs _ _ _ _ _; rw [hZ3, hgb]; exact rowN_alloc _ _ _
              have HGB : Hid (V0.heap.size ≤ gb) := by show _ ≤ _; rw [hgb]; exact hHeld.size
              go_simp
              rw [← hZ3, ← hgb]
              refine hK.out _ _ (hHeld.trans (hb.mono hHeld.size)) (fun hHeld2 => ?_)
              clear hK hHeld
              have hHeld := hHeld2
              clear hHeld2
              clear hb hZ3 hgb
              have o0 := RZ.out.cell (i := 0) (by omega)
              have z0 := RZ.out.frozen 0
              have o1 := RZ.out.cell (i := 1) (by omega)
              have z1 := RZ.out.frozen 1
              have l0 := RZ.out.lt
              obtain ⟨WZ, hWZ⟩ : ∃ WZ, WZ = ((Z3.setCell ⟨gb, 0, none⟩ (.int .i64 f.1)).setCell ⟨gb, 1, none⟩ (.int .i64 f.2)) := ⟨_, rfl⟩
              have hbZ : Below V0.heap.size V0 WZ := by rw [hWZ]; exact ((hHeld.setCell (p := ⟨gb, 0, none⟩) HGB.out _).setCell (p := ⟨gb, 1, none⟩) HGB.out _)
              have HFM : Hid (WZ.rowIs gb 35 2 (rowN [.int .i64 f.1, .int .i64 f.2])) := by show World.rowIs _ _ _ _ _; rw [hWZ]; exact (rowN_put (rowN_put RZ.out 0 (.int .i64 f.1) (by simp)) 1 (.int .i64 f.2) (by simp))
              have HWZ := Lib.hid hWZ
              have HBZ := Lib.hid hbZ
              clear hWZ hbZ
              refine take_call (i := 14) rfl (by kernel_rfl) (fun K2 hK => ?_)
              go_simp
              rw [← HWZ.out]
              refine hK.out _ _ HBZ.out (fun hHeld2 => ?_)
              clear hK hHeld hHeld2 HWZ o0 z0 o1 z1 l0
              refine wpAnyH_done (by kernel_rfl) ?_ _
              go_wp2_with fail
              go_meet
              case rel => exact ⟨gb, rfl, HFM.out, HBZ.out, HGB.out⟩
            · obtain ⟨Z4, hZ4⟩ : ∃ Z4, Z4 = Z1.alloc (.cells #[.int .i64 0, .int .i64 0] 35) := ⟨_, rfl⟩
              have hb : Below Z1.heap.size Z1 Z4 := by rw [hZ4]; exact nbel_alloc _ _
              obtain ⟨gb, hgb⟩ : ∃ gb, gb = Z1.heap.size := ⟨_, rfl⟩
              have RZ : Hid (Z4.rowIs gb 35 2 (rowN [.int .i64 0, .int .i64 0])) := by show World.rowIs _ _ _ _ _; rw [hZ4, hgb]; exact rowN_alloc _ _ _
              have HGB : Hid (V0.heap.size ≤ gb) := by show _ ≤ _; rw [hgb]; exact hHeld.size
              go_simp
              rw [← hZ4, ← hgb]
              refine hK.out _ _ (hHeld.trans (hb.mono hHeld.size)) (fun hHeld2 => ?_)
              clear hK hHeld
              have hHeld := hHeld2
              clear hHeld2
              clear hb hZ4 hgb
              refine take_call (i := 12) rfl (by kernel_rfl) (fun K2 hK => ?_)
              go_simp
              refine (sureQ_ok (Fq.div X Y) HC.out _).mono ?_
              rintro e Z5 ⟨rfl, hb⟩
              rw [← HFF.out]
              replace RZ := Lib.hid (nrow_below RZ.out hb)
              go_wp2_with fail
              refine hK.out _ _ (hHeld.trans (hb.mono hHeld.size)) (fun hHeld2 => ?_)
              clear hK hHeld
              have hHeld := hHeld2
              clear hHeld2
              clear hb
              have o0 := RZ.out.cell (i := 0) (by omega)
              have z0 := RZ.out.frozen 0
              have o1 := RZ.out.cell (i := 1) (by omega)
              have z1 := RZ.out.frozen 1
              have l0 := RZ.out.lt
              obtain ⟨WZ, hWZ⟩ : ∃ WZ, WZ = ((Z5.setCell ⟨gb, 0, none⟩ (.int .i64 f.1)).setCell ⟨gb, 1, none⟩ (.int .i64 f.2)) := ⟨_, rfl⟩
              have hbZ : Below V0.heap.size V0 WZ := by rw [hWZ]; exact ((hHeld.setCell (p := ⟨gb, 0, none⟩) HGB.out _).setCell (p := ⟨gb, 1, none⟩) HGB.out _)
              have HFM : Hid (WZ.rowIs gb 35 2 (rowN [.int .i64 f.1, .int .i64 f.2])) := by show World.rowIs _ _ _ _ _; rw [hWZ]; exact (rowN_put (rowN_put RZ.out 0 (.int .i64 f.1) (by simp)) 1 (.int .i64 f.2) (by simp))
              have HWZ := Lib.hid hWZ
              have HBZ := Lib.hid hbZ
              clear hWZ hbZ
              refine take_call (i := 14) rfl (by kernel_rfl) (fun K2 hK => ?_)
              go_simp
              rw [← HWZ.out]
              refine hK.out _ _ HBZ.out (fun hHeld2 => ?_)
              clear hK hHeld hHeld2 HWZ o0 z0 o1 z1 l0
              refine wpAnyH_done (by kernel_rfl) ?_ _
              go_wp2_with fail
              go_meet
              case rel => exact ⟨gb, rfl, HFM.out, HBZ.out, HGB.out⟩
          · obtain ⟨Z6, hZ6⟩ : ∃ Z6, Z6 = Z.alloc (.cells #[.int .i64 0, .int .i64 0] 35) := ⟨_, rfl⟩
            have hb : Below Z.heap.size Z Z6 := by rw [hZ6]; exact nbel_alloc _ _
            obtain ⟨gb, hgb⟩ : ∃ gb, gb = Z.heap.size := ⟨_, rfl⟩
            have RZ : Hid (Z6.rowIs gb 35 2 (rowN [.int .i64 0, .int .i64 0])) := by show World.rowIs _ _ _ _ _; rw [hZ6, hgb]; exact rowN_alloc _ _ _
            have HGB : Hid (V0.heap.size ≤ gb) := by show _ ≤ _; rw [hgb]; exact hHeld.size
            go_simp
            rw [← hZ6, ← hgb]
            refine hK.out _ _ (hHeld.trans (hb.mono hHeld.size)) (fun hHeld2 => ?_)
            clear hK hHeld
            have hHeld := hHeld2
            clear hHeld2
            clear hb hZ6 hgb
            refine take_call (i := 11) rfl (by kernel_rfl) (fun K2 hK => ?_)
            go_simp
            refine (nimplDiv X Y _ HRX.out HRY.out (HG.out.below (HF0.out.bel.trans (hHeld.mono HF0.out.bel.size)))).mono ?_
            rintro e Z7 ⟨rfl, hb⟩
            replace RZ := Lib.hid (nrow_below RZ.out hb)
            go_wp2_with fail
            refine hK.out _ _ (hHeld.trans (hb.mono hHeld.size)) (fun hHeld2 => ?_)
            clear hK hHeld
            have hHeld := hHeld2
            clear hHeld2
            clear hb
            refine take_call (i := 12) rfl (by kernel_rfl) (fun K2 hK => ?_)
            go_simp
            refine (sureQ_ok (Fq.div X Y) HC.out _).mono ?_
            rintro e Z8 ⟨rfl, hb⟩
            rw [← HFF.out]
            replace RZ := Lib.hid (nrow_below RZ.out hb)
            go_wp2_with fail
            refine hK.out _ _ (hHeld.trans (hb.mono hHeld.size)) (fun hHeld2 => ?_)
            clear hK hHeld
            have hHeld := hHeld2
            clear hHeld2
            clear hb
            have o0 := RZ.out.cell (i := 0) (by omega)
            have z0 := RZ.out.frozen 0
            have o1 := RZ.out.cell (i := 1) (by omega)
            have z1 := RZ.out.frozen 1
            have l0 := RZ.out.lt
            obtain ⟨WZ, hWZ⟩ : ∃ WZ, WZ = ((Z8.setCell ⟨gb, 0, none⟩ (.int .i64 f.1)).setCell ⟨gb, 1, none⟩ (.int .i64 f.2)) := ⟨_, rfl⟩
            have hbZ : Below V0.heap.size V0 WZ := by rw [hWZ]; exact ((hHeld.setCell (p := ⟨gb, 0, none⟩) HGB.out _).setCell (p := ⟨gb, 1, none⟩) HGB.out _)
            have HFM : Hid (WZ.rowIs gb 35 2 (rowN [.int .i64 f.1, .int .i64 f.2])) := by show World.rowIs _ _ _ _ _; rw [hWZ]; exact (rowN_put (rowN_put RZ.out 0 (.int .i64 f.1) (by simp)) 1 (.int .i64 f.2) (by simp))
            have HWZ := Lib.hid hWZ
            have HBZ := Lib.hid hbZ
            clear hWZ hbZ
            refine take_call (i := 14) rfl (by kernel_rfl) (fun K2 hK => ?_)
            go_simp
            rw [← HWZ.out]
            refine hK.out _ _ HBZ.out (fun hHeld2 => ?_)
            clear hK hHeld hHeld2 HWZ o0 z0 o1 z1 l0
            refine wpAnyH_done (by kernel_rfl) ?_ _
            go_wp2_with fail
            go_meet
            case rel => exact ⟨gb, rfl, HFM.out, HBZ.out, HGB.out⟩
        case rest =>
          obtain ⟨gb, rfl, hC⟩ := hcut
          obtain ⟨V1, hV1⟩ : ∃ w', w' = wc := ⟨_, rfl⟩
          rw [← hV1] at hC ⊢
          clear hV1
          have HF1 := Lib.hid (HF0.out.below hC.out.2.1)
          have HI2 := Lib.hid (HI1.out.below hC.out.2.1)
          have HRB := Lib.hid hC.out.1
          have HBN : Hid (gb ≠ gc) := by
            have h1 := hC.out.2.2
            have h2 := HI1.out.lt
            show _ ≠ _
            omega
          have HR4 : Hid (V1.cell? ⟨gr, r, none⟩ = some (.slice (some ⟨gc, P * 2, none⟩) (m + 1) (m + 1))) := (HCX.out V1 hC.out.2.1).2.2.2.2
          have HER : Hid (ElR gr gc m gb f b V1) := ⟨HF1.out.bel, nrow_below (HF0.out.row HRW.out HNE.out) hC.out.2.1, HRB.out⟩
          clear hC HI1 HCX
          obtain ⟨⟨o0, o1⟩, _⟩ := rowN2 HRB.out
          by_cases hf0 : f.1 = 0
          case pos =>
            have hf1 : (f.1 != 0) = false := by simp [hf0]
            have HI3 : Hid (IsBlk 35 gc (m * (m + 1) * 2) (Nt.cells2 (Nt.flat m (El.part (El.mats m U k) k (r + 1)))) V1) := by
              show IsBlk _ _ _ _ _
              rw [Nt.part_none (by rw [HFE.out]; exact hf0)]
              exact HI2.out
            have HG3 : Hid (El.Good m U k (r + 1)) := HGD.out.row (fun _ => ⟨by rw [← HXE.out, ← HYE.out]; exact HC.out, fun h => absurd (by rw [HFE.out]; exact hf0) h⟩)
            clear hf0
            go_wp2_with fail
            go_roundw
            case rel => exact ⟨r + 1, by omega, by omega, by go_num, HF1, HI3, HG3⟩
            case measure => simp [intOf]; omega
          case neg =>
            have hf1 : (f.1 != 0) = true := by simp [hf0]
            go_upto_region 8 with fail
            clear o0 o1 hf1
            refine wp_region_held_drew (S := fun V => ElR gr gc m gb f b V) (by kernel_rfl) (HER.out.below (Below.refl _ _).drew) (fun hHeld => ?_)
            obtain ⟨Z, hZ⟩ : ∃ Z, Z = V1.drew := ⟨_, rfl⟩
            replace HF1 : Hid (Fg gc b w Z) := by rw [hZ]; exact HF1.out.below (Below.refl _ _).drew
            replace HI2 : Hid (IsBlk 35 gc (m * (m + 1) * 2) (Nt.cells2 (Nt.flat m (El.part (El.mats m U k) k r))) Z) := by rw [hZ]; exact HI2.out.below (Below.refl _ _).drew
            rw [← hZ] at hHeld ⊢
            clear hZ HER HRB HR4
            refine take_do (i := 0) (v := (.slice (some ⟨gr, 0, none⟩) m cp)) rfl (by kernel_rfl) (by kernel_rfl) (by kernel_rfl) (fun _ _ _ h => h) (by rfl) ?_ (by assumption) ?_
            · intro w hSw
              skip
              go_simp
            simp only [Act.put, List.setIfInBounds_toArray, List.set_cons_zero, List.set_cons_succ]
            refine take_do (i := 1) (v := (.int .i64 r)) rfl (by kernel_rfl) (by kernel_rfl) (by kernel_rfl) (fun _ _ _ h => h) (by rfl) ?_ (by assumption) ?_
            · intro w hSw
              skip
              go_simp
            simp only [Act.put, List.setIfInBounds_toArray, List.set_cons_zero, List.set_cons_succ]
            refine take_do (i := 2) (v := (.pointer (some ⟨gr, r, none⟩))) rfl (by kernel_rfl) (by kernel_rfl) (by kernel_rfl) (fun _ _ _ h => h) (by rfl) ?_ (by assumption) ?_
            · intro w hSw
              skip
              go_simp
            simp only [Act.put, List.setIfInBounds_toArray, List.set_cons_zero, List.set_cons_succ]
            refine take_do (i := 3) (v := (.slice (some ⟨gc, P * 2, none⟩) (m + 1) (m + 1))) rfl (by kernel_rfl) (by kernel_rfl) (by kernel_rfl) (fun _ _ _ h => h) (by rfl) ?_ (by assumption) ?_
            · intro w hSw
              have q0 : w.cell? ⟨gr, r, none⟩ = some (.slice (some ⟨gc, P * 2, none⟩) (m + 1) (m + 1)) := by rw [HPE.out]; exact hSw.rr.cell (i := r) hrlt
              go_simp
            simp only [Act.put, List.setIfInBounds_toArray, List.set_cons_zero, List.set_cons_succ]
            refine take_do (i := 4) (v := (.int .i64 k)) rfl (by kernel_rfl) (by kernel_rfl) (by kernel_rfl) (fun _ _ _ h => h) (by rfl) ?_ (by assumption) ?_
            · intro w hSw
              skip
              go_simp
            simp only [Act.put, List.setIfInBounds_toArray, List.set_cons_zero, List.set_cons_succ]
            refine take_do (i := 5) (v := (.slice (some ⟨gc, (P + k) * 2, none⟩) (m + 1 - k) (m + 1 - k))) rfl (by kernel_rfl) (by kernel_rfl) (by kernel_rfl) (fun _ _ _ h => h) (by rfl) ?_ (by assumption) ?_
            · intro w hSw
              have hk2 : ¬ m + 1 = k := by omega
              have hk3 : (k : Int) ≤ (m : Int) + 1 := by omega
              go_simp
            simp only [Act.put, List.setIfInBounds_toArray, List.set_cons_zero, List.set_cons_succ]
            refine take_do (i := 6) (v := (frV f)) rfl (by kernel_rfl) (by kernel_rfl) (by kernel_rfl) (fun _ _ _ h => h) (by rfl) ?_ (by assumption) ?_
            · intro w hSw
              obtain ⟨⟨q0, q1⟩, _⟩ := rowN2 hSw.rf
              go_simp
            simp only [Act.put, List.setIfInBounds_toArray, List.set_cons_zero, List.set_cons_succ]
            refine take_do (i := 7) (v := (.slice (some ⟨gc, Q * 2, none⟩) (m + 1) (m + 1))) rfl (by kernel_rfl) (by kernel_rfl) (by kernel_rfl) (fun _ _ _ h => h) (by rfl) ?_ (by assumption) ?_
            · intro w hSw
              skip
              go_simp
            simp only [Act.put, List.setIfInBounds_toArray, List.set_cons_zero, List.set_cons_succ]
            refine take_do (i := 8) (v := (.int .i64 k)) rfl (by kernel_rfl) (by kernel_rfl) (by kernel_rfl) (fun _ _ _ h => h) (by rfl) ?_ (by assumption) ?_
            · intro w hSw
              skip
              go_simp
            simp only [Act.put, List.setIfInBounds_toArray, List.set_cons_zero, List.set_cons_succ]
            refine take_do (i := 9) (v := (.slice (some ⟨gc, (Q + k) * 2, none⟩) (m + 1 - k) (m + 1 - k))) rfl (by kernel_rfl) (by kernel_rfl) (by kernel_rfl) (fun _ _ _ h => h) (by rfl) ?_ (by assumption) ?_
            · intro w hSw
              have hk2 : ¬ m + 1 = k := by omega
              have hk3 : (k : Int) ≤ (m : Int) + 1 := by omega
              go_simp
            simp only [Act.put, List.setIfInBounds_toArray, List.set_cons_zero, List.set_cons_succ]
            refine take_call (i := 10) rfl (by kernel_rfl) (fun K2 hK => ?_)
            go_simp
            refine (takeRow_any gc (m * (m + 1)) (Nt.flat m (El.part (El.mats m U k) k r)) (P + k) (Q + k) (m + 1 - k) (m + 1 - k) (m + 1 - k) f b Z HF1.out.bel HGB.out HI2.out (by have := HPL.out; omega) (by have := HPL.out; have := HQL.out; omega) (by have := HQL.out; omega) (by have := HSZ.out; omega) (fun c hc => ?_) (fun c hc => ?_) HRF.out HG.out).mono ?_
            · rw [HPE.out, show r * (m + 1) + k + c = r * (m + 1) + (k + c) by omega, Nt.flat_at _ (by omega)]
              exact El.part_right HPK.out.r (HPK.out.ne hlt) hlt HGD.out.2 r (k + c) hrlt (by omega)
            · rw [HQE.out, show k * (m + 1) + k + c = k * (m + 1) + (k + c) by omega, Nt.flat_at _ (by omega)]
              exact El.part_right HPK.out.r (HPK.out.ne hlt) hlt HGD.out.2 k (k + c) hlt (by omega)
            rintro e Z1 ⟨hE, hFg⟩
            have hTO : Nt.TrOk (Nt.flat m (El.part (El.mats m U k) k r)) (P + k) (Q + k) f (m + 1 - k) ↔ ∀ c, k ≤ c → c ≤ m → El.CellOk (El.mats m U k) k r c := by
              rw [HPE.out, HQE.out, ← HFE.out]
              exact Nt.tr_ok
            have HF2 := Lib.hid (HF1.out.trans hFg)
            have HS2 : Hid (ElR gr gc m gb f b Z1) := ⟨hFg.bel, hFg.row hHeld.rr HNE.out, hFg.row hHeld.rf HBN.out⟩
            rcases hE with ⟨hok, rfl, hI⟩ | ⟨hno, s, rfl⟩
            case inr =>
              have HNG : Hid (¬ El.Good m U m m) := fun h => hno (hTO.2 ((h.1 k hlt r (by omega) hrlt).2 (by rw [HFE.out]; exact hf0)))
              clear hTO hFg hno
              go_wp2_with fail
              exact ⟨rfl, Or.inr ⟨HNG.out, s, rfl⟩, HF2.out⟩
            have HI3 : Hid (IsBlk 35 gc (m * (m + 1) * 2) (Nt.cells2 (Nt.flat m (El.part (El.mats m U k) k (r + 1)))) Z1) := by
              show IsBlk _ _ _ _ _
              have e : Nt.trF (Nt.flat m (El.part (El.mats m U k) k r)) (P + k) (Q + k) f (m + 1 - k) = Nt.flat m (El.part (El.mats m U k) k (r + 1)) := by
                rw [HPE.out, HQE.out, ← HFE.out]
                exact funext (Nt.tr_flat hlt (by omega) (by rw [HFE.out]; exact hf0))
              rw [← e]
              exact hI
            have HG3 : Hid (El.Good m U k (r + 1)) := HGD.out.row (fun _ => ⟨by rw [← HXE.out, ← HYE.out]; exact HC.out, fun _ => hTO.1 hok⟩)
            clear hTO hok hI hFg hf0
            go_wp2_with fail
            refine hK.out _ _ HS2.out (fun hHeld2 => ?_)
            clear hK hHeld hHeld2
            refine wpAnyH_done (by kernel_rfl) ?_ _
            go_wp2_with fail
            go_roundw
            case rel => exact ⟨r + 1, by omega, by omega, by go_num, HF2, HI3, HG3⟩
            case measure => simp [intOf]; omega
end Go.Proofs.YtkaokfmaecdkiaaGreatDoor
namespace Go.Proofs.YtkaokfmaecdkiaaGreatDoor
open Go Go.RowKit Go.Deep

theorem Fg.at_ {g : Nat} {b w W : World} (h : Fg g b w W) {a : Option Addr} {n : Nat} {f : Nat → Int} (ha : IsAt a n f w) (hne : ∀ k, a = some ⟨k, 0, none⟩ → k ≠ g) : IsAt a n f W := ha.same (fun k e hk => h.same k (hne k e) hk)
theorem Fg.blk {g : Nat} {b w W : World} (h : Fg g b w W) {T : TypeId} {x n : Nat} {f : Nat → Int} (hx : IsBlk T x n f w) (hne : x ≠ g) : IsBlk T x n f W := hx.block (h.same x hne hx.lt)
/-- What stands while heads are found: the rows, the nodes, the old memory. -/
structure FhS (gr gc gh : Nat) (fa : Option Addr) (n : Nt.Net) (b w W : World) : Prop where
  fg : Fg gh b w W
  rr : W.rowIs gr 29 (Nt.mm n) (rwV gc (Nt.mm n))
  mx : IsBlk 35 gc (Nt.mm n * (Nt.mm n + 1) * 2) (Nt.cells2 (Nt.flat (Nt.mm n) (Nt.Um n))) W
  fr : IsAt fa (Nt.mm n) (fun r => (Nt.nd n r : Int)) W
theorem FhS.below {gr gc gh : Nat} {fa : Option Addr} {n : Nt.Net} {b w W W' : World} (h : FhS gr gc gh fa n b w W) (hb : Below W.heap.size W W') : FhS gr gc gh fa n b w W' := ⟨h.fg.below hb, nrow_below h.rr hb, h.mx.below hb, h.fr.below hb⟩
theorem Fg.cell {g : Nat} {b w W : World} (h : Fg g b w W) {k i : Nat} {v : Value} (hc : w.cell? ⟨k, i, none⟩ = some v) (hk : k ≠ g) : W.cell? ⟨k, i, none⟩ = some v := (World.cell?_of_block (a := ⟨k, i, none⟩) (h.same k hk (World.block_lt_of_cell? _ _ hc))).trans hc
theorem FhS.side {gr gc gh gs : Nat} {fa : Option Addr} {n : Nt.Net} {b w W W' : World} (h : FhS gr gc gh fa n b w W) (hf : Fg gs b W W') (h1 : w.heap.size ≤ gs) (h2 : gs ≠ gr) (h3 : gs ≠ gc) (h4 : ∀ x, fa = some ⟨x, 0, none⟩ → gs ≠ x) : FhS gr gc gh fa n b w W' :=
  ⟨⟨hf.bel, Nat.le_trans h.fg.size hf.size, fun k a c => (hf.same k (by omega) (by have := h.fg.size; omega)).trans (h.fg.same k a c)⟩, hf.row h.rr (fun e => h2 e.symm), hf.blk h.mx (fun e => h3 e.symm), hf.at_ h.fr (fun k e e2 => h4 k e e2.symm)⟩
/-- What is told of heads found backwards. -/
def FhEnd (gh : Nat) (n : Nt.Net) (e : Ending) (W : World) : Prop := (El.HdOk (Nt.mm n) (Nt.Um n) (Nt.mm n) ∧ e = .returned (.tuple #[]) ∧ IsBlk 35 gh (Nt.nn n * 2) (Nt.cells2 (Nt.svH n)) W) ∨ (¬ El.HdOk (Nt.mm n) (Nt.Um n) (Nt.mm n) ∧ ∃ s, e = thrown s 5)
theorem um_cells {gc m : Nat} {U : El.Mx} {r c : Nat} {W : World} (h : IsBlk 35 gc (m * (m + 1) * 2) (Nt.cells2 (Nt.flat m U)) W) (hr : r < m) (hc : c ≤ m) : W.cell? ⟨gc, r * (m + 1) * 2 + c * 2, none⟩ = some (.int .i64 (U r c).1) ∧ W.cell? ⟨gc, r * (m + 1) * 2 + c * 2 + 1, none⟩ = some (.int .i64 (U r c).2) := by
  have hl := Nt.flat_lt hr hc
  have c0 := h.cell (i := (r * (m + 1) + c) * 2) (by omega)
  have c1 := h.cell (i := (r * (m + 1) + c) * 2 + 1) (by omega)
  rw [Nt.cells2_0, Nt.flat_at _ hc] at c0
  rw [Nt.cells2_1, Nt.flat_at _ hc] at c1
  rw [show (r * (m + 1) + c) * 2 = r * (m + 1) * 2 + c * 2 by omega] at c0 c1
  exact ⟨c0, c1⟩
set_option maxRecDepth 100000 in
set_option maxHeartbeats 8000000 in
theorem fillHeads_any (gr gc gh hkk : Nat) (fa : Option Addr) (fc cp : Nat) (n : Nt.Net) (b w : World) (hS : FhS gr gc gh fa n b w w) (hgb : b.heap.size ≤ gh) (hh : IsBlk 35 gh (Nt.nn n * 2) (Nt.cells2 (Nt.hv n 0)) w) (hne : gr ≠ gh ∧ gc ≠ gh ∧ ∀ k, fa = some ⟨k, 0, none⟩ → k ≠ gh) (hm : Nt.mm n ≤ Nt.nn n) (hnn : Nt.nn n ≤ 12) (hR : El.AllR (Nt.mm n) (Nt.Um n)) (h0 : ∀ k, k < Nt.mm n → (Nt.Um n k k).1 ≠ 0) (hg : NEt b) :
    Calls Tryz.prog 67 #[.slice (some ⟨gh, 0, none⟩) (Nt.nn n) hkk, .slice fa (Nt.mm n) fc, .slice (some ⟨gr, 0, none⟩) (Nt.mm n) cp] w fun e w' => FhEnd gh n e w' ∧ Fg gh b w w' := by
  obtain ⟨m, hmE⟩ : ∃ m, m = Nt.mm n := ⟨_, rfl⟩
  obtain ⟨U, hUE⟩ : ∃ U, U = Nt.Um n := ⟨_, rfl⟩
  obtain ⟨NN, hNE⟩ : ∃ x, x = Nt.nn n := ⟨_, rfl⟩
  rw [← hmE, ← hNE] at hm
  rw [← hNE] at hnn
  rw [← hmE, ← hUE] at hR h0
  rw [← hNE] at hh
  rw [← hmE, ← hNE]
  have HFE := Lib.hid (show ∀ e W, ((El.HdOk m U m ∧ e = .returned (.tuple #[]) ∧ IsBlk 35 gh (NN * 2) (Nt.cells2 (Nt.hv n m)) W) ∨ (¬ El.HdOk m U m ∧ ∃ s, e = thrown s 5)) → FhEnd gh n e W from fun e W h => by rw [hmE, hUE, hNE] at h; exact h)
  have HND : Hid (∀ j, j < m → Nt.nd n j < NN) := fun j hj => by rw [hNE]; exact (Nt.nd_lt (by rw [← hmE]; exact hj)).1
  have HHV : Hid (∀ s, s ≤ m → ∀ j, m - s ≤ j → j < m → Nt.hv n s (Nt.nd n j) = El.hd m U s j) := fun s hs j h1 h2 => by
    rw [hmE, hUE]
    exact Nt.hv_nd s (by rw [← hmE]; exact hs) j (by rw [← hmE]; exact h1) (by rw [← hmE]; exact h2)
  have HHN : Hid (∀ s, s < m → Nt.hv n (s + 1) = Nt.updF (Nt.hv n s) (Nt.nd n (m - 1 - s)) (El.hd m U (s + 1) (m - 1 - s))) := fun s _ => by rw [hmE, hUE]; rfl
  have S0 : Hid (FhS gr gc gh fa n b w w) := hS
  have HTAKE : Hid (∀ {V : World}, FhS gr gc gh fa n b w V → V.rowIs gr 29 m (rwV gc m) ∧ IsBlk 35 gc (m * (m + 1) * 2) (Nt.cells2 (Nt.flat m U)) V ∧ IsAt fa m (fun r => (Nt.nd n r : Int)) V) := fun h => by rw [hmE, hUE]; exact ⟨h.rr, h.mx, h.fr⟩
  have I0 := Lib.hid hh
  have HGB := Lib.hid hgb
  have HBW : Hid (b.heap.size ≤ w.heap.size) := S0.out.fg.bel.size
  have HNE := Lib.hid hne
  have HR := Lib.hid hR
  have H0 := Lib.hid h0
  have HG := Lib.hid hg
  clear hS hgb hh hne hR h0 hg hmE hUE hNE
  go_enter Tryz.func67, Tryz.ntmps67
  go_wp2_with fail
  go_loopw [6, 7, 8] (fun kv sv cv wr => ∃ (s : Nat), s ≤ m ∧ kv = .int .i64 ((m : Int) - 1 - s) ∧ Hid (FhS gr gc gh fa n b w wr) ∧ Hid (IsBlk 35 gh (NN * 2) (Nt.cells2 (Nt.hv n s)) wr) ∧ Hid (El.HdOk m U s)) (fun kv _ _ _ => (intOf kv + 1).toNat)
  case atStart => exact ⟨0, Nat.zero_le _, by go_num, S0, I0, fun j hj => absurd hj (Nat.not_lt_zero _)⟩
  case round =>
    clear S0 I0
    obtain ⟨s, hs, rfl, S0, I0, HOK⟩ := hrel
    by_cases hlt : s < m
    case neg =>
      obtain rfl : s = m := by omega
      have hz : ¬ (0 : Int) ≤ (s : Int) - 1 - s := by omega
      go_wp2_with fail
      exact bodyPost_end (v := .tuple #[]) (by simp only [results, Tryz.results67]; simp [go_sem]) rfl ⟨HFE.out _ _ (Or.inl ⟨HOK.out, rfl, I0.out⟩), S0.out.fg⟩
    obtain ⟨k, hk⟩ : ∃ k, k + 1 + s = m := ⟨m - 1 - s, by omega⟩
    have hkz : (m : Int) - 1 - s = (k : Int) := by omega
    rw [hkz]
    have hks : m - 1 - s = k := by omega
    have HKS := Lib.hid hks
    have hkm : k < m := by omega
    have hkmz : (k : Int) < (m : Int) := by omega
    have hk0 : (0 : Int) ≤ (k : Int) := by omega
    clear hkz hks
    obtain ⟨V0, hV0⟩ : ∃ w', w' = wr := ⟨_, rfl⟩
    rw [← hV0] at S0 I0 ⊢
    clear hV0
    obtain ⟨t1, t2, t3⟩ := HTAKE.out S0.out
    have d0 : V0.cell? ⟨gr, k, none⟩ = some (.slice (some ⟨gc, k * (m + 1) * 2, none⟩) (m + 1) (m + 1)) := t1.cell (i := k) hkm
    obtain ⟨d1, d2⟩ := um_cells t2 hkm (Nat.le_refl m)
    have hmm : (m : Int) < (m : Int) + 1 := by omega
    have hmm2 : ¬ (m : Int) + 1 ≤ (m : Int) := by omega
    clear t1 t2 t3
    obtain ⟨V1, hV1⟩ : ∃ W, W = V0.alloc (.cells #[.int .i64 (U k m).1, .int .i64 (U k m).2] 35) := ⟨_, rfl⟩
    obtain ⟨gs, hgs⟩ : ∃ x, x = V0.heap.size := ⟨_, rfl⟩
    have S1 : Hid (FhS gr gc gh fa n b w V1) := by show FhS _ _ _ _ _ _ _ _; rw [hV1]; exact S0.out.below (nbel_alloc _ _)
    have I1 : Hid (IsBlk 35 gh (NN * 2) (Nt.cells2 (Nt.hv n s)) V1) := by show IsBlk _ _ _ _ _; rw [hV1]; exact I0.out.below (nbel_alloc _ _)
    have R1 : Hid (V1.rowIs gs 35 2 (rowN [.int .i64 (El.bs m U (El.hd m U s) k 0).1, .int .i64 (El.bs m U (El.hd m U s) k 0).2])) := by show World.rowIs _ _ _ _ _; rw [hV1, hgs]; exact rowN_alloc V0 _ _
    have HGS : Hid (w.heap.size ≤ gs ∧ gs ≠ gh ∧ gs ≠ gr ∧ gs ≠ gc ∧ ∀ x, fa = some ⟨x, 0, none⟩ → 0 < m → gs ≠ x) := by
      obtain ⟨t1, t2, t3⟩ := HTAKE.out S0.out
      have a1 := I0.out.lt
      have a2 := t1.lt
      have a3 := t2.lt
      have a4 := S0.out.fg.size
      refine ⟨by omega, by omega, by omega, by omega, fun x e hm0 => ?_⟩
      obtain ⟨y, ey, cy⟩ := t3.at1 hm0
      rw [e] at ey
      cases ey
      have := World.block_lt_of_cell? _ _ cy
      simp only at this
      omega
    have HV1 := Lib.hid hV1
    have HGSE := Lib.hid hgs
    clear hV1 hgs S0 I0
    go_wp2_with fail
    rw [← HV1.out, ← HGSE.out]
    clear HV1 HGSE d0 d1 d2
    obtain ⟨xf, hxf⟩ : ∃ x, fa = some ⟨x, 0, none⟩ := by
      obtain ⟨y, ey, _⟩ := (HTAKE.out S1.out).2.2.at1 (show 0 < m by omega)
      exact ⟨y, ey⟩
    subst hxf
    obtain ⟨g1, g2, g3, g4, g5⟩ := HGS.out
    have HGF : Hid (gs ≠ xf) := g5 xf rfl (by omega)
    have HHR : Hid (∀ j, k < j → j < m → Fq.R (El.hd m U s j)) := fun j h1 h2 => El.hd_right HR.out H0.out s hs HOK.out j (by omega) h2
    clear g1 g2 g3 g4 g5
    go_loopw [8] (fun cv wx => ∃ (t : Nat), t ≤ s ∧ cv = .int .i64 ((k + 1 + t : Nat) : Int) ∧ Hid (Fg gs b V1 wx) ∧ Hid (wx.rowIs gs 35 2 (rowN [.int .i64 (El.bs m U (El.hd m U s) k t).1, .int .i64 (El.bs m U (El.hd m U s) k t).2])) ∧ Hid (El.BsOk m U (El.hd m U s) k t)) (fun cv _ => m - (intOf cv).toNat)
    case atStart => exact ⟨0, Nat.zero_le _, by go_num, ⟨S1.out.fg.bel, Nat.le_refl _, fun _ _ _ => rfl⟩, R1, fun j hj => absurd hj (Nat.not_lt_zero _)⟩
    case round =>
      clear R1
      obtain ⟨t, ht, rfl, HF1, R1, HBO⟩ := hrel
      obtain ⟨V2, hV2⟩ : ∃ w', w' = wr := ⟨_, rfl⟩
      rw [← hV2] at HF1 R1 ⊢
      clear hV2
      have S2 : Hid (FhS gr gc gh (some ⟨xf, 0, none⟩) n b w V2) := S1.out.side HF1.out HGS.out.1 HGS.out.2.2.1 HGS.out.2.2.2.1 (fun x e => by cases e; exact HGF.out)
      have I2 : Hid (IsBlk 35 gh (NN * 2) (Nt.cells2 (Nt.hv n s)) V2) := HF1.out.blk I1.out (fun e => HGS.out.2.1 e.symm)
      by_cases hts : t < s
      case neg =>
        obtain rfl : t = s := by omega
        have hcz : ¬ ((k + 1 + t : Nat) : Int) < (m : Int) := by omega
        go_upto_region 8 with fail
        obtain ⟨X, hX⟩ : ∃ X, X = U k k := ⟨_, rfl⟩
        obtain ⟨T, hT⟩ : ∃ T, T = El.bs m U (El.hd m U t) k t := ⟨_, rfl⟩
        obtain ⟨v, hv⟩ : ∃ v, v = Nt.nd n k := ⟨_, rfl⟩
        have HRX : Hid (Fq.R X) := by show Fq.R _; rw [hX]; exact HR.out k k hkm (by omega)
        have HX0 : Hid (X.1 ≠ 0) := by show _ ≠ _; rw [hX]; exact H0.out k hkm
        have HRT : Hid (Fq.R T) := by show Fq.R _; rw [hT]; exact El.bs_right HR.out hkm HHR.out t (by omega) HBO.out
        have hvn : v < NN := by rw [hv]; exact HND.out k hkm
        have hvz : (v : Int) < (NN : Int) := by omega
        have hc1 : (k : Int) < (m : Int) + 1 := by omega
        have hc2 : ¬ (m : Int) + 1 ≤ (k : Int) := by omega
        rw [← hT] at R1
        have HCX : Hid (V2.cell? ⟨gr, k, none⟩ = some (.slice (some ⟨gc, k * (m + 1) * 2, none⟩) (m + 1) (m + 1)) ∧ (V2.cell? ⟨gc, k * (m + 1) * 2 + k * 2, none⟩ = some (.int .i64 X.1) ∧ V2.cell? ⟨gc, k * (m + 1) * 2 + k * 2 + 1, none⟩ = some (.int .i64 X.2)) ∧ V2.cell? ⟨xf, k, none⟩ = some (.int .i64 (v : Int)) ∧ V2.cell? ⟨gs, 0, none⟩ = some (.int .i64 T.1) ∧ V2.cell? ⟨gs, 1, none⟩ = some (.int .i64 T.2)) := by
          obtain ⟨t1, t2, t3⟩ := HTAKE.out S2.out
          obtain ⟨⟨c4, c5⟩, _⟩ := rowN2 R1.out
          refine ⟨t1.cell (i := k) hkm, by rw [hX]; exact um_cells t2 hkm (by omega), ?_, c4, c5⟩
          obtain ⟨y, ey, cy⟩ := t3.at1 hkm
          cases ey
          rw [hv]
          exact cy
        obtain ⟨P, hP⟩ : ∃ P, P = k * (m + 1) * 2 := ⟨_, rfl⟩
        rw [← hP] at HCX
        have HXE := Lib.hid hX
        have HTE := Lib.hid hT
        have HVE := Lib.hid hv
        clear hX hT hv hP R1
        refine wp_region_held_drew (S := fun V => Fg gh b V2 V) (by kernel_rfl) (Fg.below ⟨S2.out.fg.bel, Nat.le_refl _, fun _ _ _ => rfl⟩ (Below.refl _ _).drew) (fun hHeld => ?_)
        obtain ⟨Z, hZ⟩ : ∃ Z, Z = V2.drew := ⟨_, rfl⟩
        replace I2 : Hid (IsBlk 35 gh (NN * 2) (Nt.cells2 (Nt.hv n t)) Z) := by rw [hZ]; exact I2.out.below (Below.refl _ _).drew
        rw [← hZ] at hHeld ⊢
        clear hZ
        refine take_do (i := 0) (v := (.slice (some ⟨gh, 0, none⟩) NN hkk)) rfl (by kernel_rfl) (by kernel_rfl) (by kernel_rfl) (fun _ _ _ h => h) (by rfl) ?_ (by assumption) ?_
        · intro w hSw
          skip
          go_simp
        simp only [Act.put, List.setIfInBounds_toArray, List.set_cons_zero, List.set_cons_succ]
        refine take_do (i := 1) (v := (.slice (some ⟨xf, 0, none⟩) m fc)) rfl (by kernel_rfl) (by kernel_rfl) (by kernel_rfl) (fun _ _ _ h => h) (by rfl) ?_ (by assumption) ?_
        · intro w hSw
          skip
          go_simp
        simp only [Act.put, List.setIfInBounds_toArray, List.set_cons_zero, List.set_cons_succ]
        refine take_do (i := 2) (v := (.int .i64 k)) rfl (by kernel_rfl) (by kernel_rfl) (by kernel_rfl) (fun _ _ _ h => h) (by rfl) ?_ (by assumption) ?_
        · intro w hSw
          skip
          go_simp
        simp only [Act.put, List.setIfInBounds_toArray, List.set_cons_zero, List.set_cons_succ]
        refine take_do (i := 3) (v := (.pointer (some ⟨xf, k, none⟩))) rfl (by kernel_rfl) (by kernel_rfl) (by kernel_rfl) (fun _ _ _ h => h) (by rfl) ?_ (by assumption) ?_
        · intro w hSw
          skip
          go_simp
        simp only [Act.put, List.setIfInBounds_toArray, List.set_cons_zero, List.set_cons_succ]
        refine take_do (i := 4) (v := (.int .i64 v)) rfl (by kernel_rfl) (by kernel_rfl) (by kernel_rfl) (fun _ _ _ h => h) (by rfl) ?_ (by assumption) ?_
        · intro w hSw
          obtain ⟨q0, ⟨q1, q2⟩, q3, q4, q5⟩ := HCX.out
          have j0 := hSw.cell q3 (HNE.out.2.2 xf rfl)
          go_simp
        simp only [Act.put, List.setIfInBounds_toArray, List.set_cons_zero, List.set_cons_succ]
        refine take_do (i := 5) (v := (frV T)) rfl (by kernel_rfl) (by kernel_rfl) (by kernel_rfl) (fun _ _ _ h => h) (by rfl) ?_ (by assumption) ?_
        · intro w hSw
          obtain ⟨q0, ⟨q1, q2⟩, q3, q4, q5⟩ := HCX.out
          have j0 := hSw.cell q4 HGS.out.2.1
          have j1 := hSw.cell q5 HGS.out.2.1
          go_simp
        simp only [Act.put, List.setIfInBounds_toArray, List.set_cons_zero, List.set_cons_succ]
        refine take_do (i := 6) (v := (.slice (some ⟨gr, 0, none⟩) m cp)) rfl (by kernel_rfl) (by kernel_rfl) (by kernel_rfl) (fun _ _ _ h => h) (by rfl) ?_ (by assumption) ?_
        · intro w hSw
          skip
          go_simp
        simp only [Act.put, List.setIfInBounds_toArray, List.set_cons_zero, List.set_cons_succ]
        refine take_do (i := 7) (v := (.int .i64 k)) rfl (by kernel_rfl) (by kernel_rfl) (by kernel_rfl) (fun _ _ _ h => h) (by rfl) ?_ (by assumption) ?_
        · intro w hSw
          skip
          go_simp
        simp only [Act.put, List.setIfInBounds_toArray, List.set_cons_zero, List.set_cons_succ]
        refine take_do (i := 8) (v := (.pointer (some ⟨gr, k, none⟩))) rfl (by kernel_rfl) (by kernel_rfl) (by kernel_rfl) (fun _ _ _ h => h) (by rfl) ?_ (by assumption) ?_
        · intro w hSw
          skip
          go_simp
        simp only [Act.put, List.setIfInBounds_toArray, List.set_cons_zero, List.set_cons_succ]
        refine take_do (i := 9) (v := (.slice (some ⟨gc, P, none⟩) (m + 1) (m + 1))) rfl (by kernel_rfl) (by kernel_rfl) (by kernel_rfl) (fun _ _ _ h => h) (by rfl) ?_ (by assumption) ?_
        · intro w hSw
          obtain ⟨q0, ⟨q1, q2⟩, q3, q4, q5⟩ := HCX.out
          have j0 := hSw.cell q0 HNE.out.1
          go_simp
        simp only [Act.put, List.setIfInBounds_toArray, List.set_cons_zero, List.set_cons_succ]
        refine take_do (i := 10) (v := (.int .i64 k)) rfl (by kernel_rfl) (by kernel_rfl) (by kernel_rfl) (fun _ _ _ h => h) (by rfl) ?_ (by assumption) ?_
        · intro w hSw
          skip
          go_simp
        simp only [Act.put, List.setIfInBounds_toArray, List.set_cons_zero, List.set_cons_succ]
        refine take_do (i := 11) (v := (.pointer (some ⟨gc, P + k * 2, none⟩))) rfl (by kernel_rfl) (by kernel_rfl) (by kernel_rfl) (fun _ _ _ h => h) (by rfl) ?_ (by assumption) ?_
        · intro w hSw
          skip
          go_simp
        simp only [Act.put, List.setIfInBounds_toArray, List.set_cons_zero, List.set_cons_succ]
        refine take_do (i := 12) (v := (frV X)) rfl (by kernel_rfl) (by kernel_rfl) (by kernel_rfl) (fun _ _ _ h => h) (by rfl) ?_ (by assumption) ?_
        · intro w hSw
          obtain ⟨q0, ⟨q1, q2⟩, q3, q4, q5⟩ := HCX.out
          have j0 := hSw.cell q1 HNE.out.2.1
          have j1 := hSw.cell q2 HNE.out.2.1
          go_simp
        simp only [Act.put, List.setIfInBounds_toArray, List.set_cons_zero, List.set_cons_succ]
        refine take_call (i := 13) rfl (by kernel_rfl) (fun K2 hK => ?_)
        go_simp
        refine (nimplDiv T X _ HRT.out HRX.out (HG.out.below hHeld.bel)).mono ?_
        rintro e Z1 ⟨rfl, hb⟩
        replace I2 := Lib.hid (I2.out.below hb)
        go_wp2_with fail
        refine hK.out _ _ (hHeld.below hb) (fun hHeld2 => ?_)
        clear hK hHeld hb
        have hHeld := hHeld2
        clear hHeld2
        try simp only [Act.put, List.setIfInBounds_toArray, List.set_cons_zero, List.set_cons_succ]
        by_cases hc : Fq.code (Fq.div T X) = 0
        case neg =>
          have HNO : Hid (¬ El.HdOk m U m) := fun h => hc (by
            have := (h t (by omega)).2
            rw [HKS.out, ← HXE.out, ← HTE.out] at this
            exact this)
          refine take_call (i := 14) rfl (by kernel_rfl) (fun K2 hK => ?_)
          go_simp
          refine (sureQ_bad (Fq.div T X) hc (Fq.div_fit HRT.out HRX.out HX0.out).1 _).mono ?_
          rintro e Zt ⟨⟨s9, rfl⟩, hb⟩
          go_wp2_with fail
          exact ⟨rfl, HFE.out _ _ (Or.inr ⟨HNO.out, s9, rfl⟩), S2.out.fg.trans (hHeld.below hb)⟩
        refine take_call (i := 14) rfl (by kernel_rfl) (fun K2 hK => ?_)
        go_simp
        refine (sureQ_ok (Fq.div T X) hc _).mono ?_
        rintro e Z2 ⟨rfl, hb⟩
        replace I2 := Lib.hid (I2.out.below hb)
        go_wp2_with fail
        refine hK.out _ _ (hHeld.below hb) (fun hHeld2 => ?_)
        clear hK hHeld hb
        have hHeld := hHeld2
        clear hHeld2
        try simp only [Act.put, List.setIfInBounds_toArray, List.set_cons_zero, List.set_cons_succ]
        obtain ⟨y, hy⟩ : ∃ y, y = Fq.val (Fq.div T X) := ⟨_, rfl⟩
        rw [← hy]
        refine take_do (i := 15) (v := (.pointer (some ⟨gh, v * 2, none⟩))) rfl (by kernel_rfl) (by kernel_rfl) (by kernel_rfl) (fun _ _ _ h => h) (by rfl) ?_ (by assumption) ?_
        · intro w hSw
          skip
          go_simp
        simp only [Act.put, List.setIfInBounds_toArray, List.set_cons_zero, List.set_cons_succ]
        have d0 := I2.out.cell (i := v * 2) (by omega)
        have d1 := I2.out.cell (i := v * 2 + 1) (by omega)
        have z0 := I2.out.frozen (v * 2)
        have z1 := I2.out.frozen (v * 2 + 1)
        have l0 := I2.out.lt
        obtain ⟨Q, hQ⟩ : ∃ Q, Q = (Z2.setCell ⟨gh, v * 2, none⟩ (.int .i64 y.1)).setCell ⟨gh, v * 2 + 1, none⟩ (.int .i64 y.2) := ⟨_, rfl⟩
        have I3 : Hid (IsBlk 35 gh (NN * 2) (Nt.cells2 (Nt.hv n (t + 1))) Q) := by
          show IsBlk _ _ _ _ _
          have e : Nt.hv n (t + 1) = Nt.updF (Nt.hv n t) v y := by
            rw [HHN.out t (by omega), HKS.out, ← HVE.out]
            congr 1
            show El.updF _ (m - 1 - t) _ k = _
            unfold El.updF
            rw [if_pos HKS.out.symm, HKS.out, hy, HTE.out, HXE.out]
          rw [e, hQ]
          exact I2.out.set2 v y
        have HF2 : Hid (Fg gh b V2 Q) := by show Fg _ _ _ _; rw [hQ]; exact hHeld.put HGB.out _ _ _ _
        have S3 : Hid (FhS gr gc gh (some ⟨xf, 0, none⟩) n b w Q) := ⟨S2.out.fg.trans HF2.out, HF2.out.row S2.out.rr HNE.out.1, HF2.out.blk S2.out.mx HNE.out.2.1, HF2.out.at_ S2.out.fr HNE.out.2.2⟩
        have HB2 : Hid (El.HdOk m U (t + 1)) := fun j hj => by
          by_cases e : j = t
          · subst e
            rw [HKS.out]
            exact ⟨HBO.out, by rw [← HXE.out, ← HTE.out]; exact hc⟩
          · exact HOK.out j (by omega)
        have HQE := Lib.hid hQ
        clear hQ hy hc
        refine take_call (i := 16) rfl (by kernel_rfl) (fun K2 hK => ?_)
        go_simp
        rw [← HQE.out]
        clear d0 d1 z0 z1 l0 HQE I2
        refine hK.out _ _ HF2.out (fun hHeld2 => ?_)
        clear hK hHeld hHeld2
        refine wpAnyH_done (by kernel_rfl) ?_ _
        go_wp2_with fail
        go_roundw
        case rel => exact ⟨t + 1, by omega, by go_num, S3, I3, HB2⟩
        case measure => simp [intOf]
      case pos =>
        obtain ⟨c, hcE⟩ : ∃ c, c = k + 1 + t := ⟨_, rfl⟩
        rw [← hcE]
        have hcm : c < m := by omega
        have hcz : (c : Int) < (m : Int) := by omega
        have hc1 : (c : Int) < (m : Int) + 1 := by omega
        have hc2 : ¬ (m : Int) + 1 ≤ (c : Int) := by omega
        go_upto_region 7 with fail
        obtain ⟨X, hX⟩ : ∃ X, X = U k c := ⟨_, rfl⟩
        obtain ⟨Y, hY⟩ : ∃ Y, Y = El.hd m U s c := ⟨_, rfl⟩
        obtain ⟨T, hT⟩ : ∃ T, T = El.bs m U (El.hd m U s) k t := ⟨_, rfl⟩
        obtain ⟨v, hv⟩ : ∃ v, v = Nt.nd n c := ⟨_, rfl⟩
        have HRX : Hid (Fq.R X) := by show Fq.R _; rw [hX]; exact HR.out k c hkm (by omega)
        have HRY : Hid (Fq.R Y) := by show Fq.R _; rw [hY]; exact HHR.out c (by omega) hcm
        have HRT : Hid (Fq.R T) := by show Fq.R _; rw [hT]; exact El.bs_right HR.out hkm HHR.out t (by omega) HBO.out
        have hvn : v < NN := by rw [hv]; exact HND.out c hcm
        have hvz : (v : Int) < (NN : Int) := by omega
        rw [← hT] at R1
        have HCX : Hid (V2.cell? ⟨gr, k, none⟩ = some (.slice (some ⟨gc, k * (m + 1) * 2, none⟩) (m + 1) (m + 1)) ∧ (V2.cell? ⟨gc, k * (m + 1) * 2 + c * 2, none⟩ = some (.int .i64 X.1) ∧ V2.cell? ⟨gc, k * (m + 1) * 2 + c * 2 + 1, none⟩ = some (.int .i64 X.2)) ∧ V2.cell? ⟨xf, c, none⟩ = some (.int .i64 (v : Int)) ∧ V2.cell? ⟨gh, v * 2, none⟩ = some (.int .i64 Y.1) ∧ V2.cell? ⟨gh, v * 2 + 1, none⟩ = some (.int .i64 Y.2)) := by
          obtain ⟨t1, t2, t3⟩ := HTAKE.out S2.out
          have hh := HHV.out s hs c (by omega) hcm
          have c4 := I2.out.cell (i := v * 2) (by omega)
          have c5 := I2.out.cell (i := v * 2 + 1) (by omega)
          rw [Nt.cells2_0, hv, hh, ← hY, ← hv] at c4
          rw [Nt.cells2_1, hv, hh, ← hY, ← hv] at c5
          refine ⟨t1.cell (i := k) hkm, by rw [hX]; exact um_cells t2 hkm (by omega), ?_, c4, c5⟩
          obtain ⟨y, ey, cy⟩ := t3.at1 hcm
          cases ey
          rw [hv]
          exact cy
        obtain ⟨P, hP⟩ : ∃ P, P = k * (m + 1) * 2 := ⟨_, rfl⟩
        rw [← hP] at HCX
        have HXE := Lib.hid hX
        have HYE := Lib.hid hY
        have HTE := Lib.hid hT
        have HCE := Lib.hid hcE
        clear hX hY hT hv hP hcE
        refine wp_region_held_drew (S := fun V => Fg gs b V2 V) (by kernel_rfl) (Fg.below ⟨S2.out.fg.bel, Nat.le_refl _, fun _ _ _ => rfl⟩ (Below.refl _ _).drew) (fun hHeld => ?_)
        obtain ⟨Z, hZ⟩ : ∃ Z, Z = V2.drew := ⟨_, rfl⟩
        replace R1 : Hid (Z.rowIs gs 35 2 (rowN [.int .i64 T.1, .int .i64 T.2])) := by rw [hZ]; exact nrow_below R1.out (Below.refl _ _).drew
        rw [← hZ] at hHeld ⊢
        clear hZ
        refine take_do (i := 1) (v := (.slice (some ⟨gr, 0, none⟩) m cp)) rfl (by kernel_rfl) (by kernel_rfl) (by kernel_rfl) (fun _ _ _ h => h) (by rfl) ?_ (by assumption) ?_
        · intro w hSw
          skip
          go_simp
        simp only [Act.put, List.setIfInBounds_toArray, List.set_cons_zero, List.set_cons_succ]
        refine take_do (i := 2) (v := (.int .i64 k)) rfl (by kernel_rfl) (by kernel_rfl) (by kernel_rfl) (fun _ _ _ h => h) (by rfl) ?_ (by assumption) ?_
        · intro w hSw
          skip
          go_simp
        simp only [Act.put, List.setIfInBounds_toArray, List.set_cons_zero, List.set_cons_succ]
        refine take_do (i := 3) (v := (.pointer (some ⟨gr, k, none⟩))) rfl (by kernel_rfl) (by kernel_rfl) (by kernel_rfl) (fun _ _ _ h => h) (by rfl) ?_ (by assumption) ?_
        · intro w hSw
          skip
          go_simp
        simp only [Act.put, List.setIfInBounds_toArray, List.set_cons_zero, List.set_cons_succ]
        refine take_do (i := 4) (v := (.slice (some ⟨gc, P, none⟩) (m + 1) (m + 1))) rfl (by kernel_rfl) (by kernel_rfl) (by kernel_rfl) (fun _ _ _ h => h) (by rfl) ?_ (by assumption) ?_
        · intro w hSw
          obtain ⟨q0, ⟨q1, q2⟩, q3, q4, q5⟩ := HCX.out
          have j0 := hSw.cell q0 (fun e => HGS.out.2.2.1 e.symm)
          go_simp
        simp only [Act.put, List.setIfInBounds_toArray, List.set_cons_zero, List.set_cons_succ]
        refine take_do (i := 5) (v := (.int .i64 c)) rfl (by kernel_rfl) (by kernel_rfl) (by kernel_rfl) (fun _ _ _ h => h) (by rfl) ?_ (by assumption) ?_
        · intro w hSw
          skip
          go_simp
        simp only [Act.put, List.setIfInBounds_toArray, List.set_cons_zero, List.set_cons_succ]
        refine take_do (i := 6) (v := (.pointer (some ⟨gc, P + c * 2, none⟩))) rfl (by kernel_rfl) (by kernel_rfl) (by kernel_rfl) (fun _ _ _ h => h) (by rfl) ?_ (by assumption) ?_
        · intro w hSw
          skip
          go_simp
        simp only [Act.put, List.setIfInBounds_toArray, List.set_cons_zero, List.set_cons_succ]
        refine take_do (i := 7) (v := (frV X)) rfl (by kernel_rfl) (by kernel_rfl) (by kernel_rfl) (fun _ _ _ h => h) (by rfl) ?_ (by assumption) ?_
        · intro w hSw
          obtain ⟨q0, ⟨q1, q2⟩, q3, q4, q5⟩ := HCX.out
          have j0 := hSw.cell q1 (fun e => HGS.out.2.2.2.1 e.symm)
          have j1 := hSw.cell q2 (fun e => HGS.out.2.2.2.1 e.symm)
          go_simp
        simp only [Act.put, List.setIfInBounds_toArray, List.set_cons_zero, List.set_cons_succ]
        refine take_do (i := 8) (v := (.slice (some ⟨gh, 0, none⟩) NN hkk)) rfl (by kernel_rfl) (by kernel_rfl) (by kernel_rfl) (fun _ _ _ h => h) (by rfl) ?_ (by assumption) ?_
        · intro w hSw
          skip
          go_simp
        simp only [Act.put, List.setIfInBounds_toArray, List.set_cons_zero, List.set_cons_succ]
        refine take_do (i := 9) (v := (.slice (some ⟨xf, 0, none⟩) m fc)) rfl (by kernel_rfl) (by kernel_rfl) (by kernel_rfl) (fun _ _ _ h => h) (by rfl) ?_ (by assumption) ?_
        · intro w hSw
          skip
          go_simp
        simp only [Act.put, List.setIfInBounds_toArray, List.set_cons_zero, List.set_cons_succ]
        refine take_do (i := 10) (v := (.int .i64 c)) rfl (by kernel_rfl) (by kernel_rfl) (by kernel_rfl) (fun _ _ _ h => h) (by rfl) ?_ (by assumption) ?_
        · intro w hSw
          skip
          go_simp
        simp only [Act.put, List.setIfInBounds_toArray, List.set_cons_zero, List.set_cons_succ]
        refine take_do (i := 11) (v := (.pointer (some ⟨xf, c, none⟩))) rfl (by kernel_rfl) (by kernel_rfl) (by kernel_rfl) (fun _ _ _ h => h) (by rfl) ?_ (by assumption) ?_
        · intro w hSw
          skip
          go_simp
        simp only [Act.put, List.setIfInBounds_toArray, List.set_cons_zero, List.set_cons_succ]
        refine take_do (i := 12) (v := (.int .i64 v)) rfl (by kernel_rfl) (by kernel_rfl) (by kernel_rfl) (fun _ _ _ h => h) (by rfl) ?_ (by assumption) ?_
        · intro w hSw
          obtain ⟨q0, ⟨q1, q2⟩, q3, q4, q5⟩ := HCX.out
          have j0 := hSw.cell q3 (fun e => HGF.out e.symm)
          go_simp
        simp only [Act.put, List.setIfInBounds_toArray, List.set_cons_zero, List.set_cons_succ]
        refine take_do (i := 13) (v := (.pointer (some ⟨gh, v * 2, none⟩))) rfl (by kernel_rfl) (by kernel_rfl) (by kernel_rfl) (fun _ _ _ h => h) (by rfl) ?_ (by assumption) ?_
        · intro w hSw
          skip
          go_simp
        simp only [Act.put, List.setIfInBounds_toArray, List.set_cons_zero, List.set_cons_succ]
        refine take_do (i := 14) (v := (frV Y)) rfl (by kernel_rfl) (by kernel_rfl) (by kernel_rfl) (fun _ _ _ h => h) (by rfl) ?_ (by assumption) ?_
        · intro w hSw
          obtain ⟨q0, ⟨q1, q2⟩, q3, q4, q5⟩ := HCX.out
          have j0 := hSw.cell q4 (fun e => HGS.out.2.1 e.symm)
          have j1 := hSw.cell q5 (fun e => HGS.out.2.1 e.symm)
          go_simp
        simp only [Act.put, List.setIfInBounds_toArray, List.set_cons_zero, List.set_cons_succ]
        obtain ⟨⟨d0, d1⟩, _⟩ := rowN2 R1.out
        refine take_call (i := 0) rfl (by kernel_rfl) (fun K2 hK => ?_)
        go_simp
        refine hK.out _ _ hHeld (fun hHeld2 => ?_)
        clear hK hHeld d0 d1
        have hHeld := hHeld2
        clear hHeld2
        try simp only [Act.put, List.setIfInBounds_toArray, List.set_cons_zero, List.set_cons_succ]
        by_cases hlb : LbOk T X Y
        case neg =>
          have HNO : Hid (¬ El.HdOk m U m) := fun h => hlb (by
            have := (h s (by omega)).1 t (by rw [HKS.out] at *; omega)
            rw [HKS.out, ← HCE.out, ← HXE.out, ← HYE.out, ← HTE.out] at this
            exact this)
          refine take_call (i := 15) rfl (by kernel_rfl) (fun K2 hK => ?_)
          go_simp
          refine (lessBy_any T X Y _ HRT.out HRX.out HRY.out (HG.out.below hHeld.bel)).mono ?_
          rintro e Zt ⟨hE, hb⟩
          rcases hE with ⟨x, _⟩ | ⟨_, s9, rfl⟩
          · exact absurd x hlb
          go_wp2_with fail
          exact ⟨rfl, HFE.out _ _ (Or.inr ⟨HNO.out, s9, rfl⟩), (S2.out.side (hHeld.below hb) HGS.out.1 HGS.out.2.2.1 HGS.out.2.2.2.1 (fun x e => by cases e; exact HGF.out)).fg⟩
        refine take_call (i := 15) rfl (by kernel_rfl) (fun K2 hK => ?_)
        go_simp
        refine (lessBy_any T X Y _ HRT.out HRX.out HRY.out (HG.out.below hHeld.bel)).mono ?_
        rintro e Z1 ⟨hE, hb⟩
        rcases hE with ⟨_, rfl⟩ | ⟨x, _⟩
        rotate_left
        · exact absurd hlb x
        replace R1 := Lib.hid (nrow_below R1.out hb)
        go_wp2_with fail
        refine hK.out _ _ (hHeld.below hb) (fun hHeld2 => ?_)
        clear hK hHeld hb
        have hHeld := hHeld2
        clear hHeld2
        try simp only [Act.put, List.setIfInBounds_toArray, List.set_cons_zero, List.set_cons_succ]
        obtain ⟨y, hy⟩ : ∃ y, y = lbV T X Y := ⟨_, rfl⟩
        rw [← hy]
        obtain ⟨⟨d0, d1⟩, z0, z1⟩ := rowN2 R1.out
        have l0 := R1.out.lt
        obtain ⟨Q, hQ⟩ : ∃ Q, Q = (Z1.setCell ⟨gs, 0, none⟩ (.int .i64 y.1)).setCell ⟨gs, 1, none⟩ (.int .i64 y.2) := ⟨_, rfl⟩
        have R2 : Hid (Q.rowIs gs 35 2 (rowN [.int .i64 (El.bs m U (El.hd m U s) k (t + 1)).1, .int .i64 (El.bs m U (El.hd m U s) k (t + 1)).2])) := by
          show World.rowIs _ _ _ _ _
          have e : El.bs m U (El.hd m U s) k (t + 1) = y := by rw [hy, HXE.out, HYE.out, HTE.out, HCE.out]; rfl
          rw [e, hQ]
          exact rowN_put (rowN_put R1.out 0 _ (by simp)) 1 _ (by simp)
        have HF2 : Hid (Fg gs b V2 Q) := by show Fg _ _ _ _; rw [hQ]; exact hHeld.put (Nat.le_trans HBW.out HGS.out.1) _ _ _ _
        have HB2 : Hid (El.BsOk m U (El.hd m U s) k (t + 1)) := fun j hj => by
          by_cases e : j = t
          · subst e
            rw [← HCE.out, ← HXE.out, ← HYE.out, ← HTE.out]
            exact hlb
          · exact HBO.out j (by omega)
        have HQE := Lib.hid hQ
        clear hQ hy hlb
        refine take_call (i := 16) rfl (by kernel_rfl) (fun K2 hK => ?_)
        go_simp
        rw [← HQE.out]
        clear d0 d1 z0 z1 l0 HQE R1
        refine hK.out _ _ HF2.out (fun hHeld2 => ?_)
        clear hK hHeld hHeld2
        refine wpAnyH_done (by kernel_rfl) ?_ _
        have HF3 : Hid (Fg gs b V1 Q) := HF1.out.trans HF2.out
        have hc9 : c + 1 = k + 1 + (t + 1) := by have := HCE.out; omega
        have HC9 := Lib.hid hc9
        clear hc9
        go_wp2_with fail
        go_roundw
        case rel => exact ⟨t + 1, by omega, by rw [← HC9.out]; go_num, HF3, R2, HB2⟩
        case measure => simp [intOf]; omega
end Go.Proofs.YtkaokfmaecdkiaaGreatDoor
namespace Go.Proofs.YtkaokfmaecdkiaaGreatDoor
open Go Go.RowKit Go.Deep

theorem sinfo_Frac : (Tryz.prog.info? 35).map (fun i => (i.zero, i.size, i.bytes)) = some (some (.agg #[.int .i64 0, .int .i64 0]), 2, 16) := by kernel_rfl
theorem smk_Frac (n : Nat) (hn : n ≤ 1048576) (w : World) : (Instr.makeSlice 29 (.int .i64 (n : Int)) (.int .i64 (n : Int))).run Tryz.prog w = .ok (.slice (some ⟨w.heap.size, 0, none⟩) n n) (w.alloc (.cells (madeCells #[.int .i64 0, .int .i64 0] (n * 2)) 35)) := by
  obtain ⟨i0, hi, hz0, hz1, hz2⟩ := info_parts sinfo_Frac
  have := run_make (P := Tryz.prog) w 29 35 i0 _ Tryz.underlying29 hi hz0 .i64 .i64 n n (by omega) (Int.le_refl _) (by rw [hz2]; omega) (by omega)
  rw [hz1] at this
  simp only [Int.toNat_natCast] at this
  exact this
theorem nown_below {B n size : Nat} {e : TypeId} {v : Value} {xs : List Value} {W W' : World} (h : W.ownsRow B e size v n xs) (hb : Below W.heap.size W W') : W'.ownsRow B e size v n xs :=
  ⟨h.1, h.2.imp id (fun ⟨g, cap, cur, e1, e2, e3, r⟩ => ⟨g, cap, cur, e1, e2, (hb.block g (Array.getElem?_eq_some_iff.1 e3).1).trans e3, r⟩)⟩
set_option maxRecDepth 100000 in
set_option maxHeartbeats 8000000 in
theorem knownHeads_any (n : Nt.Net) (la : Option Addr) (lk : Nat) (fa : Option Addr) (fk : Nat) (wa : Option Addr) (wk : Nat) (w : World) (h : NtAt n la fa wa w) (hr : Nt.Right n) (hg : NEt w) :
    Calls Tryz.prog 63 #[ntV n la lk fa fk wa wk] w fun e w' => (∃ g, e = .returned (.slice (some ⟨g, 0, none⟩) (Nt.nn n) (Nt.nn n)) ∧ w.heap.size ≤ g ∧ IsBlk 35 g (Nt.nn n * 2) (Nt.cells2 (Nt.kh n n.fn)) w') ∧ Below w.heap.size w w' := by
  obtain ⟨W, hW⟩ : ∃ W, W = w.alloc (.cells #[.int .i64 n.nodes, .slice la n.ln lk, .slice fa n.fn fk, .slice wa n.wn wk] 27) := ⟨_, rfl⟩
  have S0 : Hid (NtS 27 n la lk fa fk wa wk w W) := by rw [hW]; exact NtS.new _ h
  obtain ⟨V, hV⟩ : ∃ V, V = W.alloc (.cells (madeCells #[.int .i64 0, .int .i64 0] (Nt.nn n * 2)) 35) := ⟨_, rfl⟩
  obtain ⟨gh, hgh⟩ : ∃ g, g = W.heap.size := ⟨_, rfl⟩
  obtain ⟨hnn, hn1, hn2⟩ := hr.nn
  have hfn := hr.fn
  have hmk := smk_Frac (Nt.nn n) (by omega)
  rw [← hnn] at hmk
  have HF0 : Hid (Fg gh w w V ∧ V.rowIs w.heap.size 27 4 (rowN (ntL n la lk fa fk wa wk))) := by
    show _ ∧ _
    rw [hV]
    exact ⟨Fg.below ⟨S0.out.old, S0.out.old.size, fun k _ hk => S0.out.old.block k hk⟩ (nbel_alloc _ _), nrow_below S0.out.row (nbel_alloc _ _)⟩
  have HI0 : Hid (IsBlk 35 gh (Nt.nn n * 2) (Nt.cells2 (Nt.kh n 0)) V) := by
    show IsBlk _ _ _ _ _
    rw [hV, hgh]
    refine ⟨_, _, Nat.le_refl _, made_is _ _ W _ (by intro i hi; simp at hi; have : i = 0 ∨ i = 1 := (by omega); rcases this with rfl | rfl <;> rfl) (by simp), fun j _ => ?_⟩
    show _ = Value.int .i64 (Nt.cells2 (fun _ => (0, 0)) j)
    unfold Nt.cells2
    split <;> rfl
  have HGH : Hid (w.heap.size < gh) := by show _ < _; rw [hgh]; exact S0.out.row.lt
  have HA := Lib.hid h
  have HR := Lib.hid hr
  have HG := Lib.hid hg
  have HW := Lib.hid hW
  have HV := Lib.hid hV
  have HGE := Lib.hid hgh
  have HNN := Lib.hid hnn
  obtain ⟨⟨r0, r1, r2, r3⟩, _⟩ := rowN4 S0.out.row
  obtain ⟨⟨p0, p1, p2, p3⟩, _⟩ := rowN4 HF0.out.2
  clear h hr hg hW hV hgh hnn
  go_enter Tryz.func63, Tryz.ntmps63
  go_upto_region 1 with fail
  rw [← HW.out]
  go_upto_region 2 with fail
  rw [← HV.out, ← HGE.out]
  clear HW HV HGE r0 r1 r2 r3 hmk S0
  go_wp2_with fail
  clear p0 p1 p2 p3
  go_loopw [5, 12] (fun fv iv wr => ∃ (i : Nat), i ≤ n.fn ∧ iv = .int .i64 i ∧ Hid (Fg gh w w wr) ∧ Hid (IsBlk 35 gh (Nt.nn n * 2) (Nt.cells2 (Nt.kh n i)) wr)) (fun _ iv _ => n.fn - (intOf iv).toNat)
  case atStart => exact ⟨0, Nat.zero_le _, rfl, HF0.out.1, HI0⟩
  case round =>
    clear HF0 HI0
    obtain ⟨i, hi, rfl, HF0, HI0⟩ := hrel
    by_cases hlt : i < n.fn
    case neg =>
      obtain rfl : i = n.fn := by omega
      go_wp2_with fail
      go_ret
      exact ⟨⟨_, rfl, Nat.le_of_lt HGH.out, HI0.out⟩, HF0.out.bel⟩
    have hltz : (i : Int) < (n.fn : Int) := by omega
    obtain ⟨b, e, c0, c1⟩ := (HA.out.below HF0.out.bel).f.at2 hlt
    obtain ⟨ef, hfx⟩ := HR.out.fx hlt
    have hF := (HR.out.f i hlt).2.1
    rw [ef] at c0
    subst e
    obtain ⟨v, hv⟩ : ∃ v, v = Nt.fx n i := ⟨_, rfl⟩
    obtain ⟨x, hx⟩ : ∃ x, x = n.F (i * 2 + 1) := ⟨_, rfl⟩
    rw [← hv] at c0 hfx
    rw [← hx] at c1 hF
    have hvz : (v : Int) < (Nt.nn n : Int) := by omega
    have HVE := Lib.hid hv
    have HXE := Lib.hid hx
    have HXB := Lib.hid hF
    clear ef hv hx hF
    obtain ⟨V1, hV1⟩ : ∃ W, W = wr.alloc (.cells #[.int .i64 (v : Int), .int .i64 x] 39) := ⟨_, rfl⟩
    obtain ⟨g5, hg5⟩ : ∃ x, x = wr.heap.size := ⟨_, rfl⟩
    have HF1 : Hid (Fg gh w w V1) := by show Fg _ _ _ _; rw [hV1]; exact HF0.out.below (nbel_alloc _ _)
    have HI1 : Hid (IsBlk 35 gh (Nt.nn n * 2) (Nt.cells2 (Nt.kh n i)) V1) := by show IsBlk _ _ _ _ _; rw [hV1]; exact HI0.out.below (nbel_alloc _ _)
    have HR5 : Hid (V1.rowIs g5 39 2 (rowN [.int .i64 (v : Int), .int .i64 x])) := by show World.rowIs _ _ _ _ _; rw [hV1, hg5]; exact rowN_alloc wr _ _
    have HG5 : Hid (g5 ≠ gh) := by show _ ≠ _; have := HI0.out.lt; omega
    have HV1 := Lib.hid hV1
    have HGE5 := Lib.hid hg5
    clear hV1 hg5 HF0 HI0
    go_upto_region 5 with fail
    rw [← HV1.out, ← HGE5.out]
    clear HV1 HGE5 c0 c1
    refine wp_region_held_drew (S := fun V => Fg gh w V1 V) (by kernel_rfl) (Fg.below ⟨HF1.out.bel, Nat.le_refl _, fun _ _ _ => rfl⟩ (Below.refl _ _).drew) (fun hHeld => ?_)
    obtain ⟨Z, hZ⟩ : ∃ Z, Z = V1.drew := ⟨_, rfl⟩
    replace HI1 : Hid (IsBlk 35 gh (Nt.nn n * 2) (Nt.cells2 (Nt.kh n i)) Z) := by rw [hZ]; exact HI1.out.below (Below.refl _ _).drew
    rw [← hZ] at hHeld ⊢
    clear hZ
    refine take_do (i := 0) (v := (.slice (some ⟨gh, 0, none⟩) (Nt.nn n) (Nt.nn n))) rfl (by kernel_rfl) (by kernel_rfl) (by kernel_rfl) (fun _ _ _ h => h) (by rfl) ?_ (by assumption) ?_
    · intro w hSw
      skip
      go_simp
    simp only [Act.put, List.setIfInBounds_toArray, List.set_cons_zero, List.set_cons_succ]
    refine take_do (i := 1) (v := (.pointer (some ⟨g5, 0, none⟩))) rfl (by kernel_rfl) (by kernel_rfl) (by kernel_rfl) (fun _ _ _ h => h) (by rfl) ?_ (by assumption) ?_
    · intro w hSw
      skip
      go_simp
    simp only [Act.put, List.setIfInBounds_toArray, List.set_cons_zero, List.set_cons_succ]
    refine take_do (i := 2) (v := (.int .i64 v)) rfl (by kernel_rfl) (by kernel_rfl) (by kernel_rfl) (fun _ _ _ h => h) (by rfl) ?_ (by assumption) ?_
    · intro w hSw
      obtain ⟨⟨j0, j1⟩, _⟩ := rowN2 (hSw.row HR5.out HG5.out)
      go_simp
    simp only [Act.put, List.setIfInBounds_toArray, List.set_cons_zero, List.set_cons_succ]
    refine take_do (i := 3) (v := (.pointer (some ⟨g5, 1, none⟩))) rfl (by kernel_rfl) (by kernel_rfl) (by kernel_rfl) (fun _ _ _ h => h) (by rfl) ?_ (by assumption) ?_
    · intro w hSw
      skip
      go_simp
    simp only [Act.put, List.setIfInBounds_toArray, List.set_cons_zero, List.set_cons_succ]
    refine take_do (i := 4) (v := (.int .i64 x)) rfl (by kernel_rfl) (by kernel_rfl) (by kernel_rfl) (fun _ _ _ h => h) (by rfl) ?_ (by assumption) ?_
    · intro w hSw
      obtain ⟨⟨j0, j1⟩, _⟩ := rowN2 (hSw.row HR5.out HG5.out)
      go_simp
    simp only [Act.put, List.setIfInBounds_toArray, List.set_cons_zero, List.set_cons_succ]
    refine take_call (i := 5) rfl (by kernel_rfl) (fun K2 hK => ?_)
    go_simp
    refine (whole_any x _ (by have := HXB.out; omega) (by have := HXB.out; omega) (HG.out.below hHeld.bel)).mono ?_
    rintro e Z1 ⟨rfl, hb⟩
    replace HI1 := Lib.hid (HI1.out.below hb)
    go_wp2_with fail
    refine hK.out _ _ (hHeld.below hb) (fun hHeld2 => ?_)
    clear hK hHeld hb
    have hHeld := hHeld2
    clear hHeld2
    try simp only [Act.put, List.setIfInBounds_toArray, List.set_cons_zero, List.set_cons_succ]
    refine take_do (i := 6) (v := (.pointer (some ⟨gh, v * 2, none⟩))) rfl (by kernel_rfl) (by kernel_rfl) (by kernel_rfl) (fun _ _ _ h => h) (by rfl) ?_ (by assumption) ?_
    · intro w hSw
      skip
      go_simp
    simp only [Act.put, List.setIfInBounds_toArray, List.set_cons_zero, List.set_cons_succ]
    have d0 := HI1.out.cell (i := v * 2) (by omega)
    have d1 := HI1.out.cell (i := v * 2 + 1) (by omega)
    have z0 := HI1.out.frozen (v * 2)
    have z1 := HI1.out.frozen (v * 2 + 1)
    have l0 := HI1.out.lt
    obtain ⟨Q, hQ⟩ : ∃ Q, Q = (Z1.setCell ⟨gh, v * 2, none⟩ (.int .i64 x)).setCell ⟨gh, v * 2 + 1, none⟩ (.int .i64 1) := ⟨_, rfl⟩
    have I3 : Hid (IsBlk 35 gh (Nt.nn n * 2) (Nt.cells2 (Nt.kh n (i + 1))) Q) := by
      show IsBlk _ _ _ _ _
      rw [Nt.kh, ← HVE.out, ← HXE.out, hQ]
      exact HI1.out.set2 v (x, 1)
    have HF2 : Hid (Fg gh w V1 Q) := by show Fg _ _ _ _; rw [hQ]; exact hHeld.put (Nat.le_of_lt HGH.out) _ _ _ _
    have HF3 : Hid (Fg gh w w Q) := HF1.out.trans HF2.out
    have HQE := Lib.hid hQ
    clear hQ
    refine take_call (i := 7) rfl (by kernel_rfl) (fun K2 hK => ?_)
    go_simp
    rw [← HQE.out]
    clear d0 d1 z0 z1 l0 HQE HI1
    refine hK.out _ _ HF2.out (fun hHeld2 => ?_)
    clear hK hHeld hHeld2
    refine wpAnyH_done (by kernel_rfl) ?_ _
    go_wp2_with fail
    go_roundw
    case rel => exact ⟨i + 1, by omega, by go_num, HF3, I3⟩
    case measure => simp [intOf]; omega
theorem Nt.nd_last {n : Nt.Net} {k : Nat} (hk : Nt.fixed n k = false) : Nt.freeTo n (k + 1) = Nt.freeTo n k ++ [k] := by simp [Nt.freeTo, hk]
theorem Nt.nd_same {n : Nt.Net} {k : Nat} (hk : Nt.fixed n k = true) : Nt.freeTo n (k + 1) = Nt.freeTo n k := by simp [Nt.freeTo, hk]
theorem Nt.kh_right {n : Nt.Net} (h : Nt.Right n) (v : Nat) : M.rightB (Nt.kh n n.fn v).1 (Nt.kh n n.fn v).2 = Nt.fixed n v := by
  rcases Nt.kh_bd h n.fn (Nat.le_refl _) v with ⟨a, b⟩ | ⟨a, b⟩
  · rw [a]; show _ = Nt.startH n n.fn v; rw [b]; decide
  · rw [show M.rightB _ _ = true from a]; exact b.symm
set_option maxRecDepth 100000 in
set_option maxHeartbeats 8000000 in
theorem unknownNodes_any (n : Nt.Net) (gh hk : Nat) (w : World) (h : IsBlk 35 gh (Nt.nn n * 2) (Nt.cells2 (Nt.kh n n.fn)) w) (hr : Nt.Right n) :
    Calls Tryz.prog 64 #[.slice (some ⟨gh, 0, none⟩) (Nt.nn n) hk] w fun e w' => (∃ a c, e = .returned (.slice a (Nt.mm n) c) ∧ IsAt a (Nt.mm n) (fun r => (Nt.nd n r : Int)) w' ∧ ∀ k, a = some ⟨k, 0, none⟩ → w.heap.size ≤ k) ∧ Below w.heap.size w w' := by
  obtain ⟨i1, hi1, hy0, hy1, hy2⟩ := info_parts ninfo_int
  have H := Lib.hid h
  have HR := Lib.hid hr
  obtain ⟨_, hn1, hn2⟩ := hr.nn
  clear h hr
  go_enter Tryz.func64, Tryz.ntmps64
  go_wp2_with fail
  go_loopw [3, 4, 5, 8] (fun sv kv pv iv wr => ∃ (i : Nat), i ≤ Nt.nn n ∧ iv = .int .i64 i ∧ Hid (wr.ownsRow w.heap.size 2 1 sv (Nt.freeTo n i).length (isVs ((Nt.freeTo n i).map Int.ofNat))) ∧ Hid (Below w.heap.size w wr)) (fun _ _ _ iv _ => Nt.nn n - (intOf iv).toNat)
  case atStart => exact ⟨0, Nat.zero_le _, rfl, Lib.hid (World.ownsRow_nil _ _ _ _), Below.refl _ _⟩
  case round =>
    obtain ⟨i, hi, rfl, HO, HB⟩ := hrel
    obtain ⟨av, cv, rfl⟩ := nown_shape HO.out
    by_cases hlt : i < Nt.nn n
    case neg =>
      obtain rfl : i = Nt.nn n := by omega
      have HAT : Hid (IsAt av (Nt.mm n) (fun r => (Nt.nd n r : Int)) wr ∧ ∀ k, av = some ⟨k, 0, none⟩ → w.heap.size ≤ k) := by
        rcases HO.out.2 with ⟨e1, e2⟩ | ⟨g, cap, cur, e1, h2, _⟩
        · injection e1 with a1 a2 a3
          subst a1
          exact ⟨Or.inl (by unfold Nt.mm Nt.free; exact a2), fun k e => (by cases e)⟩
        · injection e1 with a1 a2 a3
          subst a1
          refine ⟨Or.inr ⟨g, rfl, fun j hj => ?_⟩, fun k e => (by cases e; exact h2)⟩
          have := HO.out.cells (show Value.ownBlock (.slice (some ⟨g, 0, none⟩) (Nt.freeTo n (Nt.nn n)).length cv) = some g from rfl) j (.int .i64 (Nt.nd n j : Int)) (by
            unfold Nt.mm Nt.free at hj
            unfold isVs Nt.nd Nt.free
            simp [hj])
          rw [Addr.add_lit, Nat.zero_add] at this
          exact this
      go_wp2_with fail
      go_ret
      exact ⟨⟨_, _, rfl, HAT.out.1, HAT.out.2⟩, HB.out⟩
    have hltz : (i : Int) < (Nt.nn n : Int) := by omega
    have hlen := Nt.freeTo_len n i
    have I1 := Lib.hid (H.out.below HB.out)
    have c0 := I1.out.cell (i := i * 2) (by omega)
    have c1 := I1.out.cell (i := i * 2 + 1) (by omega)
    rw [Nt.cells2_0] at c0
    rw [Nt.cells2_1] at c1
    have hkr := Nt.kh_right HR.out i
    obtain ⟨x, hx⟩ : ∃ x, x = Nt.kh n n.fn i := ⟨_, rfl⟩
    have HXB : Hid ((-9223372036854775808 ≤ x.1 ∧ x.1 ≤ 9223372036854775807) ∧ (-9223372036854775808 ≤ x.2 ∧ x.2 ≤ 9223372036854775807)) := by
      show _ ∧ _
      rcases Nt.kh_bd HR.out n.fn (Nat.le_refl _) i with ⟨e, _⟩ | ⟨e, _⟩
      · rw [hx, e]; exact ⟨⟨by decide, by decide⟩, by decide, by decide⟩
      · rw [hx]; exact right_lims e
    rw [← hx] at c0 c1 hkr
    have HKR := Lib.hid hkr
    clear hx hkr
    obtain ⟨V1, hV1⟩ : ∃ W, W = wr.alloc (.cells #[.int .i64 x.1, .int .i64 x.2] 35) := ⟨_, rfl⟩
    obtain ⟨g5, hg5⟩ : ∃ x, x = wr.heap.size := ⟨_, rfl⟩
    have HO1 : Hid (V1.ownsRow w.heap.size 2 1 (.slice av (Nt.freeTo n i).length cv) (Nt.freeTo n i).length (isVs ((Nt.freeTo n i).map Int.ofNat))) := by show World.ownsRow _ _ _ _ _ _ _; rw [hV1]; exact HO.out.alloc _
    have HB1 : Hid (Below w.heap.size w V1) := by show Below _ _ _; rw [hV1]; exact HB.out.alloc HB.out.size _
    have HR5 : Hid (V1.rowIs g5 35 2 (rowN [.int .i64 x.1, .int .i64 x.2])) := by show World.rowIs _ _ _ _ _; rw [hV1, hg5]; exact rowN_alloc wr _ _
    have HV1 := Lib.hid hV1
    have HGE := Lib.hid hg5
    clear hV1 hg5 HO HB I1
    go_upto_region 5 with fail
    rw [← HV1.out, ← HGE.out]
    clear HV1 HGE c0 c1
    obtain ⟨⟨d0, d1⟩, _⟩ := rowN2 HR5.out
    go_wp2_with fail
    refine (implRight_any x.1 x.2 _ HXB.out.1.1 HXB.out.1.2 HXB.out.2.1 HXB.out.2.2).mono ?_
    rintro e V2 ⟨rfl, hb⟩
    rw [HKR.out]
    have HO2 : Hid (V2.ownsRow w.heap.size 2 1 (.slice av (Nt.freeTo n i).length cv) (Nt.freeTo n i).length (isVs ((Nt.freeTo n i).map Int.ofNat))) := nown_below HO1.out hb
    have HB2 : Hid (Below w.heap.size w V2) := HB1.out.trans (hb.mono HB1.out.size)
    clear hb HO1 HB1 d0 d1 HR5
    cases hf : Nt.fixed n i with
    | true =>
      have HA := Lib.hid (Nt.nd_same hf)
      clear hf
      go_wp2_with fail
      go_roundw
      case rel => exact ⟨i + 1, by omega, by go_num, Lib.hid (by rw [HA.out]; exact HO2.out), HB2⟩
      case measure => simp [intOf]; omega
    | false =>
      have HA := Lib.hid (Nt.nd_last hf)
      clear hf
      have hsz := HB2.out.size
      go_wp2_with (at_builtin; refine wpList_append_own _ rfl _ _ 25 rfl w.heap.size 2 i1 (.int .i64 0) 1 8 Tryz.underlying25 hi1 hy0 hy1 hy2 rfl (by decide) _ _ _ rfl (HO2.out.alloc _) ⟨V2.heap.size, 0, none⟩ 1 1 [.int .i64 (i : Int)] rfl rfl ?a1 ?a2 ?a3 ?a4 ?a5 ?_)
      try (case a1 => (intro j u hj; match j, hj with
        | 0, hj => (simp at hj; subst hj; simp [Addr.add])))
      try (case a2 => first | rfl | (intro u hu; simp at hu; subst hu; rfl))
      try (case a3 => (unfold maxLen; omega))
      try (case a4 => omega)
      try (case a5 => first | omega | (simp; omega))
      intro v' W3 hown hgrow hnil
      have HO3 : Hid (W3.ownsRow w.heap.size 2 1 v' (Nt.freeTo n (i + 1)).length (isVs ((Nt.freeTo n (i + 1)).map Int.ofNat))) := by
        show World.ownsRow _ _ _ _ _ _ _
        have e9 : isVs ((Nt.freeTo n i ++ [i]).map Int.ofNat) = isVs ((Nt.freeTo n i).map Int.ofNat) ++ [.int .i64 (i : Int)] := by simp [isVs]
        rw [HA.out, e9, List.length_append]
        exact hown
      have HB3 : Hid (Below w.heap.size w W3) := (HB2.out.alloc hsz _).grown hgrow (by simp; omega) (fun k hk => (HO2.out.lt k hk).1)
      clear hown hgrow hnil HO2 HB2 HA
      go_wp2_with fail
      go_roundw
      case rel => exact ⟨i + 1, by omega, by go_num, HO3, HB3⟩
      case measure => simp [intOf]; omega
end Go.Proofs.YtkaokfmaecdkiaaGreatDoor
namespace Go.Proofs.YtkaokfmaecdkiaaGreatDoor
open Go Go.RowKit Go.Deep

namespace Nt
theorem add_whole (s x : Int) : Fq.add (s, 1) (x, 1) = (s + x, 1) := by unfold Fq.add; simp
theorem code_whole {z : Int} (hb : -9000000000 ≤ z ∧ z ≤ 9000000000) : Fq.code (z, 1) = 0 ↔ Fits z := by
  constructor
  · intro h
    have hn : M.lowN z 1 = z := by unfold M.lowN; rw [if_neg (by omega), show Int.gcd z 1 = 1 by simp]; simp
    unfold Fq.code M.codeF at h
    simp only at h
    rw [if_neg (by omega), if_neg (by omega), hn] at h
    unfold Fits
    by_cases e : 2147483647 < (z.natAbs : Int) ∨ 2147483647 < M.lowD z 1
    · rw [if_pos e] at h; omega
    · omega
  · intro h; exact (Fq.whole_ok h.1 h.2).1
theorem val_whole {z : Int} (h : Fits z) : Fq.val (z, 1) = (z, 1) := by
  have := Fq.whole_ok h.1 h.2
  unfold Fq.val
  simp only
  rw [this.2.1, this.2.2.1]
/-- The other end of a link at a node. -/
def oth (n : Net) (v i : Nat) : Nat := if fr n i = v then tt n i else fr n i
theorem ac_no {n : Net} (h : Right n) {v i : Nat} (hi : i < n.ln) (ha : acB (n.L (i * 3)) (n.L (i * 3 + 1)) (v : Int) = false) : rhsAt n v i = 0 := by
  have h1 := (h.fr hi).1
  have h2 := (h.tt hi).1
  unfold acB at ha
  unfold rhsAt
  by_cases e1 : (v : Int) = n.L (i * 3)
  · rw [if_pos e1] at ha; cases ha
  · by_cases e2 : (v : Int) = n.L (i * 3 + 1)
    · rw [if_neg e1, if_pos e2] at ha; cases ha
    · rw [if_neg (by omega), if_neg (by omega)]
theorem ac_yes {n : Net} (h : Right n) {v i : Nat} (hi : i < n.ln) (ha : acB (n.L (i * 3)) (n.L (i * 3 + 1)) (v : Int) = true) : acN (n.L (i * 3)) (n.L (i * 3 + 1)) (v : Int) = (oth n v i : Int) ∧ oth n v i < nn n ∧ rhsAt n v i = (if fixed n (oth n v i) then n.L (i * 3 + 2) * (kh n n.fn (oth n v i)).1 else 0) := by
  have h1 := h.fr hi
  have h2 := h.tt hi
  have h3 := h.frtt hi
  unfold acB at ha
  unfold acN oth rhsAt
  by_cases e1 : (v : Int) = n.L (i * 3)
  · have e : fr n i = v := by omega
    rw [if_pos e1, if_pos e, if_pos e]
    exact ⟨h2.1, h2.2, rfl⟩
  · have e : ¬ fr n i = v := by omega
    by_cases e2 : (v : Int) = n.L (i * 3 + 1)
    · have e3 : tt n i = v := by omega
      rw [if_neg e1, if_pos e2, if_neg e, if_neg e, if_pos e3]
      exact ⟨h1.1, h1.2, rfl⟩
    · rw [if_neg e1, if_neg e2] at ha; cases ha
end Nt
/-- What is told of a row's last number. -/
def RsEnd (n : Nt.Net) (v : Nat) (e : Ending) : Prop := (Nt.RhsOk n v n.ln ∧ e = .returned (frV (Nt.rhsTo n v n.ln, 1))) ∨ (¬ Nt.RhsOk n v n.ln ∧ ∃ s, e = thrown s 5)
set_option maxRecDepth 100000 in
set_option maxHeartbeats 8000000 in
theorem rightSide_any (n : Nt.Net) (la : Option Addr) (lk : Nat) (fa : Option Addr) (fk : Nat) (wa : Option Addr) (wk : Nat) (v gh hk : Nat) (w : World) (h : NtAt n la fa wa w) (hh : IsBlk 35 gh (Nt.nn n * 2) (Nt.cells2 (Nt.kh n n.fn)) w) (hr : Nt.Right n) (hv : v < Nt.nn n) (hg : NEt w) :
    Calls Tryz.prog 87 #[ntV n la lk fa fk wa wk, .int .i64 (v : Int), .slice (some ⟨gh, 0, none⟩) (Nt.nn n) hk] w fun e w' => RsEnd n v e ∧ Below w.heap.size w w' := by
  obtain ⟨W, hW⟩ : ∃ W, W = (w.alloc (.cells #[.int .i64 n.nodes, .slice la n.ln lk, .slice fa n.fn fk, .slice wa n.wn wk] 27)).alloc (.cells #[.int .i64 0, .int .i64 0] 35) := ⟨_, rfl⟩
  have HB0 : Hid (Below w.heap.size w W) := by show Below _ _ _; rw [hW]; exact (nbel_alloc _ _).alloc (by simp) _
  have HN0 : Hid (W.rowIs w.heap.size 27 4 (rowN (ntL n la lk fa fk wa wk))) := by show World.rowIs _ _ _ _ _; rw [hW]; exact nrow_below (rowN_alloc w _ _) (nbel_alloc _ _)
  have HR0 : Hid (W.rowIs (w.heap.size + 1) 35 2 (rowN [.int .i64 0, .int .i64 0])) := by show World.rowIs _ _ _ _ _; rw [hW]; exact rowN_alloc' (by simp) _ _
  have HA := Lib.hid h
  have HH := Lib.hid hh
  have HR := Lib.hid hr
  have HG := Lib.hid hg
  have HW := Lib.hid hW
  have hln := hr.ln
  obtain ⟨hnn, hn1, hn2⟩ := hr.nn
  have hwn : v < n.wn := by have := hr.wn; omega
  obtain ⟨wb, ew, cw⟩ := (h.below HB0.out).w.at1 hwn
  have hwb := hr.w v hwn
  subst ew
  obtain ⟨x0, hx0⟩ : ∃ x, x = n.W v := ⟨_, rfl⟩
  rw [← hx0] at cw
  have hx1 : -1000000 ≤ x0 ∧ x0 ≤ 1000000 := by rw [hx0]; exact hwb
  obtain ⟨hx2, hx3⟩ := hx1
  have HX0 : Hid (-x0 = Nt.rhsTo n v 0) := by show _ = -n.W v; rw [hx0]
  have HXF : Hid (Nt.Fits (-x0)) := ⟨by omega, by omega⟩
  have hwz : (v : Int) < (n.wn : Int) := by omega
  have HVN := Lib.hid hv
  have HNN := Lib.hid hn2
  obtain ⟨⟨r0, r1, r2, r3⟩, _⟩ := rowN4 HN0.out
  clear h hh hr hg hW hnn hwb hx0 hv
  go_enter Tryz.func87, Tryz.ntmps87
  go_upto_region 1 with fail
  rw [← HW.out]
  clear HW
  go_wp2_with fail
  clear r0 r1 r2 r3 cw
  refine (whole_any (-x0) _ (by omega) (by omega) (HG.out.below HB0.out)).mono ?_
  rintro e w1 ⟨rfl, hb⟩
  obtain ⟨V1, hV1⟩ : ∃ W, W = w1.alloc (.cells #[.int .i64 (-x0), .int .i64 1] 35) := ⟨_, rfl⟩
  obtain ⟨gs, hgs⟩ : ∃ x, x = w1.heap.size := ⟨_, rfl⟩
  have hb1 : Below W.heap.size W V1 := by rw [hV1]; exact hb.trans ((nbel_alloc _ _).mono hb.size)
  have HB1 : Hid (Below w.heap.size w V1) := HB0.out.trans (hb1.mono HB0.out.size)
  have HN1 := Lib.hid (nrow_below HN0.out hb1)
  have HR1 := Lib.hid (nrow_below HR0.out hb1)
  have HS1 : Hid (V1.rowIs gs 35 2 (rowN [.int .i64 (Nt.rhsTo n v 0), .int .i64 1])) := by show World.rowIs _ _ _ _ _; rw [← HX0.out, hV1, hgs]; exact rowN_alloc w1 _ _
  have HGS : Hid (w.heap.size + 1 < gs) := by
    have h1 := HR0.out.lt
    have h2 := hb.size
    show _ < _
    omega
  have HV1 := Lib.hid hV1
  have HGE := Lib.hid hgs
  clear hb hb1 hV1 hgs HN0 HR0 HB0
  go_upto_region 2 with fail
  rw [← HV1.out, ← HGE.out]
  clear HV1 HGE
  obtain ⟨⟨r0, r1, r2, r3⟩, _⟩ := rowN4 HN1.out
  go_wp2_with fail
  clear r0 r1 r2 r3
  go_loopw [9, 10, 11, 22] (fun lv ev tv iv wr => ∃ (i : Nat), i ≤ n.ln ∧ iv = .int .i64 i ∧ Hid (Fg gs w V1 wr) ∧ Hid (wr.rowIs gs 35 2 (rowN [.int .i64 (Nt.rhsTo n v i), .int .i64 1])) ∧ Hid (Nt.RhsOk n v i)) (fun _ _ _ iv _ => n.ln - (intOf iv).toNat)
  case atStart => exact ⟨0, Nat.zero_le _, rfl, ⟨HB1.out, Nat.le_refl _, fun _ _ _ => rfl⟩, HS1, fun j hj => by
    obtain rfl : j = 0 := by omega
    rw [← HX0.out]
    exact HXF.out⟩
  case round =>
    clear HS1
    obtain ⟨i, hi, rfl, HF, HS, HO⟩ := hrel
    obtain ⟨V2, hV2⟩ : ∃ w', w' = wr := ⟨_, rfl⟩
    rw [← hV2] at HF HS ⊢
    clear hV2
    by_cases hlt : i < n.ln
    case neg =>
      obtain rfl : i = n.ln := by omega
      obtain ⟨⟨c0, c1⟩, _⟩ := rowN2 HS.out
      have HRR : Hid (V2.rowIs (w.heap.size + 1) 35 2 (rowN [.int .i64 0, .int .i64 0])) := HF.out.row HR1.out (by have := HGS.out; omega)
      obtain ⟨⟨o0, o1⟩, z0, z1⟩ := rowN2 HRR.out
      have l0 := HRR.out.lt
      obtain ⟨y, hy⟩ : ∃ y, y = Nt.rhsTo n v n.ln := ⟨_, rfl⟩
      rw [← hy] at c0
      obtain ⟨Q, hQ⟩ : ∃ Q, Q = (V2.setCell ⟨w.heap.size + 1, 0, none⟩ (.int .i64 y)).setCell ⟨w.heap.size + 1, 1, none⟩ (.int .i64 1) := ⟨_, rfl⟩
      have QR : Hid (Q.rowIs (w.heap.size + 1) 35 2 (rowN [.int .i64 y, .int .i64 1])) := by show World.rowIs _ _ _ _ _; rw [hQ]; exact rowN_put (rowN_put HRR.out 0 _ (by simp)) 1 _ (by simp)
      have QB : Hid (Below w.heap.size w Q) := by show Below _ _ _; rw [hQ]; exact (HF.out.bel.setCell (p := ⟨w.heap.size + 1, 0, none⟩) (by show _ ≤ w.heap.size + 1; omega) _).setCell (p := ⟨w.heap.size + 1, 1, none⟩) (by show _ ≤ w.heap.size + 1; omega) _
      have HQ := Lib.hid hQ
      have HYY := Lib.hid hy
      clear hQ hy
      go_wp2_with fail
      rw [← HQ.out]
      refine bodyPost_ret (v := frV (y, 1)) ?_ rfl ⟨Or.inl ⟨HO.out, by rw [HYY.out]⟩, QB.out⟩
      obtain ⟨⟨k0, k1⟩, _⟩ := rowN2 QR.out
      simp only [results, Tryz.results87]
      simp [go_sem, k0, k1]
    have hltz : (i : Int) < (n.ln : Int) := by omega
    obtain ⟨b, e, c0, c1, c2⟩ := (HA.out.below HF.out.bel).l.at3 hlt
    subst e
    obtain ⟨V3, hV3⟩ : ∃ W, W = V2.alloc (.cells #[.int .i64 (n.L (i * 3)), .int .i64 (n.L (i * 3 + 1)), .int .i64 (n.L (i * 3 + 2))] 68) := ⟨_, rfl⟩
    obtain ⟨g9, hg9⟩ : ∃ x, x = V2.heap.size := ⟨_, rfl⟩
    have HF3 : Hid (Fg gs w V1 V3) := by show Fg _ _ _ _; rw [hV3]; exact HF.out.below (nbel_alloc _ _)
    have HS3 : Hid (V3.rowIs gs 35 2 (rowN [.int .i64 (Nt.rhsTo n v i), .int .i64 1])) := by show World.rowIs _ _ _ _ _; rw [hV3]; exact nrow_below HS.out (nbel_alloc _ _)
    have HL3 : Hid (V3.rowIs g9 68 3 (rowN [.int .i64 (n.L (i * 3)), .int .i64 (n.L (i * 3 + 1)), .int .i64 (n.L (i * 3 + 2))])) := by show World.rowIs _ _ _ _ _; rw [hV3, hg9]; exact rowN_alloc V2 _ _
    have HG9 : Hid (g9 ≠ gs) := by show _ ≠ _; have := HS.out.lt; omega
    have HV3 := Lib.hid hV3
    have HE9 := Lib.hid hg9
    clear hV3 hg9 HF HS
    go_upto_region 5 with fail
    rw [← HV3.out, ← HE9.out]
    clear HV3 HE9 c0 c1 c2
    obtain ⟨⟨c0, c1, c2⟩, _⟩ := rowN3 HL3.out
    go_wp2_with fail
    refine (across_any (n.L (i * 3)) (n.L (i * 3 + 1)) (n.L (i * 3 + 2)) (v : Int) _).mono ?_
    rintro e V4 ⟨rfl, hb⟩
    have HF4 := Lib.hid (HF3.out.below hb)
    have HS4 := Lib.hid (nrow_below HS3.out hb)
    have HL4 := Lib.hid (nrow_below HL3.out hb)
    clear hb c0 c1 c2 HF3 HS3 HL3
    cases hac : Nt.acB (n.L (i * 3)) (n.L (i * 3 + 1)) (v : Int) with
    | false =>
      have HZ := Lib.hid (Nt.ac_no HR.out hlt hac)
      clear hac
      have e1 : Nt.rhsTo n v (i + 1) = Nt.rhsTo n v i := by rw [Nt.rhsTo, HZ.out]; omega
      have HE1 := Lib.hid e1
      clear e1
      go_wp2_with fail
      go_roundw
      case rel => exact ⟨i + 1, by omega, by go_num, HF4, by rw [HE1.out]; exact HS4, fun j hj => by
        by_cases e : j = i + 1
        · subst e; rw [HE1.out]; exact HO.out i (Nat.le_refl _)
        · exact HO.out j (by omega)⟩
      case measure => simp [intOf]; omega
    | true =>
    obtain ⟨a1, a2, a3⟩ := Nt.ac_yes HR.out hlt hac
    clear hac
    rw [a1]
    obtain ⟨u, hu⟩ : ∃ u, u = Nt.oth n v i := ⟨_, rfl⟩
    rw [← hu] at a2 a3 ⊢
    have huz : (u : Int) < (Nt.nn n : Int) := by omega
    have HA3 := Lib.hid a3
    have HH4 := Lib.hid (HH.out.below HF4.out.bel)
    have d0 := HH4.out.cell (i := u * 2) (by omega)
    have d1 := HH4.out.cell (i := u * 2 + 1) (by omega)
    rw [Nt.cells2_0] at d0
    rw [Nt.cells2_1] at d1
    have hkr := Nt.kh_right HR.out u
    obtain ⟨x, hx⟩ : ∃ x, x = Nt.kh n n.fn u := ⟨_, rfl⟩
    have HXB : Hid ((-9223372036854775808 ≤ x.1 ∧ x.1 ≤ 9223372036854775807) ∧ (-9223372036854775808 ≤ x.2 ∧ x.2 ≤ 9223372036854775807)) := by
      show _ ∧ _
      rcases Nt.kh_bd HR.out n.fn (Nat.le_refl _) u with ⟨e, _⟩ | ⟨e, _⟩
      · rw [hx, e]; exact ⟨⟨by decide, by decide⟩, by decide, by decide⟩
      · rw [hx]; exact right_lims e
    rw [← hx] at d0 d1 hkr
    have HXE := Lib.hid hx
    have HKR := Lib.hid hkr
    clear hx hkr a1 a3 hu
    go_wp2_with fail
    refine (implRight_any x.1 x.2 _ HXB.out.1.1 HXB.out.1.2 HXB.out.2.1 HXB.out.2.2).mono ?_
    rintro e V5 ⟨rfl, hb⟩
    rw [HKR.out]
    have HF5 := Lib.hid (HF4.out.below hb)
    have HS5 := Lib.hid (nrow_below HS4.out hb)
    have HL5 := Lib.hid (nrow_below HL4.out hb)
    clear hb d0 d1 HF4 HS4 HL4 HH4
    cases hfx : Nt.fixed n u with
    | false =>
      have e1 : Nt.rhsTo n v (i + 1) = Nt.rhsTo n v i := by rw [Nt.rhsTo, HA3.out, hfx]; simp
      have HE1 := Lib.hid e1
      clear e1 hfx
      go_wp2_with fail
      go_roundw
      case rel => exact ⟨i + 1, by omega, by go_num, HF5, by rw [HE1.out]; exact HS5, fun j hj => by
        by_cases e : j = i + 1
        · subst e; rw [HE1.out]; exact HO.out i (Nat.le_refl _)
        · exact HO.out j (by omega)⟩
      case measure => simp [intOf]; omega
    | true =>
    obtain ⟨G, hG⟩ : ∃ G, G = n.L (i * 3 + 2) := ⟨_, rfl⟩
    have hgx := Nt.give_bd HR.out hlt hfx
    rw [← hG, ← HXE.out] at hgx
    have e1 : Nt.rhsTo n v (i + 1) = Nt.rhsTo n v i + G * x.1 := by rw [Nt.rhsTo, HA3.out, hfx, hG, HXE.out]; rfl
    rw [← hG] at HL5
    obtain ⟨z, hz⟩ : ∃ z, z = G * x.1 := ⟨_, rfl⟩
    rw [← hz] at hgx e1
    obtain ⟨s, hs⟩ : ∃ s, s = Nt.rhsTo n v i := ⟨_, rfl⟩
    rw [← hs] at HS5 e1
    have HE1 := Lib.hid e1
    have hsf : Nt.Fits s := by rw [hs]; exact HO.out i (Nat.le_refl _)
    have HSF := Lib.hid hsf
    have HGX := Lib.hid hgx
    have HZE := Lib.hid hz
    have HSE := Lib.hid hs
    clear hG hgx hz hs e1 hsf hfx
    go_upto_region 7 with fail
    have HHV : Hid (V5.cell? ⟨gh, u * 2, none⟩ = some (.int .i64 x.1)) := by
      have := (HH.out.below HF5.out.bel).cell (i := u * 2) (by omega)
      rw [Nt.cells2_0, ← HXE.out] at this
      exact this
    have HGH : Hid (gh ≠ gs) := by show _ ≠ _; have := HH.out.lt; have := HGS.out; omega
    refine wp_region_held_drew (S := fun V => Fg gs w V5 V) (by kernel_rfl) (Fg.below ⟨HF5.out.bel, Nat.le_refl _, fun _ _ _ => rfl⟩ (Below.refl _ _).drew) (fun hHeld => ?_)
    obtain ⟨Z, hZ⟩ : ∃ Z, Z = V5.drew := ⟨_, rfl⟩
    replace HS5 : Hid (Z.rowIs gs 35 2 (rowN [.int .i64 s, .int .i64 1])) := by rw [hZ]; exact nrow_below HS5.out (Below.refl _ _).drew
    rw [← hZ] at hHeld ⊢
    clear hZ
    refine take_do (i := 1) (v := (.pointer (some ⟨g9, 2, none⟩))) rfl (by kernel_rfl) (by kernel_rfl) (by kernel_rfl) (fun _ _ _ h => h) (by rfl) ?_ (by assumption) ?_
    · intro w hSw
      skip
      go_simp
    simp only [Act.put, List.setIfInBounds_toArray, List.set_cons_zero, List.set_cons_succ]
    refine take_do (i := 2) (v := (.int .i64 G)) rfl (by kernel_rfl) (by kernel_rfl) (by kernel_rfl) (fun _ _ _ h => h) (by rfl) ?_ (by assumption) ?_
    · intro w hSw
      obtain ⟨⟨j0, j1, j2⟩, _⟩ := rowN3 (hSw.row HL5.out HG9.out)
      go_simp
    simp only [Act.put, List.setIfInBounds_toArray, List.set_cons_zero, List.set_cons_succ]
    refine take_do (i := 3) (v := (.slice (some ⟨gh, 0, none⟩) (Nt.nn n) hk)) rfl (by kernel_rfl) (by kernel_rfl) (by kernel_rfl) (fun _ _ _ h => h) (by rfl) ?_ (by assumption) ?_
    · intro w hSw
      skip
      go_simp
    simp only [Act.put, List.setIfInBounds_toArray, List.set_cons_zero, List.set_cons_succ]
    refine take_do (i := 4) (v := (.int .i64 u)) rfl (by kernel_rfl) (by kernel_rfl) (by kernel_rfl) (fun _ _ _ h => h) (by rfl) ?_ (by assumption) ?_
    · intro w hSw
      skip
      go_simp
    simp only [Act.put, List.setIfInBounds_toArray, List.set_cons_zero, List.set_cons_succ]
    refine take_do (i := 5) (v := (.pointer (some ⟨gh, u * 2, none⟩))) rfl (by kernel_rfl) (by kernel_rfl) (by kernel_rfl) (fun _ _ _ h => h) (by rfl) ?_ (by assumption) ?_
    · intro w hSw
      skip
      go_simp
    simp only [Act.put, List.setIfInBounds_toArray, List.set_cons_zero, List.set_cons_succ]
    refine take_do (i := 6) (v := (.pointer (some ⟨gh, u * 2, none⟩))) rfl (by kernel_rfl) (by kernel_rfl) (by kernel_rfl) (fun _ _ _ h => h) (by rfl) ?_ (by assumption) ?_
    · intro w hSw
      skip
      go_simp
    simp only [Act.put, List.setIfInBounds_toArray, List.set_cons_zero, List.set_cons_succ]
    refine take_do (i := 7) (v := (.int .i64 x.1)) rfl (by kernel_rfl) (by kernel_rfl) (by kernel_rfl) (fun _ _ _ h => h) (by rfl) ?_ (by assumption) ?_
    · intro w hSw
      have j0 := hSw.cell HHV.out HGH.out
      go_simp
    simp only [Act.put, List.setIfInBounds_toArray, List.set_cons_zero, List.set_cons_succ]
    refine take_do (i := 8) (v := (.int .i64 z)) rfl (by kernel_rfl) (by kernel_rfl) (by kernel_rfl) (fun _ _ _ h => h) (by rfl) ?_ (by assumption) ?_
    · intro w hSw
      have j0 : IntKind.i64.wrap (G * x.1) = z := by rw [← HZE.out]; have := HGX.out; simp [IntKind.wrap, IntKind.bits, IntKind.signed]; omega
      go_simp
    simp only [Act.put, List.setIfInBounds_toArray, List.set_cons_zero, List.set_cons_succ]
    refine wpAnyH_ready (rs := [0, 9]) (by kernel_rfl) (by simp) (AllReadyH.cons (at_drop (i := 0) rfl) (fun K2 hK => ?_) (AllReadyH.cons (at_drop (i := 9) rfl) (fun K2 hK => ?_) AllReadyH.nil))
    · obtain ⟨⟨d0, d1⟩, _⟩ := rowN2 HS5.out
      go_simp
      refine hK.out _ _ hHeld (fun hHeld2 => ?_)
      clear hK hHeld d0 d1
      have hHeld := hHeld2
      clear hHeld2
      try simp only [Act.put, List.setIfInBounds_toArray, List.set_cons_zero, List.set_cons_succ]
      refine take_call (i := 9) rfl (by kernel_rfl) (fun K2 hK => ?_)
      go_simp
      refine (whole_any z _ (by have := HGX.out; omega) (by have := HGX.out; omega) (HG.out.below hHeld.bel)).mono ?_
      rintro e Z1 ⟨rfl, hb⟩
      replace HS5 := Lib.hid (nrow_below HS5.out hb)
      go_wp2_with fail
      refine hK.out _ _ (hHeld.below hb) (fun hHeld2 => ?_)
      clear hK hHeld hb
      have hHeld := hHeld2
      clear hHeld2
      try simp only [Act.put, List.setIfInBounds_toArray, List.set_cons_zero, List.set_cons_succ]
      refine take_call (i := 10) rfl (by kernel_rfl) (fun K2 hK => ?_)
      go_simp
      refine (nimplAdd (s, 1) (z, 1) _ (Nt.whole_R HSF.out) (Nt.whole_R ⟨by have := HGX.out; omega, by have := HGX.out; omega⟩) (HG.out.below hHeld.bel)).mono ?_
      rintro e Z2 ⟨rfl, hb⟩
      rw [Nt.add_whole]
      replace HS5 := Lib.hid (nrow_below HS5.out hb)
      go_wp2_with fail
      refine hK.out _ _ (hHeld.below hb) (fun hHeld2 => ?_)
      clear hK hHeld hb
      have hHeld := hHeld2
      clear hHeld2
      try simp only [Act.put, List.setIfInBounds_toArray, List.set_cons_zero, List.set_cons_succ]
      have hcw := Nt.code_whole (z := s + z) (by have a1 := HSF.out; have a2 := HGX.out; unfold Nt.Fits at a1; omega)
      by_cases hft : Nt.Fits (s + z)
      case neg =>
        have HNO : Hid (¬ Nt.RhsOk n v n.ln) := fun h => hft (by have := h (i + 1) (by omega); rw [HE1.out] at this; exact this)
        refine take_call (i := 11) rfl (by kernel_rfl) (fun K2 hK => ?_)
        go_simp
        refine (sureQ_bad (s + z, 1) (fun k => hft (hcw.1 k)) (show (1 : Int) ≠ 0 by decide) _).mono ?_
        rintro e Zt ⟨⟨s9, rfl⟩, hb⟩
        go_wp2_with fail
        exact ⟨rfl, Or.inr ⟨HNO.out, s9, rfl⟩, hHeld.bel.trans (hb.mono hHeld.bel.size)⟩
      refine take_call (i := 11) rfl (by kernel_rfl) (fun K2 hK => ?_)
      go_simp
      refine (sureQ_ok (s + z, 1) (hcw.2 hft) _).mono ?_
      rintro e Z3 ⟨rfl, hb⟩
      rw [Nt.val_whole hft]
      replace HS5 := Lib.hid (nrow_below HS5.out hb)
      go_wp2_with fail
      refine hK.out _ _ (hHeld.below hb) (fun hHeld2 => ?_)
      clear hK hHeld hb
      have hHeld := hHeld2
      clear hHeld2
      try simp only [Act.put, List.setIfInBounds_toArray, List.set_cons_zero, List.set_cons_succ]
      obtain ⟨y, hy⟩ : ∃ y, y = s + z := ⟨_, rfl⟩
      rw [← hy]
      obtain ⟨⟨d0, d1⟩, z0, z1⟩ := rowN2 HS5.out
      have l0 := HS5.out.lt
      obtain ⟨Q, hQ⟩ : ∃ Q, Q = (Z3.setCell ⟨gs, 0, none⟩ (.int .i64 y)).setCell ⟨gs, 1, none⟩ (.int .i64 1) := ⟨_, rfl⟩
      have R2 : Hid (Q.rowIs gs 35 2 (rowN [.int .i64 (Nt.rhsTo n v (i + 1)), .int .i64 1])) := by
        show World.rowIs _ _ _ _ _
        rw [HE1.out, ← hy, hQ]
        exact rowN_put (rowN_put HS5.out 0 _ (by simp)) 1 _ (by simp)
      have HF6 : Hid (Fg gs w V5 Q) := by show Fg _ _ _ _; rw [hQ]; exact hHeld.put (by have := HGS.out; omega) _ _ _ _
      have HF7 : Hid (Fg gs w V1 Q) := HF5.out.trans HF6.out
      have HO2 : Hid (Nt.RhsOk n v (i + 1)) := fun j hj => by
        by_cases e : j = i + 1
        · subst e; rw [HE1.out]; exact hft
        · exact HO.out j (by omega)
      have HQE := Lib.hid hQ
      clear hQ hy hft hcw
      refine take_call (i := 12) rfl (by kernel_rfl) (fun K2 hK => ?_)
      go_simp
      rw [← HQE.out]
      clear d0 d1 z0 z1 l0 HQE HS5
      refine hK.out _ _ HF6.out (fun hHeld2 => ?_)
      clear hK hHeld hHeld2
      refine wpAnyH_done (by kernel_rfl) ?_ _
      go_wp2_with fail
      go_roundw
      case rel => exact ⟨i + 1, by omega, by go_num, HF7, R2, HO2⟩
      case measure => simp [intOf]; omega
    · go_simp
      refine (whole_any z _ (by have := HGX.out; omega) (by have := HGX.out; omega) (HG.out.below hHeld.bel)).mono ?_
      rintro e Z1 ⟨rfl, hb⟩
      replace HS5 := Lib.hid (nrow_below HS5.out hb)
      go_wp2_with fail
      refine hK.out _ _ (hHeld.below hb) (fun hHeld2 => ?_)
      clear hK hHeld hb
      have hHeld := hHeld2
      clear hHeld2
      try simp only [Act.put, List.setIfInBounds_toArray, List.set_cons_zero, List.set_cons_succ]
      refine take_call (i := 0) rfl (by kernel_rfl) (fun K2 hK => ?_)
      obtain ⟨⟨d0, d1⟩, _⟩ := rowN2 HS5.out
      go_simp
      refine hK.out _ _ hHeld (fun hHeld2 => ?_)
      clear hK hHeld d0 d1
      have hHeld := hHeld2
      clear hHeld2
      try simp only [Act.put, List.setIfInBounds_toArray, List.set_cons_zero, List.set_cons_succ]
      refine take_call (i := 10) rfl (by kernel_rfl) (fun K2 hK => ?_)
      go_simp
      refine (nimplAdd (s, 1) (z, 1) _ (Nt.whole_R HSF.out) (Nt.whole_R ⟨by have := HGX.out; omega, by have := HGX.out; omega⟩) (HG.out.below hHeld.bel)).mono ?_
      rintro e Z2 ⟨rfl, hb⟩
      rw [Nt.add_whole]
      replace HS5 := Lib.hid (nrow_below HS5.out hb)
      go_wp2_with fail
      refine hK.out _ _ (hHeld.below hb) (fun hHeld2 => ?_)
      clear hK hHeld hb
      have hHeld := hHeld2
      clear hHeld2
      try simp only [Act.put, List.setIfInBounds_toArray, List.set_cons_zero, List.set_cons_succ]
      have hcw := Nt.code_whole (z := s + z) (by have a1 := HSF.out; have a2 := HGX.out; unfold Nt.Fits at a1; omega)
      by_cases hft : Nt.Fits (s + z)
      case neg =>
        have HNO : Hid (¬ Nt.RhsOk n v n.ln) := fun h => hft (by have := h (i + 1) (by omega); rw [HE1.out] at this; exact this)
        refine take_call (i := 11) rfl (by kernel_rfl) (fun K2 hK => ?_)
        go_simp
        refine (sureQ_bad (s + z, 1) (fun k => hft (hcw.1 k)) (show (1 : Int) ≠ 0 by decide) _).mono ?_
        rintro e Zt ⟨⟨s9, rfl⟩, hb⟩
        go_wp2_with fail
        exact ⟨rfl, Or.inr ⟨HNO.out, s9, rfl⟩, hHeld.bel.trans (hb.mono hHeld.bel.size)⟩
      refine take_call (i := 11) rfl (by kernel_rfl) (fun K2 hK => ?_)
      go_simp
      refine (sureQ_ok (s + z, 1) (hcw.2 hft) _).mono ?_
      rintro e Z3 ⟨rfl, hb⟩
      rw [Nt.val_whole hft]
      replace HS5 := Lib.hid (nrow_below HS5.out hb)
      go_wp2_with fail
      refine hK.out _ _ (hHeld.below hb) (fun hHeld2 => ?_)
      clear hK hHeld hb
      have hHeld := hHeld2
      clear hHeld2
      try simp only [Act.put, List.setIfInBounds_toArray, List.set_cons_zero, List.set_cons_succ]
      obtain ⟨y, hy⟩ : ∃ y, y = s + z := ⟨_, rfl⟩
      rw [← hy]
      obtain ⟨⟨d0, d1⟩, z0, z1⟩ := rowN2 HS5.out
      have l0 := HS5.out.lt
      obtain ⟨Q, hQ⟩ : ∃ Q, Q = (Z3.setCell ⟨gs, 0, none⟩ (.int .i64 y)).setCell ⟨gs, 1, none⟩ (.int .i64 1) := ⟨_, rfl⟩
      have R2 : Hid (Q.rowIs gs 35 2 (rowN [.int .i64 (Nt.rhsTo n v (i + 1)), .int .i64 1])) := by
        show World.rowIs _ _ _ _ _
        rw [HE1.out, ← hy, hQ]
        exact rowN_put (rowN_put HS5.out 0 _ (by simp)) 1 _ (by simp)
      have HF6 : Hid (Fg gs w V5 Q) := by show Fg _ _ _ _; rw [hQ]; exact hHeld.put (by have := HGS.out; omega) _ _ _ _
      have HF7 : Hid (Fg gs w V1 Q) := HF5.out.trans HF6.out
      have HO2 : Hid (Nt.RhsOk n v (i + 1)) := fun j hj => by
        by_cases e : j = i + 1
        · subst e; rw [HE1.out]; exact hft
        · exact HO.out j (by omega)
      have HQE := Lib.hid hQ
      clear hQ hy hft hcw
      refine take_call (i := 12) rfl (by kernel_rfl) (fun K2 hK => ?_)
      go_simp
      rw [← HQE.out]
      clear d0 d1 z0 z1 l0 HQE HS5
      refine hK.out _ _ HF6.out (fun hHeld2 => ?_)
      clear hK hHeld hHeld2
      refine wpAnyH_done (by kernel_rfl) ?_ _
      go_wp2_with fail
      go_roundw
      case rel => exact ⟨i + 1, by omega, by go_num, HF7, R2, HO2⟩
      case measure => simp [intOf]; omega
end Go.Proofs.YtkaokfmaecdkiaaGreatDoor
namespace Go.Proofs.YtkaokfmaecdkiaaGreatDoor
open Go.RowKit Go.Deep

/-- Two numbers, written at a place. -/
def two (F : Nat → Value) (p : Nat) (x y : Value) : Nat → Value := fun j => if j = p then x else if j = p + 1 then y else F j
theorem put_two {α : Type} (l : List α) (k : Nat) (x y : α) (h : k + 1 < l.length) : l.take k ++ [x, y] ++ l.drop (k + 2) = (l.set k x).set (k + 1) y := by
  apply List.ext_getElem?
  intro j
  rw [List.getElem?_set, List.getElem?_set]
  by_cases h1 : j < k
  · rw [List.getElem?_append_left (by simp; omega), List.getElem?_append_left (by simp; omega), List.getElem?_take_of_lt h1, if_neg (by omega), if_neg (by omega)]
  · by_cases h2 : j = k
    · subst h2
      rw [List.getElem?_append_left (by simp; omega), List.getElem?_append_right (by simp; omega)]
      simp [show j < l.length by omega, show min j l.length = j by omega]
    · by_cases h3 : j = k + 1
      · subst h3
        rw [List.getElem?_append_left (by simp; omega), List.getElem?_append_right (by simp; omega)]
        simp [h, show min k l.length = k by omega]
      · rw [List.getElem?_append_right (by simp; omega)]
        simp only [List.length_append, List.length_take, List.length_cons, List.length_nil, show min k l.length = k by omega, List.getElem?_drop]
        rw [if_neg (by omega), if_neg (by omega)]
        congr 1
        omega
section
variable {P : Program} (w : World)
theorem run_append_two (t ty e : TypeId) (i : TypeInfo) (ht : P.underlying t = some (.slice e)) (hi : P.info? e = some i) (hs : i.size = 2)
    {g o len cap M : Nat} {F : Nat → Value} (h : w.rowIs g e M F) (hroom : len + 1 ≤ cap) (hfit : o + cap * 2 ≤ M) (ad : Addr) (c : Nat) (x y : Int) (hx : w.cell? (ad.add 0) = some (.int .i64 x)) (hy : w.cell? (ad.add 1) = some (.int .i64 y)) :
    ∃ w', (Builtin.append_ #[t, t] ty #[.slice (some ⟨g, o, none⟩) len cap, .slice (some ad) 1 c]).run P w = .ok (.slice (some ⟨g, o, none⟩) (len + 1) cap) w' ∧ w'.rowIs g e M (two F (o + len * 2) (.int .i64 x) (.int .i64 y)) ∧ w.grownBy w' (some g) := by
  have hnews : ∀ j u, ([Value.int .i64 x, Value.int .i64 y])[j]? = some u → w.cell? (ad.add j) = some u := by
    intro j u hj
    match j with
    | 0 => simp at hj; subst hj; exact hx
    | 1 => simp at hj; subst hj; exact hy
    | j + 2 => simp at hj
  obtain ⟨cur, q1, q2, q3⟩ := h
  have hf := run_firstCells_some (P := P) w i.size 1 ad 1 c [.int .i64 x, .int .i64 y] (by simp [hs]) hnews
  have hst := run_storeCells_at P g (o + len * 2) e [.int .i64 x, .int .i64 y] 0 cur w q1 (by simp; omega) (by intro u hu; simp at hu; rcases hu with rfl | rfl <;> rfl)
  simp only [Nat.add_zero] at hst
  refine ⟨w.setRow g (cur.toList.take (o + len * 2) ++ [Value.int .i64 x, Value.int .i64 y] ++ cur.toList.drop (o + len * 2 + 2)).toArray, ?_, ⟨_, setRow_heap w g cur _ _ _ q1, ?_, fun j hj => ?_⟩, ⟨rfl, rfl, rfl, by simp [World.setRow], fun k _ hk => setRow_other w g k _ (fun e => hk (by rw [e]))⟩⟩
  · rw [hs] at hf
    simp [Builtin.append_, run_underlying ht, sizeOf, typeInfo, hi, hs, Builtin.lenOf, hroom, hf, Addr.add_lit]
    simp at hst
    rw [hst]
    rfl
  · simp; omega
  · have qj := q3 j hj
    rw [List.getElem?_toArray, put_two _ _ _ _ (by simp; omega), List.getElem?_set, List.getElem?_set]
    unfold two
    by_cases e1 : o + len * 2 + 1 = j
    · subst e1
      simp [show o + len * 2 + 1 < cur.size by omega]
    · by_cases e2 : o + len * 2 = j
      · subst e2
        simp [show o + len * 2 < cur.size by omega]
      · rw [if_neg e1, if_neg e2, if_neg (fun k => e2 k.symm), if_neg (fun k => e1 k.symm)]
        simpa using qj
theorem wp_append_two {o : Oper} {a : Act} {K : Act → World → Prop} {Q : Exit → Act → World → Prop} (s x : Operand) (t e : TypeId)
    (ho : o.op = .call { callee := .builtin .append, args := #[s, x], argTypes := #[t, t] })
    (i : TypeInfo) (ht : P.underlying t = some (.slice e)) (hi : P.info? e = some i) (hs : i.size = 2)
    (g off len cap M : Nat) (F : Nat → Value) (hv : a.eval s = .slice (some ⟨g, off, none⟩) len cap) (h : w.rowIs g e M F) (hroom : len + 1 ≤ cap) (hfit : off + cap * 2 ≤ M) (ad : Addr) (c : Nat) (y z : Int) (hx : a.eval x = .slice (some ad) 1 c) (hc0 : w.cell? (ad.add 0) = some (.int .i64 y)) (hc1 : w.cell? (ad.add 1) = some (.int .i64 z))
    (hK : ∀ w', w'.rowIs g e M (two F (off + len * 2) (.int .i64 y) (.int .i64 z)) → w.grownBy w' (some g) → K (a.put o.dst (.slice (some ⟨g, off, none⟩) (len + 1) cap)) w') : o.wp P a w K Q := by
  obtain ⟨w', hr, h2, h3⟩ := run_append_two (P := P) w t o.type e i ht hi hs h hroom hfit ad c y z hc0 hc1
  unfold Oper.wp execOp
  simp only [ho, resolve, invoke, builtin, Sem.run_bind, Sem.run_pure, Result.andThen_ok, List.map_toArray, List.map_cons, List.map_nil, hv, hx, hr]
  exact hK w' h2 h3
theorem ap_two {ops : Array Oper} {o : Oper} {a : Act} {K : Act → World → Prop} {Q : Exit → Act → World → Prop} {E : Prop} (hg : o.guard = none) (s x : Operand) (t e : TypeId)
    (ho : o.op = .call { callee := .builtin .append, args := #[s, x], argTypes := #[t, t] })
    (i : TypeInfo) (ht : P.underlying t = some (.slice e)) (hi : P.info? e = some i) (hs : i.size = 2)
    (g off len cap M : Nat) (F : Nat → Value) (hv : a.eval s = .slice (some ⟨g, off, none⟩) len cap) (h : w.rowIs g e M F) (hroom : len + 1 ≤ cap) (hfit : off + cap * 2 ≤ M) (ad : Addr) (c : Nat) (y z : Int) (hx : a.eval x = .slice (some ad) 1 c) (hc0 : w.cell? (ad.add 0) = some (.int .i64 y)) (hc1 : w.cell? (ad.add 1) = some (.int .i64 z))
    (hK : ∀ w', w'.rowIs g e M (two F (off + len * 2) (.int .i64 y) (.int .i64 z)) → w.grownBy w' (some g) → K (a.put o.dst (.slice (some ⟨g, off, none⟩) (len + 1) cap)) w') :
    if Region.wanted o (yielded ops a.tmps) = true then Oper.wp P o a w K Q else E := by
  have hw : Region.wanted o (yielded ops a.tmps) = true := by simp [Region.wanted, hg]
  rw [if_pos hw]
  exact wp_append_two w s x t e ho i ht hi hs g off len cap M F hv h hroom hfit ad c y z hx hc0 hc1 hK
theorem wpList_append_two {ops : Array Oper} {rest : List Oper} {o : Oper} {a : Act} {Q : Exit → Act → World → Prop} (hgd : o.guard = none) (s x : Operand) (t e : TypeId)
    (ho : o.op = .call { callee := .builtin .append, args := #[s, x], argTypes := #[t, t] })
    (i : TypeInfo) (ht : P.underlying t = some (.slice e)) (hi : P.info? e = some i) (hs : i.size = 2)
    (g off len cap M : Nat) (F : Nat → Value) (hv : a.eval s = .slice (some ⟨g, off, none⟩) len cap) (h : w.rowIs g e M F) (hroom : len + 1 ≤ cap) (hfit : off + cap * 2 ≤ M) (ad : Addr) (c : Nat) (y z : Int) (hx : a.eval x = .slice (some ad) 1 c) (hc0 : w.cell? (ad.add 0) = some (.int .i64 y)) (hc1 : w.cell? (ad.add 1) = some (.int .i64 z))
    (hK : ∀ w', w'.rowIs g e M (two F (off + len * 2) (.int .i64 y) (.int .i64 z)) → w.grownBy w' (some g) → wpList P ops Q rest (a.put o.dst (.slice (some ⟨g, off, none⟩) (len + 1) cap)) w') : wpList P ops Q (o :: rest) a w :=
  wpList_plain hgd fun _ hK2 => wp_append_two w s x t e ho i ht hi hs g off len cap M F hv h hroom hfit ad c y z hx hc0 hc1 fun w' h2 h3 => hK2 _ _ (hK w' h2 h3)
end
end Go.Proofs.YtkaokfmaecdkiaaGreatDoor
namespace Go.Proofs.YtkaokfmaecdkiaaGreatDoor
open Go Go.RowKit Go.Deep

theorem sinfo_FracS : (Tryz.prog.info? 29).map (fun i => (i.zero, i.size, i.bytes)) = some (some (.slice none 0 0), 1, 24) := by kernel_rfl
theorem smk_FracS (n : Nat) (hn : n ≤ 1048576) (w : World) : (Instr.makeSlice 62 (.int .i64 (n : Int)) (.int .i64 (n : Int))).run Tryz.prog w = .ok (.slice (some ⟨w.heap.size, 0, none⟩) n n) (w.alloc (.cells (madeCells #[.slice none 0 0] n) 29)) := by
  obtain ⟨i0, hi, hz0, hz1, hz2⟩ := info_parts sinfo_FracS
  have := run_make (P := Tryz.prog) w 62 29 i0 _ Tryz.underlying62 hi hz0 .i64 .i64 n n (by omega) (Int.le_refl _) (by rw [hz2]; omega) (by omega)
  rw [hz1] at this
  simp only [Int.toNat_natCast, Nat.mul_one] at this
  exact this
theorem made_sl (T : TypeId) (w : World) (N : Nat) : (w.alloc (.cells (madeCells #[Value.slice none 0 0] N) T)).rowIs w.heap.size T N (fun _ => .slice none 0 0) := by
  refine ⟨_, blk_alloc_new _ _, size_madeCells _ _, fun i hi => ?_⟩
  simp [madeCells, hi, Nat.mod_one]
/-- Rows told so far. -/
def rwT (gc m r : Nat) : Nat → Value := fun j => if j < r then rwV gc m j else .slice none 0 0
/-- What stands from row to row: the net, the slices, the numbers laid so far. -/
structure RoS (m r p : Nat) (n : Nt.Net) (la : Option Addr) (lk : Nat) (fa : Option Addr) (fk : Nat) (wa : Option Addr) (wk : Nat) (w W : World) : Prop where
  bel : Below w.heap.size w W
  net : W.rowIs w.heap.size 27 4 (rowN (ntL n la lk fa fk wa wk))
  rr : W.rowIs (w.heap.size + 2) 29 m (rwT (w.heap.size + 1) m r)
  cc : IsPart 35 (w.heap.size + 1) (m * (m + 1) * 2) (p * 2) (Nt.cells2 (Nt.flat m (Nt.U0 n))) W
section
variable {m r p : Nat} {n : Nt.Net} {la : Option Addr} {lk : Nat} {fa : Option Addr} {fk : Nat} {wa : Option Addr} {wk : Nat} {w W W' : World}
theorem RoS.below (h : RoS m r p n la lk fa fk wa wk w W) (hb : Below W.heap.size W W') : RoS m r p n la lk fa fk wa wk w W' :=
  ⟨h.bel.trans (hb.mono h.bel.size), nrow_below h.net hb, nrow_below h.rr hb, h.cc.block (hb.block _ h.cc.lt)⟩
theorem RoS.push {F : Nat → Value} {x : Int × Int} (h : RoS m r p n la lk fa fk wa wk w W) (hF : ∀ j, j < p * 2 → F j = .int .i64 (Nt.cells2 (Nt.flat m (Nt.U0 n)) j)) (hx : Nt.flat m (Nt.U0 n) p = x) (hr : W'.rowIs (w.heap.size + 1) 35 (m * (m + 1) * 2) (two F (p * 2) (.int .i64 x.1) (.int .i64 x.2))) (hg : W.grownBy W' (some (w.heap.size + 1))) : RoS m r (p + 1) n la lk fa fk wa wk w W' := by
  refine ⟨h.bel.grown hg h.bel.size (fun k e => by cases e; omega), h.net.of_block (hg.block _ h.net.lt (by simp)), h.rr.of_block (hg.block _ h.rr.lt (by simp)), ⟨_, hr, fun j hj => ?_⟩⟩
  unfold two
  by_cases e1 : j = p * 2
  · subst e1; rw [if_pos rfl, Nt.cells2_0, hx]
  · rw [if_neg e1]
    by_cases e2 : j = p * 2 + 1
    · subst e2; rw [if_pos rfl, Nt.cells2_1, hx]
    · rw [if_neg e2]; exact hF j (by omega)
end
/-- What is told of a net's rows. -/
def RwEnd (n : Nt.Net) (B : Nat) (e : Ending) (W : World) : Prop := ((∀ r, r < Nt.mm n → Nt.RhsOk n (Nt.nd n r) n.ln) ∧ ∃ gr gc, e = .returned (.slice (some ⟨gr, 0, none⟩) (Nt.mm n) (Nt.mm n)) ∧ B ≤ gr ∧ B ≤ gc ∧ gr ≠ gc ∧ W.rowIs gr 29 (Nt.mm n) (rwV gc (Nt.mm n)) ∧ IsBlk 35 gc (Nt.mm n * (Nt.mm n + 1) * 2) (Nt.cells2 (Nt.flat (Nt.mm n) (Nt.U0 n))) W) ∨ (¬ (∀ r, r < Nt.mm n → Nt.RhsOk n (Nt.nd n r) n.ln) ∧ ∃ s, e = thrown s 5)
set_option maxRecDepth 100000 in
set_option maxHeartbeats 8000000 in
theorem rowsOf_any (n : Nt.Net) (la : Option Addr) (lk : Nat) (fa : Option Addr) (fk : Nat) (wa : Option Addr) (wk : Nat) (da : Option Addr) (dk gh hk : Nat) (w : World) (h : NtAt n la fa wa w) (hd : IsAt da (Nt.mm n) (fun r => (Nt.nd n r : Int)) w) (hh : IsBlk 35 gh (Nt.nn n * 2) (Nt.cells2 (Nt.kh n n.fn)) w) (hr : Nt.Right n) (hg : NEt w) :
    Calls Tryz.prog 65 #[ntV n la lk fa fk wa wk, .slice da (Nt.mm n) dk, .slice (some ⟨gh, 0, none⟩) (Nt.nn n) hk] w fun e w' => RwEnd n w.heap.size e w' ∧ Below w.heap.size w w' := by
  obtain ⟨i1, hi1, hy0, hy1, hy2⟩ := info_parts sinfo_Frac
  obtain ⟨m, hm⟩ : ∃ m, m = Nt.mm n := ⟨_, rfl⟩
  obtain ⟨hnn, hn1, hn2⟩ := hr.nn
  have hm12 : m ≤ 12 := by have := Nt.freeTo_len n (Nt.nn n); rw [hm]; unfold Nt.mm Nt.free; omega
  obtain ⟨NC, hNC⟩ : ∃ x, x = m * (m + 1) := ⟨_, rfl⟩
  have hNC2 : NC ≤ 156 := by
    have := Nat.mul_le_mul hm12 (show m + 1 ≤ 13 by omega)
    omega
  have HEND := Lib.hid (show ∀ e W, (((∀ r, r < m → Nt.RhsOk n (Nt.nd n r) n.ln) ∧ ∃ gr gc, e = .returned (.slice (some ⟨gr, 0, none⟩) m m) ∧ w.heap.size ≤ gr ∧ w.heap.size ≤ gc ∧ gr ≠ gc ∧ W.rowIs gr 29 m (rwV gc m) ∧ IsBlk 35 gc (m * (m + 1) * 2) (Nt.cells2 (Nt.flat m (Nt.U0 n))) W) ∨ (¬ (∀ r, r < m → Nt.RhsOk n (Nt.nd n r) n.ln) ∧ ∃ s, e = thrown s 5)) → RwEnd n w.heap.size e W from fun e W h => by rw [hm] at h; exact h)
  have HND : Hid (∀ r, r < m → Nt.nd n r < Nt.nn n) := fun r hr => (Nt.nd_lt (by rw [← hm]; exact hr)).1
  have HU : Hid (∀ r c, c < m → Nt.U0 n r c = (Nt.coefTo n (Nt.nd n r) (Nt.nd n c) n.ln, 1)) := fun r c hc => by unfold Nt.U0; rw [if_pos (by rw [← hm]; exact hc)]
  have HUM : Hid (∀ r, Nt.U0 n r m = (Nt.rhsTo n (Nt.nd n r) n.ln, 1)) := fun r => by unfold Nt.U0; rw [if_neg (by rw [hm]; omega)]
  rw [← hm] at hd ⊢
  obtain ⟨W1, hW1⟩ : ∃ W, W = w.alloc (.cells #[.int .i64 n.nodes, .slice la n.ln lk, .slice fa n.fn fk, .slice wa n.wn wk] 27) := ⟨_, rfl⟩
  obtain ⟨W2, hW2⟩ : ∃ W, W = W1.alloc (.cells (madeCells #[.int .i64 0, .int .i64 0] (NC * 2)) 35) := ⟨_, rfl⟩
  obtain ⟨W3, hW3⟩ : ∃ W, W = W2.alloc (.cells (madeCells #[.slice none 0 0] m) 29) := ⟨_, rfl⟩
  have s1 : W1.heap.size = w.heap.size + 1 := by rw [hW1]; simp
  have s2 : W2.heap.size = w.heap.size + 2 := by rw [hW2]; simp; omega
  have S0 : Hid (RoS m 0 0 n la lk fa fk wa wk w W3) := by
    show RoS _ _ _ _ _ _ _ _ _ _ _ _
    refine ⟨?_, ?_, ?_, ?_⟩
    · rw [hW3, hW2, hW1]; exact ((nbel_alloc _ _).alloc (by simp) _).alloc (by simp; omega) _
    · rw [hW3, hW2, hW1]; exact nrow_below (nrow_below (rowN_alloc w _ _) (nbel_alloc _ _)) (nbel_alloc _ _)
    · have := made_sl 29 W2 m
      rw [← hW3, s2] at this
      exact this
    · have := made_is 35 #[.int .i64 0, .int .i64 0] W1 (NC * 2) (by intro i hi; simp at hi; have : i = 0 ∨ i = 1 := (by omega); rcases this with rfl | rfl <;> rfl) (by simp)
      rw [← hW2, s1] at this
      refine ⟨fun _ => .int .i64 0, ?_, fun j hj => absurd hj (by omega)⟩
      rw [← hNC, hW3]
      exact nrow_below this (nbel_alloc _ _)
  have hmk := smk_Frac NC (by omega)
  have hmk2 := smk_FracS m (by omega)
  have hmul : IntKind.i64.wrap ((m : Int) * ((m : Int) + 1)) = (NC : Int) := by
    have e : (m : Int) * ((m : Int) + 1) = (NC : Int) := by rw [hNC]; simp
    rw [e]; simp [IntKind.wrap, IntKind.bits, IntKind.signed]; omega
  have HA := Lib.hid h
  have HD := Lib.hid hd
  have HH := Lib.hid hh
  have HR := Lib.hid hr
  have HG := Lib.hid hg
  have HW1 := Lib.hid hW1
  have HW2 := Lib.hid hW2
  have HW3 := Lib.hid hW3
  have HS1 := Lib.hid s1
  have HS2 := Lib.hid s2
  have HNC := Lib.hid hNC
  have hln := hr.ln
  clear h hd hh hr hg hW1 hW2 hW3 hm hnn s1 s2 hNC
  go_enter Tryz.func65, Tryz.ntmps65
  go_upto_region 2 with fail
  rw [← HW1.out]
  go_upto_region 3 with fail
  rw [← HW2.out, HS1.out]
  go_upto_region 4 with fail
  rw [← HW3.out, HS2.out]
  clear HW1 HW2 HW3 HS1 HS2 hmk hmk2 hmul
  go_wp2_with fail
  go_loopw [10, 11, 12, 13, 15, 29] (fun rv nv sv wv ov iv wr => ∃ (r : Nat), r ≤ m ∧ iv = .int .i64 r ∧ Hid (RoS m r (r * (m + 1)) n la lk fa fk wa wk w wr) ∧ Hid (∀ j, j < r → Nt.RhsOk n (Nt.nd n j) n.ln)) (fun _ _ _ _ _ iv _ => m - (intOf iv).toNat)
  case atStart => exact ⟨0, Nat.zero_le _, rfl, by rw [Nat.zero_mul]; exact S0, fun j hj => absurd hj (Nat.not_lt_zero _)⟩
  case round =>
    clear S0
    obtain ⟨r, hrm, rfl, S0, HO⟩ := hrel
    by_cases hlt : r < m
    case neg =>
      obtain rfl : r = m := by omega
      go_wp2_with fail
      go_ret
      refine ⟨HEND.out _ _ (Or.inl ⟨HO.out, w.heap.size + 2, w.heap.size + 1, rfl, by omega, by omega, by omega, ?_, S0.out.cc.full (Nat.le_refl _)⟩), S0.out.bel⟩
      obtain ⟨cur, q1, q2, q3⟩ := S0.out.rr
      refine ⟨cur, q1, q2, fun i hi => ?_⟩
      rw [q3 i hi]
      unfold rwT
      rw [if_pos hi]
    have hltz : (r : Int) < (m : Int) := by omega
    obtain ⟨P, hP⟩ : ∃ P, P = r * (m + 1) := ⟨_, rfl⟩
    have hPN : P + (m + 1) ≤ NC := by
      have := Nat.mul_le_mul_right (m + 1) hlt
      rw [Nat.succ_mul, ← hP, ← HNC.out] at this
      omega
    have hst : IntKind.i64.wrap ((r : Int) * ((m : Int) + 1)) = (P : Int) := by
      have e : (r : Int) * ((m : Int) + 1) = (P : Int) := by rw [hP]; simp
      rw [e]; simp [IntKind.wrap, IntKind.bits, IntKind.signed]; omega
    rw [← hP] at S0
    have HPE := Lib.hid hP
    clear hP
    obtain ⟨V0, hV0⟩ : ∃ w', w' = wr := ⟨_, rfl⟩
    rw [← hV0] at S0 ⊢
    clear hV0
    obtain ⟨xd, exd, cd⟩ := (HD.out.below S0.out.bel).at1 hlt
    subst exd
    obtain ⟨v, hv⟩ : ∃ v, v = Nt.nd n r := ⟨_, rfl⟩
    simp only [← hv] at cd
    have HVE := Lib.hid hv
    have hvn : v < Nt.nn n := by rw [hv]; exact HND.out r hlt
    clear hv
    have k1 : ¬ (NC : Int) < (P : Int) + ((m : Int) + 1) := by omega
    have k2 : (P : Int) + ((m : Int) + 1) ≤ (NC : Int) := by omega
    go_wp2_with fail
    clear cd k1 k2 hst
    go_loopw [13, 15, 46] (fun wv ov iv wx => ∃ (c : Nat), c ≤ m ∧ iv = .int .i64 c ∧ wv = .slice (some ⟨w.heap.size + 1, P * 2, none⟩) c (m + 1) ∧ Hid (RoS m r (P + c) n la lk fa fk wa wk w wx)) (fun _ _ iv _ => m - (intOf iv).toNat)
    case atStart => exact ⟨0, Nat.zero_le _, rfl, rfl, S0⟩
    case round =>
      clear S0
      obtain ⟨c, hcm, rfl, rfl, S1⟩ := hrel
      obtain ⟨V1, hV1⟩ : ∃ w', w' = wr := ⟨_, rfl⟩
      rw [← hV1] at S1 ⊢
      clear hV1
      obtain ⟨⟨r0, r1, r2, r3⟩, _⟩ := rowN4 S1.out.net
      by_cases hc : c < m
      case pos =>
        have hcz : (c : Int) < (m : Int) := by omega
        obtain ⟨xe, exe, cd⟩ := (HD.out.below S1.out.bel).at1 hc
        cases exe
        obtain ⟨u, hu⟩ : ∃ u, u = Nt.nd n c := ⟨_, rfl⟩
        simp only [← hu] at cd
        have HUE := Lib.hid hu
        clear hu
        go_wp2_with fail
        clear r0 r1 r2 r3 cd
        refine (coef_any n la lk v u _ (HA.out.below S1.out.bel).l HR.out).mono ?_
        rintro e V2 ⟨rfl, hb⟩
        have S2 := Lib.hid (S1.out.below hb)
        have hcb := Nt.coefTo_bd HR.out v u n.ln (Nat.le_refl _)
        obtain ⟨x, hx⟩ : ∃ x, x = Nt.coefTo n v u n.ln := ⟨_, rfl⟩
        rw [← hx] at hcb ⊢
        have HXV : Hid (Nt.flat m (Nt.U0 n) (P + c) = (x, 1)) := by show _ = _; rw [HPE.out, Nt.flat_at _ (by omega), HU.out r c hc, ← HVE.out, ← HUE.out, ← hx]
        obtain ⟨hx1, hx2⟩ := hcb
        clear hb S1 hx
        go_wp2_with fail
        refine (whole_any x _ (by omega) (by omega) (HG.out.below S2.out.bel)).mono ?_
        rintro e V3 ⟨rfl, hb⟩
        have S3 := Lib.hid (S2.out.below hb)
        clear hb S2
        obtain ⟨F, hF, hFc⟩ := (S3.out.below (nbel_alloc V3 (.cells #[.int .i64 x, .int .i64 1] 35))).cc
        have HFC := Lib.hid hFc
        have HFR := Lib.hid hF
        clear hF hFc
        go_wp2_with (at_builtin; refine wpList_append_two _ rfl _ _ 29 35 rfl i1 Tryz.underlying29 hi1 hy1 (w.heap.size + 1) (P * 2) c (m + 1) _ F rfl HFR.out ?b1 ?b2 ⟨V3.heap.size, 0, none⟩ 1 x 1 rfl ?b3 ?b4 ?_)
        try (case b1 => omega)
        try (case b2 => (rw [← HNC.out]; omega))
        try (case b3 => simp [Addr.add])
        try (case b4 => simp [Addr.add])
        intro V4 hrow hgrow
        have S4 : Hid (RoS m r (P + c + 1) n la lk fa fk wa wk w V4) := by
          have S3a := S3.out.below (nbel_alloc V3 (.cells #[.int .i64 x, .int .i64 1] 35))
          refine S3a.push (x := (x, 1)) HFC.out HXV.out ?_ hgrow
          rw [show (P + c) * 2 = P * 2 + c * 2 by omega]
          exact hrow
        clear hrow hgrow HFC HFR S3
        go_wp2_with fail
        go_roundw
        case rel => exact ⟨c + 1, by omega, by go_num, rfl, S4⟩
        case measure => simp [intOf]; omega
      case neg =>
        obtain rfl : c = m := by omega
        go_wp2_with fail
        clear r0 r1 r2 r3
        refine (rightSide_any n la lk fa fk wa wk v gh hk _ (HA.out.below S1.out.bel) (HH.out.below S1.out.bel) HR.out hvn (HG.out.below S1.out.bel)).mono ?_
        rintro e V2 ⟨hE, hb⟩
        have S2 := Lib.hid (S1.out.below hb)
        clear hb S1
        rcases hE with ⟨hok, rfl⟩ | ⟨hno, s9, rfl⟩
        case inr =>
          have HNO : Hid (¬ ∀ r, r < c → Nt.RhsOk n (Nt.nd n r) n.ln) := fun h => hno (by rw [HVE.out]; exact h r hlt)
          clear hno
          go_wp2_with fail
          exact ⟨rfl, HEND.out _ _ (Or.inr ⟨HNO.out, s9, rfl⟩), S2.out.bel⟩
        obtain ⟨x, hx⟩ : ∃ x, x = Nt.rhsTo n v n.ln := ⟨_, rfl⟩
        rw [← hx]
        have HXV : Hid (Nt.flat c (Nt.U0 n) (P + c) = (x, 1)) := by show _ = _; rw [HPE.out, Nt.flat_at _ (Nat.le_refl _), HUM.out r, ← HVE.out, ← hx]
        have HO2 : Hid (∀ j, j < r + 1 → Nt.RhsOk n (Nt.nd n j) n.ln) := fun j hj => by
          by_cases e : j = r
          · subst e; rw [← HVE.out]; exact hok
          · exact HO.out j (by omega)
        clear hok hx
        obtain ⟨F, hF, hFc⟩ := (S2.out.below (nbel_alloc V2 (.cells #[.int .i64 x, .int .i64 1] 35))).cc
        have HFC := Lib.hid hFc
        have HFR := Lib.hid hF
        clear hF hFc
        go_wp2_with (at_builtin; refine wpList_append_two _ rfl _ _ 29 35 rfl i1 Tryz.underlying29 hi1 hy1 (w.heap.size + 1) (P * 2) c (c + 1) _ F rfl HFR.out ?c1 ?c2 ⟨V2.heap.size, 0, none⟩ 1 x 1 rfl ?c3 ?c4 ?_)
        try (case c1 => omega)
        try (case c2 => (rw [← HNC.out]; omega))
        try (case c3 => simp [Addr.add])
        try (case c4 => simp [Addr.add])
        intro V4 hrow hgrow
        have S4 : Hid (RoS c r (P + c + 1) n la lk fa fk wa wk w V4) := by
          have S3a := S2.out.below (nbel_alloc V2 (.cells #[.int .i64 x, .int .i64 1] 35))
          refine S3a.push (x := (x, 1)) HFC.out HXV.out ?_ hgrow
          rw [show (P + c) * 2 = P * 2 + c * 2 by omega]
          exact hrow
        clear hrow hgrow HFC HFR S2
        have o0 := S4.out.rr.cell (i := r) hlt
        have z0 := S4.out.rr.frozen r
        have l0 := S4.out.rr.lt
        obtain ⟨Q, hQ⟩ : ∃ Q, Q = V4.setCell ⟨w.heap.size + 2, r, none⟩ (.slice (some ⟨w.heap.size + 1, P * 2, none⟩) (c + 1) (c + 1)) := ⟨_, rfl⟩
        have S5 : Hid (RoS c (r + 1) ((r + 1) * (c + 1)) n la lk fa fk wa wk w Q) := by
          show RoS _ _ _ _ _ _ _ _ _ _ _ _
          have hk2 : ∀ k, k ≠ w.heap.size + 2 → Q.heap[k]? = V4.heap[k]? := fun k hk => by rw [hQ]; exact Below.heap_setCell _ _ _ _ hk
          refine ⟨by rw [hQ]; exact S4.out.bel.setCell (p := ⟨w.heap.size + 2, r, none⟩) (by show _ ≤ w.heap.size + 2; omega) _, S4.out.net.of_block (hk2 _ (by omega)), ?_, ?_⟩
          · have := S4.out.rr.set r (.slice (some ⟨w.heap.size + 1, P * 2, none⟩) (c + 1) (c + 1))
            rw [← hQ] at this
            obtain ⟨cur, q1, q2, q3⟩ := this
            refine ⟨cur, q1, q2, fun i hi => ?_⟩
            rw [q3 i hi]
            unfold rwT rwV
            simp only
            by_cases e : i = r
            · subst e; rw [if_pos rfl, if_pos (by omega), HPE.out]
            · rw [if_neg e]
              by_cases e2 : i < r
              · rw [if_pos e2, if_pos (by omega)]
              · rw [if_neg e2, if_neg (by omega)]
          · rw [show (r + 1) * (c + 1) = P + c + 1 by rw [Nat.succ_mul, ← HPE.out]; omega]
            exact S4.out.cc.block (hk2 _ (by omega))
        have HQ := Lib.hid hQ
        clear hQ
        go_wp2_with fail
        rw [← HQ.out]
        clear o0 z0 l0 HQ
        go_wp2_with fail
        go_roundw
        case rel => exact ⟨r + 1, by omega, by go_num, S5, HO2⟩
        case measure => simp [intOf]; omega
end Go.Proofs.YtkaokfmaecdkiaaGreatDoor
namespace Go.Proofs.YtkaokfmaecdkiaaGreatDoor
open Go.RowKit Go.Extern.Stop Go.Stop Go.Extern

/-- An error that tells a loose node. -/
abbrev looV (k : Int) : Value := .iface 107 (.agg #[.int .i64 k])
namespace AsL
theorem typeOfE (v : Value) (w : World) : (ReflectliteType.typeOf #[.iface 107 v]).run Tryz.prog w = .ok (.iface 153 (.agg #[.pointer (some ⟨1, 107, none⟩)])) w := by kernel_rfl
theorem assignableE (w : World) : (ReflectliteType.relation "AssignableTo" ReflectliteType.assignableTo #[.agg #[.pointer (some ⟨1, 107, none⟩)], .iface 153 (.agg #[.pointer (some ⟨1, 107, none⟩)])]).run Tryz.prog w = .ok (.bool true) w := by kernel_rfl
theorem valueOfE (c : Int) (w : World) : (ReflectliteValue.unpack (.iface 107 (.agg #[.int .i64 c]))).run Tryz.prog w
    = .ok (.agg #[.pointer (some ⟨1, 107, none⟩), .pointer (some ⟨w.heap.size, 0, none⟩), .int .u64 153]) (w.alloc (.cells #[.int .i64 c] 107)) := by kernel_rfl
theorem elemOfP (w : World) : (Rtype.elem? 122).run Tryz.prog w = .ok (some 107) w := by kernel_rfl
theorem mkE (p : Addr) (w : World) : (ReflectliteValue.mk 107 p ReflectliteValue.flagAddr).run Tryz.prog w = .ok (.agg #[.pointer (some ⟨1, 107, none⟩), .pointer (some p), .int .u64 409]) w := by kernel_rfl
theorem elemVP (a p : Addr) (W : World) (ha : W.cell? a = some (.pointer (some p))) :
    (ReflectliteValue.method (ReflectliteValue.valueError "reflectlite.Value.Elem" 0) ReflectliteValue.elem #[.agg #[.pointer (some ⟨1, 122, none⟩), .pointer (some a), .int .u64 150]]).run Tryz.prog W
      = .ok (.agg #[.pointer (some ⟨1, 107, none⟩), .pointer (some p), .int .u64 409]) W := by
  rw [As.rlm]
  simp only [Sem.run_bind, partsP, Result.andThen]
  simp [ReflectliteValue.elem, loadVar, isAgg, underlying, Tryz.underlying122, ha, Result.andThen, elemOfP, mkE]
theorem partsEa (a : Addr) (w : World) : (ReflectliteValue.parts (.agg #[.pointer (some ⟨1, 107, none⟩), .pointer (some a), .int .u64 409])).run Tryz.prog w = .ok (some (107, a, 409)) w := by kernel_rfl
theorem partsE (a : Addr) (w : World) : (ReflectliteValue.parts (.agg #[.pointer (some ⟨1, 107, none⟩), .pointer (some a), .int .u64 153])).run Tryz.prog w = .ok (some (107, a, 153)) w := by kernel_rfl
theorem directE (w : World) : (Rtype.directlyAssignable 107 107).run Tryz.prog w = .ok true w := by kernel_rfl
theorem setE (ta b : Addr) (c : Int) (old : Value) (W : World) (hb : W.cell? b = some (.int .i64 c)) (ht : W.cell? ta = some old) (hf : W.frozen? ta = false) :
    (ReflectliteValue.set #[.agg #[.pointer (some ⟨1, 107, none⟩), .pointer (some ta), .int .u64 409], .agg #[.pointer (some ⟨1, 107, none⟩), .pointer (some b), .int .u64 153]]).run Tryz.prog W
      = .ok (.tuple #[]) (W.setCell ta (.int .i64 c)) := by
  unfold ReflectliteValue.set
  rw [As.pick2]
  simp only [Sem.run_bind, partsEa, partsE, Result.andThen]
  rw [if_neg (by decide)]
  have hl : (loadVar 107 b).run Tryz.prog W = .ok (.agg #[.int .i64 c]) W := by
    simp [loadVar, Result.andThen, loadCells, loadCellsFrom, Addr.add, hb]
  simp only [Sem.run_bind, hl, directE, Result.andThen, if_true]
  simp [storeVar, Value.cells, storeCells, Addr.add, Result.andThen]
  rw [run_store Tryz.prog W ta _ _ (by rfl)]
  simp [ht, hf]
theorem methodUnwrapL (k : Nat) (v : Value) (w : World) : (Go.method (k + 4) 107 v "Unwrap").run Tryz.prog w = .ok (134, v) w := by kernel_rfl
theorem assignableLR (w : World) : (ReflectliteType.relation "AssignableTo" ReflectliteType.assignableTo #[.agg #[.pointer (some ⟨1, 107, none⟩)], .iface 153 (.agg #[.pointer (some ⟨1, 103, none⟩)])]).run Tryz.prog w = .ok (.bool false) w := by kernel_rfl
end AsL
set_option maxHeartbeats 1000000 in
theorem unwrap_L (k : Int) (w : World) :
    Calls Tryz.prog 134 #[.agg #[.int .i64 k]] w fun e w' => e = .returned (.iface 103 (.agg #[.int .i64 4])) ∧ Below w.heap.size w w' := by
  go_enter Tryz.func134, Tryz.ntmps134
  go_wp2
  go_ret
  exact ⟨rfl, by first | exact nbel_alloc _ _ | exact Below.refl _ _⟩
set_option maxHeartbeats 4000000 in
theorem asL_hit (c : Int) (tv : Value) (tb vb : Nat) (old : Value) (w : World) (hv : w.cell? ⟨vb, 0, none⟩ = some (.pointer (some ⟨tb, 0, none⟩))) (ht0 : w.cell? ⟨tb, 0, none⟩ = some old) (hf0 : w.frozen? ⟨tb, 0, none⟩ = false) :
    Calls Tryz.prog 101 #[looV c, tv, .agg #[.pointer (some ⟨1, 122, none⟩), .pointer (some ⟨vb, 0, none⟩), .int .u64 150], .iface 153 (.agg #[.pointer (some ⟨1, 107, none⟩)])] w fun e w' => e = .returned (.bool true) ∧ w'.cell? ⟨tb, 0, none⟩ = some (.int .i64 c) ∧ Below tb w w' := by

  have h25 := @run_callFunc_extern Tryz.prog 98 _ (fun args => ReflectliteValue.unpack (args.getD 0 (.tuple #[]))) Tryz.func98 (by kernel_rfl) (by kernel_rfl) (by kernel_rfl) (by kernel_rfl)
  have h29 := @run_callFunc_extern Tryz.prog 108 _ ReflectliteType.typeOf Tryz.func108 (by kernel_rfl) (by kernel_rfl) (by kernel_rfl) (by kernel_rfl)
  have h56 := @run_callFunc_extern Tryz.prog 139 _ (ReflectliteType.relation "AssignableTo" ReflectliteType.assignableTo) Tryz.func139 (by kernel_rfl) (by kernel_rfl) (by kernel_rfl) (by kernel_rfl)
  have h30 := @run_callFunc_extern Tryz.prog 109 _ (ReflectliteValue.method (ReflectliteValue.valueError "reflectlite.Value.Elem" 0) ReflectliteValue.elem) Tryz.func109 (by kernel_rfl) (by kernel_rfl) (by kernel_rfl) (by kernel_rfl)
  have h31 := @run_callFunc_extern Tryz.prog 110 _ ReflectliteValue.set Tryz.func110 (by kernel_rfl) (by kernel_rfl) (by kernel_rfl) (by kernel_rfl)
  have tE := AsL.typeOfE
  have mA := As.methodAssignableTo
  have aE := AsL.assignableE
  have vE := AsL.valueOfE
  have htl : tb < w.heap.size := World.block_lt_of_cell? _ _ ht0
  have HT0 := Lib.hid ht0
  have hvl : vb < w.heap.size := World.block_lt_of_cell? _ _ hv
  have g1 : ∀ A, (w.alloc A).cell? ⟨vb, 0, none⟩ = some (.pointer (some ⟨tb, 0, none⟩)) := fun A => by
    rw [World.cell?_alloc_lt _ _ ⟨vb, 0, none⟩ hvl]; exact hv
  have g2 : ∀ A B, ((w.alloc A).alloc B).cell? ⟨tb, 0, none⟩ = some old := fun A B => by
    rw [World.cell?_alloc_lt _ _ ⟨tb, 0, none⟩ (by simp; omega), World.cell?_alloc_lt _ _ ⟨tb, 0, none⟩ htl]; exact ht0
  have g3 : ∀ A B, ((w.alloc A).alloc B).frozen? ⟨tb, 0, none⟩ = false := fun A B => by
    rw [World.frozen?_alloc_old _ _ ⟨tb, 0, none⟩ (by simp; omega), World.frozen?_alloc_old _ _ ⟨tb, 0, none⟩ (Nat.ne_of_lt htl)]; exact hf0
  have el := fun A => AsL.elemVP ⟨vb, 0, none⟩ ⟨tb, 0, none⟩ (w.alloc A) (g1 A)
  have st := fun A => AsL.setE ⟨tb, 0, none⟩ ⟨w.heap.size + 1, 0, none⟩ c old ((w.alloc A).alloc (.cells #[.int .i64 c] 107)) (by rw [World.cell?_alloc_at _ _ _ _ (by simp)]; rfl) (g2 A _) (g3 A _)
  clear g1 g3
  go_enter Tryz.func101, Tryz.ntmps101
  go_wp2
  refine wp_loop_rounds 1 ?_
  rw [rounds_succ]
  go_wp2_with fail
  go_ret
  refine ⟨rfl, ?_, ?_⟩
  · rw [World.cell?_alloc_lt _ _ ⟨tb, 0, none⟩ (by simp; omega), World.cell?_alloc_lt _ _ ⟨tb, 0, none⟩ (by simp; omega)]; exact World.cell?_setCell_same _ _ _ HT0.out
  · exact (((Below.refl _ _).setCell (p := ⟨tb, 0, none⟩) (Nat.le_refl _) _).alloc (by simp; omega) _).alloc (by simp; omega) _
set_option maxHeartbeats 4000000 in
theorem as_loose (c : Int) (tv : Value) (tb vb : Nat) (old : Value) (w : World) (hv : w.cell? ⟨vb, 0, none⟩ = some (.pointer (some ⟨tb, 0, none⟩))) (ht0 : w.cell? ⟨tb, 0, none⟩ = some old) (hf0 : w.frozen? ⟨tb, 0, none⟩ = false) :
    Calls Tryz.prog 101 #[looV c, tv, .agg #[.pointer (some ⟨1, 146, none⟩), .pointer (some ⟨vb, 0, none⟩), .int .u64 150], .iface 153 (.agg #[.pointer (some ⟨1, 103, none⟩)])] w fun e w' => e = .returned (.bool true) ∧ w'.cell? ⟨tb, 0, none⟩ = some (.int .i64 4) ∧ Below tb w w' := by

  have h25 := @run_callFunc_extern Tryz.prog 98 _ (fun args => ReflectliteValue.unpack (args.getD 0 (.tuple #[]))) Tryz.func98 (by kernel_rfl) (by kernel_rfl) (by kernel_rfl) (by kernel_rfl)
  have h29 := @run_callFunc_extern Tryz.prog 108 _ ReflectliteType.typeOf Tryz.func108 (by kernel_rfl) (by kernel_rfl) (by kernel_rfl) (by kernel_rfl)
  have h56 := @run_callFunc_extern Tryz.prog 139 _ (ReflectliteType.relation "AssignableTo" ReflectliteType.assignableTo) Tryz.func139 (by kernel_rfl) (by kernel_rfl) (by kernel_rfl) (by kernel_rfl)
  have h30 := @run_callFunc_extern Tryz.prog 109 _ (ReflectliteValue.method (ReflectliteValue.valueError "reflectlite.Value.Elem" 0) ReflectliteValue.elem) Tryz.func109 (by kernel_rfl) (by kernel_rfl) (by kernel_rfl) (by kernel_rfl)
  have h31 := @run_callFunc_extern Tryz.prog 110 _ ReflectliteValue.set Tryz.func110 (by kernel_rfl) (by kernel_rfl) (by kernel_rfl) (by kernel_rfl)
  have tE := As.typeOfE
  have tD := AsL.typeOfE
  have mA := As.methodAssignableTo
  have mU := AsL.methodUnwrapL
  have aE := As.assignableE
  have aD := AsL.assignableLR
  have vE := As.valueOfE
  have nAs := fun (v : Value) (xT : TypeId) (wx : World) => run_typeAssert_lacksB (P := Tryz.prog) (z := .nilIface) (t := 107) Tryz.underlying158 (by kernel_rfl) (by kernel_rfl) v xT wx
  have yUn := fun (v : Value) (xT : TypeId) (wx : World) => run_typeAssert_hasB (P := Tryz.prog) (t := 107) Tryz.underlying161 (by kernel_rfl) v xT wx
  have htl : tb < w.heap.size := World.block_lt_of_cell? _ _ ht0
  have hvl : vb < w.heap.size := World.block_lt_of_cell? _ _ hv
  have G1 : Hid (∀ V, Below w.heap.size w V → V.cell? ⟨vb, 0, none⟩ = some (.pointer (some ⟨tb, 0, none⟩)) ∧ V.cell? ⟨tb, 0, none⟩ = some old ∧ V.frozen? ⟨tb, 0, none⟩ = false) := fun V hV => ⟨(hV.cell (p := ⟨vb, 0, none⟩) hvl).trans hv, (hV.cell (p := ⟨tb, 0, none⟩) htl).trans ht0, (hV.frozen (p := ⟨tb, 0, none⟩) htl).trans hf0⟩
  clear hv ht0 hf0
  go_enter Tryz.func101, Tryz.ntmps101
  go_wp2
  refine wp_loop_rounds 2 ?_
  rw [rounds_succ]
  go_wp2_with fail
  refine (unwrap_L _ _).mono ?_
  rintro e w1 ⟨rfl, hb⟩
  have hb2 : Below w.heap.size w w1 := ((Below.refl _ _).alloc (Nat.le_refl _) _).trans (hb.mono (by simp))
  have BX : Hid (w1.cell? ⟨w.heap.size, 0, none⟩ = some (.pointer (some ⟨1, 146, none⟩)) ∧ w1.cell? ⟨w.heap.size, 1, none⟩ = some (.pointer (some ⟨vb, 0, none⟩)) ∧ w1.cell? ⟨w.heap.size, 2, none⟩ = some (.int .u64 150)) := by
    refine ⟨?_, ?_, ?_⟩ <;> rw [hb.cell (by simp)] <;> simp
  obtain ⟨k1, k2, k3⟩ := G1.out w1 hb2
  obtain ⟨b0, b1, b2⟩ := BX.out
  have lz : w.heap.size < w1.heap.size := World.block_lt_of_cell? _ _ b0
  have lt1 : tb < w1.heap.size := World.block_lt_of_cell? _ _ k2
  have g2 : ∀ C, (w1.alloc C).cell? ⟨tb, 0, none⟩ = some old := fun C => by rw [World.cell?_alloc_lt _ _ ⟨tb, 0, none⟩ lt1]; exact k2
  have g3 : ∀ C, (w1.alloc C).frozen? ⟨tb, 0, none⟩ = false := fun C => by rw [World.frozen?_alloc_old _ _ ⟨tb, 0, none⟩ (Nat.ne_of_lt lt1)]; exact k3
  have el := As.elemVP ⟨vb, 0, none⟩ ⟨tb, 0, none⟩ w1 k1
  have st := As.setE ⟨tb, 0, none⟩ ⟨w1.heap.size, 0, none⟩ 4 old (w1.alloc (.cells #[.int .i64 4] 103)) (by rw [World.cell?_alloc_at _ _ _ _ rfl]; rfl) (g2 _) (g3 _)
  have HB2 := Lib.hid hb2
  have HK2 := Lib.hid k2
  clear hb hb2 g3 k1 k3
  go_wp2_with fail
  rw [rounds_succ]
  go_wp2_with fail
  go_ret
  refine ⟨rfl, ?_, ?_⟩
  · rw [World.cell?_alloc_lt _ _ ⟨tb, 0, none⟩ (by simp; omega)]; exact World.cell?_setCell_same _ _ _ HK2.out
  · exact (((HB2.out.mono (Nat.le_of_lt htl)).setCell (p := ⟨tb, 0, none⟩) (Nat.le_refl _) _)).alloc (by simp; omega) _
set_option maxHeartbeats 4000000 in
theorem asTop_loose (k : Int) (tb : Nat) (old : Value) (w : World) (hg : w.cell? ⟨0, 0, none⟩ = some (.iface 153 (.agg #[.pointer (some ⟨1, 99, none⟩)]))) (ht0 : w.cell? ⟨tb, 0, none⟩ = some old) (hf0 : w.frozen? ⟨tb, 0, none⟩ = false) :
    Calls Tryz.prog 80 #[looV k, .iface 146 (.pointer (some ⟨tb, 0, none⟩))] w fun e w' => e = .returned (.bool true) ∧ w'.cell? ⟨tb, 0, none⟩ = some (.int .i64 4) ∧ Below tb w w' := by
  have h25 := @run_callFunc_extern Tryz.prog 98 _ (fun args => ReflectliteValue.unpack (args.getD 0 (.tuple #[]))) Tryz.func98 (by kernel_rfl) (by kernel_rfl) (by kernel_rfl) (by kernel_rfl)
  have h26 := @run_callFunc_extern Tryz.prog 99 _ (ReflectliteValue.methodAny (ReflectliteValue.valueError "reflectlite.Value.Type" 0) (fun t _ _ _ => ReflectliteType.toType t)) Tryz.func99 (by kernel_rfl) (by kernel_rfl) (by kernel_rfl) (by kernel_rfl)
  have h27 := @run_callFunc_extern Tryz.prog 100 _ (ReflectliteValue.method (ReflectliteValue.valueError "reflectlite.Value.IsNil" 0) ReflectliteValue.isNil) Tryz.func100 (by kernel_rfl) (by kernel_rfl) (by kernel_rfl) (by kernel_rfl)
  have h46 := @run_callFunc_extern Tryz.prog 127 _ (ReflectliteType.abiMethod fun t => do pure (.int .u8 (← Rtype.kind t))) Tryz.func127 (by kernel_rfl) (by kernel_rfl) (by kernel_rfl) (by kernel_rfl)
  have h58 := @run_callFunc_extern Tryz.prog 141 _ (ReflectliteType.method ReflectliteType.elem) Tryz.func141 (by kernel_rfl) (by kernel_rfl) (by kernel_rfl) (by kernel_rfl)
  have h59 := @run_callFunc_extern Tryz.prog 142 _ (ReflectliteType.relation "Implements" ReflectliteType.implements_) Tryz.func142 (by kernel_rfl) (by kernel_rfl) (by kernel_rfl) (by kernel_rfl)
  have vP := As.valueOfP
  have tP := As.typeP
  have mK := As.methodKind
  have mE := As.methodElem
  have mI := As.methodImplements
  have kP := As.kindP
  have kE := As.kindE
  have eP := As.elemP
  have iE := As.implementsE
  have htl : tb < w.heap.size := World.block_lt_of_cell? _ _ ht0
  have hgl : 0 < w.heap.size := World.block_lt_of_cell? _ _ hg
  have nP := fun B => As.isNilP ⟨w.heap.size, 0, none⟩ ⟨tb, 0, none⟩ ((w.alloc (.cells #[.pointer (some ⟨tb, 0, none⟩)] 146)).alloc B) (by rw [World.cell?_alloc_lt _ _ ⟨w.heap.size, 0, none⟩ (by simp)]; simp)
  have hg2 : ∀ A B, ((w.alloc A).alloc B).cell? ⟨0, 0, none⟩ = some (.iface 153 (.agg #[.pointer (some ⟨1, 99, none⟩)])) := fun A B => by
    rw [World.cell?_alloc_lt _ _ ⟨0, 0, none⟩ (by simp <;> omega), World.cell?_alloc_lt _ _ ⟨0, 0, none⟩ hgl]; exact hg
  go_enter Tryz.func80, Tryz.ntmps80
  go_wp2_with fail
  refine (as_loose k _ tb w.heap.size old _ ?_ ?_ ?_).mono ?_
  · rw [World.cell?_alloc_lt _ _ ⟨w.heap.size, 0, none⟩ (by simp)]; simp
  · rw [World.cell?_alloc_lt _ _ ⟨tb, 0, none⟩ (by simp; omega), World.cell?_alloc_lt _ _ ⟨tb, 0, none⟩ htl]; exact ht0
  · rw [World.frozen?_alloc_old _ _ ⟨tb, 0, none⟩ (by simp; omega), World.frozen?_alloc_old _ _ ⟨tb, 0, none⟩ (Nat.ne_of_lt htl)]; exact hf0
  · rintro e w' ⟨rfl, hc, hb⟩
    have HB : Hid (Below tb w w') := (((Below.refl _ _).alloc (Nat.le_of_lt htl) _).alloc (by simp; omega) _).trans hb
    have HC : Hid (w'.cell? ⟨tb, 0, none⟩ = some (.int .i64 4)) := hc
    clear hc hb hg hg2 ht0 hf0 nP
    go_wp2_with fail
    go_ret
    exact ⟨rfl, HC.out, HB.out⟩

set_option maxHeartbeats 4000000 in
theorem asLTop_hit (k : Int) (tb : Nat) (old : Value) (w : World) (hg : w.cell? ⟨0, 0, none⟩ = some (.iface 153 (.agg #[.pointer (some ⟨1, 99, none⟩)]))) (ht0 : w.cell? ⟨tb, 0, none⟩ = some old) (hf0 : w.frozen? ⟨tb, 0, none⟩ = false) :
    Calls Tryz.prog 80 #[looV k, .iface 122 (.pointer (some ⟨tb, 0, none⟩))] w fun e w' => e = .returned (.bool true) ∧ w'.cell? ⟨tb, 0, none⟩ = some (.int .i64 k) ∧ Below tb w w' := by
  have h25 := @run_callFunc_extern Tryz.prog 98 _ (fun args => ReflectliteValue.unpack (args.getD 0 (.tuple #[]))) Tryz.func98 (by kernel_rfl) (by kernel_rfl) (by kernel_rfl) (by kernel_rfl)
  have h26 := @run_callFunc_extern Tryz.prog 99 _ (ReflectliteValue.methodAny (ReflectliteValue.valueError "reflectlite.Value.Type" 0) (fun t _ _ _ => ReflectliteType.toType t)) Tryz.func99 (by kernel_rfl) (by kernel_rfl) (by kernel_rfl) (by kernel_rfl)
  have h27 := @run_callFunc_extern Tryz.prog 100 _ (ReflectliteValue.method (ReflectliteValue.valueError "reflectlite.Value.IsNil" 0) ReflectliteValue.isNil) Tryz.func100 (by kernel_rfl) (by kernel_rfl) (by kernel_rfl) (by kernel_rfl)
  have h46 := @run_callFunc_extern Tryz.prog 127 _ (ReflectliteType.abiMethod fun t => do pure (.int .u8 (← Rtype.kind t))) Tryz.func127 (by kernel_rfl) (by kernel_rfl) (by kernel_rfl) (by kernel_rfl)
  have h58 := @run_callFunc_extern Tryz.prog 141 _ (ReflectliteType.method ReflectliteType.elem) Tryz.func141 (by kernel_rfl) (by kernel_rfl) (by kernel_rfl) (by kernel_rfl)
  have h59 := @run_callFunc_extern Tryz.prog 142 _ (ReflectliteType.relation "Implements" ReflectliteType.implements_) Tryz.func142 (by kernel_rfl) (by kernel_rfl) (by kernel_rfl) (by kernel_rfl)
  have vP := AsL.valueOfP
  have tP := AsL.typeP
  have mK := As.methodKind
  have mE := As.methodElem
  have mI := As.methodImplements
  have kP := AsL.kindP
  have kE := AsL.kindE
  have eP := AsL.elemP
  have iE := AsL.implementsE
  have htl : tb < w.heap.size := World.block_lt_of_cell? _ _ ht0
  have hgl : 0 < w.heap.size := World.block_lt_of_cell? _ _ hg
  have nP := fun B => AsL.isNilP ⟨w.heap.size, 0, none⟩ ⟨tb, 0, none⟩ ((w.alloc (.cells #[.pointer (some ⟨tb, 0, none⟩)] 122)).alloc B) (by rw [World.cell?_alloc_lt _ _ ⟨w.heap.size, 0, none⟩ (by simp)]; simp)
  have hg2 : ∀ A B, ((w.alloc A).alloc B).cell? ⟨0, 0, none⟩ = some (.iface 153 (.agg #[.pointer (some ⟨1, 99, none⟩)])) := fun A B => by
    rw [World.cell?_alloc_lt _ _ ⟨0, 0, none⟩ (by simp <;> omega), World.cell?_alloc_lt _ _ ⟨0, 0, none⟩ hgl]; exact hg
  go_enter Tryz.func80, Tryz.ntmps80
  go_wp2_with fail
  refine (asL_hit k _ tb w.heap.size old _ ?_ ?_ ?_).mono ?_
  · rw [World.cell?_alloc_lt _ _ ⟨w.heap.size, 0, none⟩ (by simp)]; simp
  · rw [World.cell?_alloc_lt _ _ ⟨tb, 0, none⟩ (by simp; omega), World.cell?_alloc_lt _ _ ⟨tb, 0, none⟩ htl]; exact ht0
  · rw [World.frozen?_alloc_old _ _ ⟨tb, 0, none⟩ (by simp; omega), World.frozen?_alloc_old _ _ ⟨tb, 0, none⟩ (Nat.ne_of_lt htl)]; exact hf0
  · rintro e w' ⟨rfl, hc, hb⟩
    have HB : Hid (Below tb w w') := (((Below.refl _ _).alloc (Nat.le_of_lt htl) _).alloc (by simp; omega) _).trans hb
    have HC : Hid (w'.cell? ⟨tb, 0, none⟩ = some (.int .i64 k)) := hc
    clear hc hb hg hg2 ht0 hf0 nP
    go_wp2_with fail
    go_ret
    exact ⟨rfl, HC.out, HB.out⟩

set_option maxHeartbeats 1000000 in
theorem codeOf_loose (k : Int) (w : World) (hg : w.cell? ⟨0, 0, none⟩ = some (.iface 153 (.agg #[.pointer (some ⟨1, 99, none⟩)]))) :
    Calls Tryz.prog 81 #[looV k] w fun e w' => e = .returned (.int .i64 4) ∧ Below w.heap.size w w' := by
  have hgl : 0 < w.heap.size := World.block_lt_of_cell? _ _ hg
  have Hg : Hid (∀ A, (w.alloc A).cell? ⟨0, 0, none⟩ = some (.iface 153 (.agg #[.pointer (some ⟨1, 99, none⟩)]))) := fun A => by
    rw [World.cell?_alloc_lt _ _ ⟨0, 0, none⟩ hgl]; exact hg
  clear hg
  go_enter Tryz.func81, Tryz.ntmps81
  go_wp2_with fail
  refine (asTop_loose k w.heap.size (.int .i64 0) _ (Hg.out _) (by simp) (by simp)).mono ?_
  rintro e w' ⟨rfl, hc, hb⟩
  have HB : Hid (Below w.heap.size w w') := ((Below.refl _ _).alloc (Nat.le_refl _) _).trans hb
  clear hb
  go_wp2_with fail
  go_ret
  exact ⟨rfl, HB.out⟩

end Go.Proofs.YtkaokfmaecdkiaaGreatDoor
namespace Go.Proofs.YtkaokfmaecdkiaaGreatDoor
open Go.RowKit Go.Extern.Stop Go.Stop Go.Extern

set_option maxRecDepth 100000 in
set_option maxHeartbeats 4000000 in
theorem tellNet_loose (a : Option Addr) (n k : Nat) (c : Int) (w : World) (hg : NEt w) :
    Calls Tryz.prog 60 #[.slice a n k, looV c] w fun e w' => e = .returned (noV none 0 0 c 4) ∧ Below w.heap.size w w' := by
  obtain ⟨W, hW⟩ : ∃ W, W = (w.alloc (.cells #[.slice none 0 0, .int .i64 0, .int .i64 0] 31)).alloc (.cells #[.int .i64 0] 107) := ⟨_, rfl⟩
  have B0 : Hid (Below w.heap.size w W) := by rw [hW]; exact ((Below.refl _ _).alloc (Nat.le_refl _) _).alloc (by simp) _
  have R0 : Hid (W.rowIs w.heap.size 31 3 (rowN (noL none 0 0 0 0))) := by rw [hW]; exact nrow_below (rowN_alloc w _ _) (nbel_alloc _ _)
  have L0 : Hid (W.rowIs (w.heap.size + 1) 107 1 (rowN [.int .i64 0])) := by rw [hW]; exact rowN_alloc' (by simp) _ _
  have G0 : Hid (NEt W) := hg.below B0.out
  have GW := Lib.hid hg
  have HW := Lib.hid hW
  have gl0 : 0 < w.heap.size := World.block_lt_of_cell? _ _ hg
  have GL := Lib.hid gl0
  clear hW hg gl0
  go_enter Tryz.func60, Tryz.ntmps60
  go_wp2_with fail
  rw [← HW.out]
  refine (asLTop_hit c (w.heap.size + 1) (.int .i64 0) _ G0.out (L0.out.cell (by omega)) (L0.out.frozen 0)).mono ?_
  rintro e w1 ⟨rfl, hc, hb1⟩
  have B1 : Hid (Below w.heap.size w w1) := B0.out.trans (hb1.mono (by omega))
  have R1 : Hid (w1.rowIs w.heap.size 31 3 (rowN (noL none 0 0 0 0))) := R0.out.of_block (hb1.block _ (by omega))
  have L1 := Lib.hid hc
  clear hb1 hc B0 R0 L0 G0
  go_wp2_with fail
  refine wp_region_held_drew (S := fun V => Below w.heap.size w V ∧ V.cell? ⟨w.heap.size + 1, 0, none⟩ = some (.int .i64 c)) (by kernel_rfl) ⟨B1.out.drew, L1.out⟩ (fun hHeld => ?_)
  obtain ⟨Z, hZ⟩ : ∃ Z, Z = w1.drew := ⟨_, rfl⟩
  have RZ0 : Hid (Z.rowIs w.heap.size 31 3 (rowN (noL none 0 0 0 0))) := by rw [hZ]; exact nrow_below R1.out (Below.refl _ _).drew
  rw [← hZ] at hHeld ⊢
  clear hZ
  refine take_do (i := 0) (v := (.pointer (some ⟨w.heap.size + 1, 0, none⟩))) rfl (by kernel_rfl) (by kernel_rfl) (by kernel_rfl) (fun _ _ _ h => h) (by rfl) ?_ (by assumption) ?_
  · intro w hSw
    skip
    go_simp
  simp only [Act.put, List.setIfInBounds_toArray, List.set_cons_zero, List.set_cons_succ]
  refine take_do (i := 1) (v := (.int .i64 c)) rfl (by kernel_rfl) (by kernel_rfl) (by kernel_rfl) (fun _ _ _ h => h) (by rfl) ?_ (by assumption) ?_
  · intro w hSw
    have c0 := hSw.2
    go_simp
  simp only [Act.put, List.setIfInBounds_toArray, List.set_cons_zero, List.set_cons_succ]
  refine take_do (i := 2) (v := (looV c)) rfl (by kernel_rfl) (by kernel_rfl) (by kernel_rfl) (fun _ _ _ h => h) (by rfl) ?_ (by assumption) ?_
  · intro w hSw
    skip
    go_simp
  simp only [Act.put, List.setIfInBounds_toArray, List.set_cons_zero, List.set_cons_succ]
  refine take_call (i := 3) rfl (by kernel_rfl) (fun K2 hK => ?_)
  go_simp
  refine (codeOf_loose c _ ((hHeld.1.cell (p := ⟨0, 0, none⟩) GL.out).trans GW.out)).mono ?_
  rintro e Z1 ⟨rfl, hb⟩
  go_wp2_with fail
  have R2 := nrow_below RZ0.out hb
  refine hK.out _ _ ⟨hHeld.1.trans (hb.mono hHeld.1.size), (hb.cell (World.block_lt_of_cell? _ _ hHeld.2)).trans hHeld.2⟩ (fun hHeld2 => ?_)
  clear hK hHeld hb RZ0
  refine take_do (i := 4) (v := (noV none 0 0 c 4)) rfl (by kernel_rfl) (by kernel_rfl) (by kernel_rfl) (fun _ _ _ h => h) (by rfl) ?_ (hHeld2) ?_
  · intro w hSw
    skip
    go_simp
  simp only [Act.put, List.setIfInBounds_toArray, List.set_cons_zero, List.set_cons_succ]
  obtain ⟨⟨o0, o1, o2⟩, z0, z1, z2⟩ := rowN3 R2
  have l0 := R2.lt
  obtain ⟨WZ, hWZ⟩ : ∃ WZ, WZ = ((Z1.setCell ⟨w.heap.size, 0, none⟩ (.slice none 0 0)).setCell ⟨w.heap.size, 1, none⟩ (.int .i64 c)).setCell ⟨w.heap.size, 2, none⟩ (.int .i64 4) := ⟨_, rfl⟩
  have SZ : Hid (Below w.heap.size w WZ ∧ WZ.cell? ⟨w.heap.size + 1, 0, none⟩ = some (.int .i64 c)) := by
    rw [hWZ]
    refine ⟨((hHeld2.1.setCell (p := ⟨w.heap.size, 0, none⟩) (Nat.le_refl _) _).setCell (p := ⟨w.heap.size, 1, none⟩) (Nat.le_refl _) _).setCell (p := ⟨w.heap.size, 2, none⟩) (Nat.le_refl _) _, ?_⟩
    rw [World.cell?_setCell_other _ _ _ _ (by simp), World.cell?_setCell_other _ _ _ _ (by simp), World.cell?_setCell_other _ _ _ _ (by simp)]
    exact hHeld2.2
  have RZ : Hid (WZ.rowIs w.heap.size 31 3 (rowN (noL none 0 0 c 4))) := by rw [hWZ]; exact rowN_put (rowN_put (rowN_put R2 0 _ (by simp)) 1 _ (by simp)) 2 _ (by simp)
  have HWZ := Lib.hid hWZ
  clear hWZ R2
  refine take_call (i := 5) rfl (by kernel_rfl) (fun K2 hK => ?_)
  go_simp
  rw [← HWZ.out]
  refine hK.out _ _ SZ.out (fun hHeld3 => ?_)
  clear hK hHeld2 hHeld3 HWZ o0 o1 o2 z0 z1 z2 l0
  refine wpAnyH_done (by kernel_rfl) ?_ _
  go_wp2_with fail
  obtain ⟨⟨x0, x1, x2⟩, _⟩ := rowN3 RZ.out
  exact bodyPost_ret (v := noV none 0 0 c 4) (by simp [results, Tryz.results60, go_sem, x0, x1, x2]) rfl ⟨rfl, SZ.out.1⟩
set_option maxRecDepth 100000 in
set_option maxHeartbeats 4000000 in
theorem catch_loose (p : Nat) (c : Int) (w : World) (hr : w.rowIs p 31 3 (rowN (noL none 0 0 0 0))) (hg : NEt w) :
    CallsD Tryz.prog 59 #[.pointer (some ⟨p, 0, none⟩)] (.panicking [{ v := looV c, recovered := false }]) w fun e u' w' => e = .returned (.tuple #[]) ∧ u' = .panicking [{ v := looV c, recovered := true }] ∧ (w'.rowIs p 31 3 (rowN (noL none 0 0 c 4)) ∧ Below p w w') := by
  have yE := fun (v : Value) (xT : TypeId) (wx : World) => run_typeAssert_hasB (P := Tryz.prog) (t := 107) Tryz.underlying99 (by kernel_rfl) v xT wx
  refine callsD_of_wpS Tryz.func59 rfl fun c₀ cs hu => ?_
  apply wpS_seq
  apply wpS_region
  simp [wpOpsS, go_sem, recoverD, hu, Tryz.ntmps59, Exit.thenS, yE]
  apply wpS_seq
  apply wpS_region
  simp [wpOpsS, go_sem, Exit.thenS]
  refine wpS_cond (t := true) (by simp [Act.eval, Array.replicate]) ?_
  simp only [if_true]
  apply wpS_region
  simp [wpOpsS, go_sem]
  refine (tellNet_loose none 0 0 c w hg).mono ?_
  rintro e w1 ⟨rfl, hb⟩
  have R1 := nrow_below hr hb
  obtain ⟨⟨o0, o1, o2⟩, z0, z1, z2⟩ := rowN3 R1
  have l0 := R1.lt
  have RZ := rowN_put (rowN_put (rowN_put R1 0 (.slice none 0 0) (by simp)) 1 (.int .i64 c) (by simp)) 2 (.int .i64 4) (by simp)
  simp [go_sem, o0, o1, o2, z0, z1, z2, bodyPostS, results, Tryz.results59]
  exact ⟨RZ, (((hb.mono (Nat.le_of_lt hr.lt)).setCell (p := ⟨p, 0, none⟩) (Nat.le_refl _) _).setCell (p := ⟨p, 1, none⟩) (Nat.le_refl _) _).setCell (p := ⟨p, 2, none⟩) (Nat.le_refl _) _⟩
/-- What the reckoning of the heads comes to: a loose node that is thrown, or as any other. -/
def ReckL (B : Nat) (lo : Option Int) (code : Int) (N : Nat) (f : Nat → Int) (e : Ending) (w : World) : Prop := (∃ c, lo = some c ∧ e = .panicked [{ v := looV c, recovered := false }]) ∨ (lo = none ∧ Reck B code N f e w)
def ToldL (B : Nat) (lo : Option Int) (code : Int) (N : Nat) (f : Nat → Int) (e : Ending) (w : World) : Prop := (∃ c, lo = some c ∧ e = .returned (noV none 0 0 c 4)) ∨ (lo = none ∧ Told B code N f e w)
set_option maxRecDepth 100000 in
set_option maxHeartbeats 4000000 in
theorem catchSolve_any (caps : Array Value) (lo : Option Int) (code : Int) (N : Nat) (f : Nat → Int) (w : World) (hg : NEt w)
    (H : ∀ W, Below w.heap.size w W → Calls Tryz.prog 31 caps W fun e w' => ReckL W.heap.size lo code N f e w' ∧ Below W.heap.size W w') :
    Calls Tryz.prog 30 #[.func (.func 31) #[] caps] w fun e w' => ToldL w.heap.size lo code N f e w' ∧ Below w.heap.size w w' := by
  have hmf : ∀ (fn : Fn) (first cap : Array Value) (w : World), (Instr.makeFunc fn first cap).run Tryz.prog w = .ok (.func fn first cap) w := fun _ _ _ _ => rfl
  obtain ⟨W, hW⟩ : ∃ W, W = w.alloc (.cells #[.slice none 0 0, .int .i64 0, .int .i64 0] 31) := ⟨_, rfl⟩
  have B0 : Hid (Below w.heap.size w W) := by rw [hW]; exact nbel_alloc _ _
  have R0 : Hid (W.rowIs w.heap.size 31 3 (rowN (noL none 0 0 0 0))) := by rw [hW]; exact rowN_alloc w _ _
  have G0 : Hid (NEt W) := by rw [hW]; exact hg.below (nbel_alloc _ _)
  have HH := Lib.hid H
  have HW := Lib.hid hW
  clear hW H hg
  go_enter_defers Tryz.func30, Tryz.ntmps30
  go_wp2_with fail
  rw [← HW.out]
  refine (HH.out _ B0.out).mono ?_
  rintro e w1 ⟨hR, hb⟩
  have B1 : Hid (Below w.heap.size w w1) := B0.out.trans (hb.mono B0.out.size)
  have R1 := Lib.hid (nrow_below R0.out hb)
  have G1 := Lib.hid (G0.out.below hb)
  have Z0 := Lib.hid B0.out.size
  clear hb B0 R0 G0
  rcases hR with ⟨c0, hlo, rfl⟩ | ⟨hlo, ⟨hc, g, k, rfl, hg, hk⟩ | ⟨hc, s, rfl⟩⟩
  · have HLO := Lib.hid hlo
    clear hlo
    go_wp2_with fail
    refine leaves_cons (f := 59) (args := #[.pointer (some ⟨w.heap.size, 0, none⟩)]) (by simp) (by simp [go_sem]) ?_
    refine (catch_loose w.heap.size c0 _ R1.out G1.out).mono ?_
    rintro e u' w'' ⟨rfl, rfl, hr, hb⟩
    obtain ⟨⟨x0, x1, x2⟩, _⟩ := rowN3 hr
    simp [Leaves, settle, results, Tryz.results30, go_sem, x0, x1, x2]
    exact ⟨Or.inl ⟨c0, HLO.out, rfl⟩, B1.out.trans hb⟩
  · have HK := Lib.hid hk
    have hWs : W.heap.size = w.heap.size + 1 := by rw [HW.out]; simp
    have HG : Hid (w.heap.size ≤ g ∧ g ≠ w.heap.size) := ⟨Nat.le_trans Z0.out hg, by omega⟩
    clear hWs
    have HC := Lib.hid hc
    have HLO := Lib.hid hlo
    clear hk hg hc hlo
    go_wp2_with fail
    refine (tellNet_ok _ _ _ _).mono ?_
    rintro e w2 ⟨rfl, hb⟩
    have B2 : Hid (Below w.heap.size w w2) := B1.out.trans (hb.mono B1.out.size)
    have R2 := nrow_below R1.out hb
    have K2 := Lib.hid (HK.out.below hb)
    obtain ⟨⟨o0, o1, o2⟩, z0, z1, z2⟩ := rowN3 R2
    have l0 := R2.lt
    have RZ := Lib.hid (rowN_put (rowN_put (rowN_put R2 0 (.slice (some ⟨g, 0, none⟩) N k) (by simp)) 1 (.int .i64 0) (by simp)) 2 (.int .i64 0) (by simp))
    clear hb R2 R1 B1 HK
    go_wp2_with fail
    refine leaves_cons (f := 59) (args := #[.pointer (some ⟨w.heap.size, 0, none⟩)]) (by simp) (by simp [go_sem]) ?_
    refine (catch_idle ⟨w.heap.size, 0, none⟩ _).mono ?_
    rintro e u' w'' ⟨rfl, rfl, rfl⟩
    obtain ⟨⟨x0, x1, x2⟩, _⟩ := rowN3 RZ.out
    have hne := HG.out.2
    simp [Leaves, settle, results, Tryz.results30, go_sem, x0, x1, x2]
    refine ⟨Or.inr ⟨HLO.out, Or.inl ⟨HC.out, g, k, rfl, HG.out.1, K2.out.block ?_⟩⟩, ?_⟩
    · exact (Below.heap_setCell _ ⟨w.heap.size, 2, none⟩ _ _ hne).trans ((Below.heap_setCell _ ⟨w.heap.size, 1, none⟩ _ _ hne).trans (Below.heap_setCell _ ⟨w.heap.size, 0, none⟩ _ _ hne))
    · exact ((B2.out.setCell (p := ⟨w.heap.size, 0, none⟩) (Nat.le_refl _) _).setCell (p := ⟨w.heap.size, 1, none⟩) (Nat.le_refl _) _).setCell (p := ⟨w.heap.size, 2, none⟩) (Nat.le_refl _) _
  · have HC := Lib.hid hc
    have HLO := Lib.hid hlo
    clear hc hlo
    go_wp2_with fail
    refine leaves_cons (f := 59) (args := #[.pointer (some ⟨w.heap.size, 0, none⟩)]) (by simp) (by simp [go_sem]) ?_
    refine (catch_thrown w.heap.size s code _ R1.out G1.out).mono ?_
    rintro e u' w'' ⟨rfl, rfl, hr, hb⟩
    obtain ⟨⟨x0, x1, x2⟩, _⟩ := rowN3 hr
    simp [Leaves, settle, results, Tryz.results30, go_sem, x0, x1, x2]
    exact ⟨Or.inr ⟨HLO.out, Or.inr ⟨HC.out, rfl⟩⟩, B1.out.trans hb⟩
end Go.Proofs.YtkaokfmaecdkiaaGreatDoor
namespace Go.Proofs.YtkaokfmaecdkiaaGreatDoor
open Go Go.RowKit Go.Deep

namespace Nt
theorem held_of {n : Net} : ∀ k, looseTo n k = [] → ∀ j, j < k → held n j = true
  | 0, _, _, h => absurd h (Nat.not_lt_zero _)
  | k + 1, h, j, hj => by
    rw [looseTo, List.append_eq_nil_iff] at h
    by_cases e : j = k
    · subst e
      cases hh : held n j with
      | true => rfl
      | false => rw [hh] at h; exact absurd h.2 (by simp)
    · exact held_of k h.1 j (by omega)
/-- The first loose node. -/
noncomputable def svLo (n : Net) : Option Int := if @decide (Right n) (Classical.propDecidable _) = true then (loose n).head? else none
noncomputable def svAll (n : Net) : Int := if @decide (Right n) (Classical.propDecidable _) = true then svCode n else 1
theorem svLo_no {n : Net} (h : ¬ Right n) : svLo n = none := by unfold svLo; simp [h]
theorem svLo_yes {n : Net} (h : Right n) : svLo n = (loose n).head? := by unfold svLo; simp [h]
theorem svAll_no {n : Net} (h : ¬ Right n) : svAll n = 1 := by unfold svAll; simp [h]
theorem svAll_yes {n : Net} (h : Right n) : svAll n = svCode n := by unfold svAll; simp [h]
end Nt
set_option maxRecDepth 100000 in
set_option maxHeartbeats 8000000 in
theorem solveNet_any (n : Nt.Net) (la : Option Addr) (lk : Nat) (fa : Option Addr) (fk : Nat) (wa : Option Addr) (wk : Nat) (w : World) (h : NtAt n la fa wa w) (hs : NtSmall n) (hg : NEt w) :
    Calls Tryz.prog 32 #[ntV n la lk fa fk wa wk] w fun e w' => ReckL w.heap.size (Nt.svLo n) (Nt.svAll n) (Nt.nn n) (Nt.cells2 (Nt.svH n)) e w' ∧ Below w.heap.size w w' := by
  have HA := Lib.hid h
  have HG := Lib.hid hg
  have HSM := Lib.hid hs
  obtain ⟨W, hW⟩ : ∃ W, W = w.alloc (.cells #[.int .i64 n.nodes, .slice la n.ln lk, .slice fa n.fn fk, .slice wa n.wn wk] 27) := ⟨_, rfl⟩
  have S0 : Hid (NtS 27 n la lk fa fk wa wk w W) := by rw [hW]; exact NtS.new _ h
  have HW := Lib.hid hW
  clear h hg hs hW
  go_enter Tryz.func32, Tryz.ntmps32
  go_wp2_with fail
  rw [← HW.out]
  clear HW
  refine (implNet_any n la lk fa fk wa wk _ S0.out.at_ HSM.out).mono ?_
  rintro e w1 ⟨⟨b1, rfl, hb1⟩, hb⟩
  have S1 := Lib.hid (S0.out.below hb)
  have E1 := Lib.hid hb1
  clear hb hb1 S0
  obtain ⟨⟨r0, r1, r2, r3⟩, _⟩ := rowN4 S1.out.row
  cases b1 with
  | false =>
    have hnr : ¬ Nt.Right n := fun k => by have := E1.out.2 k; cases this
    have HC := Lib.hid (Nt.svAll_no hnr)
    have HL := Lib.hid (Nt.svLo_no hnr)
    clear hnr
    go_wp2_with fail
    exact ⟨rfl, Or.inr ⟨HL.out, Or.inr ⟨by rw [HC.out]; decide, _, by rw [HC.out]⟩⟩, S1.out.old⟩
  | true =>
  have HR : Hid (Nt.Right n) := E1.out.1 (by trivial)
  have HC := Lib.hid (Nt.svAll_yes HR.out)
  have HL := Lib.hid (Nt.svLo_yes HR.out)
  clear E1
  go_wp2_with fail
  refine (looseNodes_any n la lk fa fk wa wk _ S1.out.at_ HR.out).mono ?_
  rintro e w2 ⟨⟨lv, rfl, hown⟩, hb⟩
  have S2 := Lib.hid (S1.out.below hb)
  clear hb S1 r0 r1 r2 r3
  obtain ⟨⟨r0, r1, r2, r3⟩, _⟩ := rowN4 S2.out.row
  obtain ⟨av, cv, rfl⟩ := nown_shape hown
  cases hlo : Nt.loose n with
  | cons x l =>
    rw [hlo] at hown
    have HX : Hid (Nt.svLo n = some x) := by show _ = _; rw [HL.out, hlo]; rfl
    rcases hown.2 with ⟨e1, e2⟩ | ⟨g, cap, cur, e1, h2, _⟩
    · simp at e2
    injection e1 with a1 a2 a3
    subst a1
    have c0 := hown.cells (show Value.ownBlock (.slice (some ⟨g, 0, none⟩) (x :: l).length cv) = some g from rfl) 0 (.int .i64 x) (by simp [isVs])
    rw [Addr.add_lit, Nat.zero_add] at c0
    have hlen : (0 : Int) < (((x :: l).length : Nat) : Int) := by simp
    obtain ⟨L, hL⟩ : ∃ L, L = (x :: l).length := ⟨_, rfl⟩
    rw [← hL] at hlen ⊢
    clear hown h2 hlo hL a2 a3
    go_wp2_with fail
    exact ⟨rfl, Or.inl ⟨x, HX.out, rfl⟩, S2.out.old⟩
  | nil =>
  have HX : Hid (Nt.svLo n = none) := by show _ = _; rw [HL.out, hlo]; rfl
  have HHD : Hid (∀ j, j < Nt.nn n → Nt.held n j = true) := Nt.held_of _ hlo
  clear hown hlo HL
  go_wp2_with fail
  refine (knownHeads_any n la lk fa fk wa wk _ S2.out.at_ HR.out (HG.out.below S2.out.old)).mono ?_
  rintro e w3 ⟨⟨gh, rfl, hgh, hbk⟩, hb⟩
  have S3 := Lib.hid (S2.out.below hb)
  have I3 := Lib.hid hbk
  have HGH : Hid (w.heap.size ≤ gh) := Nat.le_trans S2.out.old.size hgh
  clear hb hbk hgh S2 r0 r1 r2 r3
  go_wp2_with fail
  refine (unknownNodes_any n gh (Nt.nn n) _ I3.out HR.out).mono ?_
  rintro e w4 ⟨⟨da, dk, rfl, hda, hdb⟩, hb⟩
  have S4 := Lib.hid (S3.out.below hb)
  have I4 := Lib.hid (I3.out.below hb)
  have D4 := Lib.hid hda
  have HDN : Hid (∀ k, da = some ⟨k, 0, none⟩ → k ≠ gh) := fun k e => by
    have h1 := hdb k e
    have h2 := I3.out.lt
    omega
  clear hb hda hdb S3 I3
  obtain ⟨⟨r0, r1, r2, r3⟩, _⟩ := rowN4 S4.out.row
  go_wp2_with fail
  refine (rowsOf_any n la lk fa fk wa wk da dk gh (Nt.nn n) _ S4.out.at_ D4.out I4.out HR.out (HG.out.below S4.out.old)).mono ?_
  rintro e w5 ⟨hE, hb⟩
  have S5 := Lib.hid (S4.out.below hb)
  have I5 := Lib.hid (I4.out.below hb)
  have D5 := Lib.hid (D4.out.below hb)
  have H45 : Hid (gh < w4.heap.size ∧ w.heap.size ≤ w4.heap.size ∧ ∀ k, da = some ⟨k, 0, none⟩ → Nt.mm n = 0 ∨ k < w4.heap.size) := ⟨I4.out.lt, S4.out.old.size, fun k e => by
    by_cases hz : Nt.mm n = 0
    · exact Or.inl hz
    · obtain ⟨y, ey, cy⟩ := D4.out.at1 (show 0 < Nt.mm n by omega)
      rw [e] at ey
      cases ey
      have := World.block_lt_of_cell? _ _ cy
      exact Or.inr this⟩
  clear hb S4 I4 D4 r0 r1 r2 r3
  rcases hE with ⟨hrhs, gr, gc, rfl, hgr, hgc, hne, hrow, hcc⟩ | ⟨hno, s9, rfl⟩
  case inr =>
    have HCN : Hid (Nt.svAll n = 5) := by show _ = _; rw [HC.out]; exact Nt.svCode_no (fun k => hno k.rhs)
    clear hno
    go_wp2_with fail
    exact ⟨rfl, Or.inr ⟨HX.out, Or.inr ⟨by rw [HCN.out]; decide, _, by rw [HCN.out]⟩⟩, S5.out.old⟩
  have HRH := Lib.hid hrhs
  have HGR := Lib.hid hgr
  have HGC := Lib.hid hgc
  have HNE := Lib.hid hne
  have HRW := Lib.hid hrow
  have HCC := Lib.hid hcc
  clear hrhs hgr hgc hne hrow hcc
  obtain ⟨hnn, hn1, hn2⟩ := HR.out.nn
  have hm12 : Nt.mm n ≤ Nt.nn n := by have := Nt.freeTo_len n (Nt.nn n); unfold Nt.mm Nt.free; omega
  have HM := Lib.hid hm12
  have HN2 := Lib.hid hn2
  clear hnn hn1 hn2 hm12
  go_wp2_with fail
  refine (eliminate_any gr gc (Nt.mm n) (Nt.mm n) (Nt.U0 n) w _ S5.out.old (by have := HGC.out; have := H45.out.2.1; omega) HRW.out HCC.out HNE.out (by have := HM.out; have := HN2.out; omega) (Nt.U0_right HR.out HRH.out) (Nt.U0_sure HR.out HHD.out) HG.out).mono ?_
  rintro e w6 ⟨hE, hF⟩
  rcases hE with ⟨hgd, rfl, hcc⟩ | ⟨hno, s9, rfl⟩
  case inr =>
    have HCN : Hid (Nt.svAll n = 5) := by show _ = _; rw [HC.out]; exact Nt.svCode_no (fun k => hno k.el)
    have HB := Lib.hid hF.bel
    clear hno hF
    go_wp2_with fail
    exact ⟨rfl, Or.inr ⟨HX.out, Or.inr ⟨by rw [HCN.out]; decide, _, by rw [HCN.out]⟩⟩, HB.out⟩
  have HGN : Hid (gr ≠ gh ∧ gc ≠ gh) := ⟨by have := HGR.out; have := H45.out.1; omega, by have := HGC.out; have := H45.out.1; omega⟩
  have HP := Lib.hid (Nt.Um_piv HR.out HHD.out HRH.out hgd)
  have HGD := Lib.hid hgd
  have D6 : Hid (IsAt da (Nt.mm n) (fun r => (Nt.nd n r : Int)) w6) := by
    by_cases hz : Nt.mm n = 0
    · exact Or.inl hz
    · exact D5.out.same (fun k e hk => hF.same k (by
        rcases H45.out.2.2 k e with h1 | h1
        · exact absurd h1 hz
        · have := HGC.out; omega) hk)
  have F6 : Hid (FhS gr gc gh da n w w6 w6) := ⟨⟨hF.bel, Nat.le_refl _, fun _ _ _ => rfl⟩, hF.row HRW.out HNE.out, hcc, D6.out⟩
  have I6 : Hid (IsBlk 35 gh (Nt.nn n * 2) (Nt.cells2 (Nt.hv n 0)) w6) := hF.blk I5.out (fun e => HGN.out.2 e.symm)
  have HB6 := Lib.hid hF.bel
  clear hF hcc hgd D6
  go_wp2_with fail
  refine (fillHeads_any gr gc gh (Nt.nn n) da dk (Nt.mm n) n w _ F6.out HGH.out I6.out ⟨HGN.out.1, HGN.out.2, HDN.out⟩ HM.out HN2.out HP.out.1 HP.out.2 HG.out).mono ?_
  rintro e w7 ⟨hE, hF⟩
  have HB7 := Lib.hid hF.bel
  clear hF
  rcases hE with ⟨hhd, rfl, hbk⟩ | ⟨hno, s9, rfl⟩
  case inr =>
    have HCN : Hid (Nt.svAll n = 5) := by show _ = _; rw [HC.out]; exact Nt.svCode_no (fun k => hno k.hd)
    clear hno
    go_wp2_with fail
    exact ⟨rfl, Or.inr ⟨HX.out, Or.inr ⟨by rw [HCN.out]; decide, _, by rw [HCN.out]⟩⟩, HB7.out⟩
  have HCN : Hid (Nt.svAll n = 0) := by show _ = _; rw [HC.out]; exact Nt.svCode_ok ⟨HRH.out, HGD.out, hhd⟩
  have I7 := Lib.hid hbk
  clear hhd hbk
  go_wp2_with fail
  go_ret
  exact ⟨Or.inr ⟨HX.out, Or.inl ⟨HCN.out, gh, _, rfl, HGH.out, I7.out⟩⟩, HB7.out⟩
end Go.Proofs.YtkaokfmaecdkiaaGreatDoor
namespace Go.Proofs.YtkaokfmaecdkiaaGreatDoor
open Go Go.RowKit Go.Deep

set_option maxRecDepth 100000 in
set_option maxHeartbeats 4000000 in
theorem solve1_any (n : Nt.Net) (la : Option Addr) (lk : Nat) (fa : Option Addr) (fk : Nat) (wa : Option Addr) (wk : Nat) (gn : Nat) (w : World) (h : NtAt n la fa wa w) (hs : NtSmall n) (hg : NEt w) (r1 : w.rowIs gn 27 4 (rowN (ntL n la lk fa fk wa wk))) :
    Calls Tryz.prog 31 #[.pointer (some ⟨gn, 0, none⟩)] w fun e w' => ReckL w.heap.size (Nt.svLo n) (Nt.svAll n) (Nt.nn n) (Nt.cells2 (Nt.svH n)) e w' ∧ Below w.heap.size w w' := by
  obtain ⟨⟨c0, c1, c2, c3⟩, _⟩ := rowN4 r1
  have HX := Lib.hid (solveNet_any n la lk fa fk wa wk w h hs hg)
  clear r1 h hs hg
  go_enter Tryz.func31, Tryz.ntmps31
  go_wp2_with fail
  refine HX.out.mono ?_
  rintro e w1 ⟨hR, hb⟩
  have HB := Lib.hid hb
  have HR := Lib.hid hR
  clear hb
  rcases hR with ⟨c, hc, rfl⟩ | ⟨hl, ⟨hc, g, k, rfl, hg, hk⟩ | ⟨hc, s, rfl⟩⟩
  · clear hc
    go_wp2_with fail
    exact ⟨rfl, HR.out, HB.out⟩
  · clear hl hc hg hk
    go_wp2_with fail
    go_ret
    exact ⟨HR.out, HB.out⟩
  · clear hl hc
    go_wp2_with fail
    exact ⟨rfl, HR.out, HB.out⟩
set_option maxRecDepth 100000 in
set_option maxHeartbeats 4000000 in
theorem implNetSolve_any (n : Nt.Net) (la : Option Addr) (lk : Nat) (fa : Option Addr) (fk : Nat) (wa : Option Addr) (wk : Nat) (w : World) (h : NtAt n la fa wa w) (hs : NtSmall n) (hg : NEt w) :
    Calls Tryz.prog 7 #[ntV n la lk fa fk wa wk] w fun e w' => ToldL w.heap.size (Nt.svLo n) (Nt.svAll n) (Nt.nn n) (Nt.cells2 (Nt.svH n)) e w' ∧ Below w.heap.size w w' := by
  have hmf : ∀ (fn : Fn) (first cap : Array Value) (w : World), (Instr.makeFunc fn first cap).run Tryz.prog w = .ok (.func fn first cap) w := fun _ _ _ _ => rfl
  obtain ⟨W, hW⟩ : ∃ W, W = (w.alloc (.cells #[.int .i64 n.nodes, .slice la n.ln lk, .slice fa n.fn fk, .slice wa n.wn wk] 27)).alloc (.cells #[.slice none 0 0, .int .i64 0, .int .i64 0] 31) := ⟨_, rfl⟩
  have B0 : Below w.heap.size w W := by rw [hW]; exact ((Below.refl _ _).alloc (Nat.le_refl _) _).alloc (by simp) _
  have R1 : W.rowIs w.heap.size 27 4 (rowN (ntL n la lk fa fk wa wk)) := by rw [hW]; exact nrow_below (rowN_alloc w _ _) (nbel_alloc _ _)
  have R3 : Hid (W.rowIs (w.heap.size + 1) 31 3 (rowN (noL none 0 0 0 0))) := by rw [hW]; exact rowN_alloc' (by simp) _ _
  have HCT := Lib.hid (catchSolve_any #[.pointer (some ⟨w.heap.size, 0, none⟩)] (Nt.svLo n) (Nt.svAll n) (Nt.nn n) (Nt.cells2 (Nt.svH n)) W (hg.below B0) (fun V hV => solve1_any n la lk fa fk wa wk _ V ((h.below B0).below hV) hs ((hg.below B0).below hV) (nrow_below R1 hV)))
  have HB0 := Lib.hid B0
  have HW := Lib.hid hW
  have hWs : W.heap.size = w.heap.size + 2 := by rw [hW]; simp
  have HWS := Lib.hid hWs
  clear hW h hs hg B0 R1 hWs
  go_enter Tryz.func7, Tryz.ntmps7
  go_wp2_with fail
  rw [← HW.out]
  refine HCT.out.mono ?_
  rintro e w1 ⟨hT, hb⟩
  have B1 : Hid (Below w.heap.size w w1) := HB0.out.trans (hb.mono HB0.out.size)
  have R4 := Lib.hid (nrow_below R3.out hb)
  clear hb HCT
  have HBX : Hid (∀ v0 v1 v2 : Value, Below w.heap.size w (((w1.setCell ⟨w.heap.size + 1, 0, none⟩ v0).setCell ⟨w.heap.size + 1, 1, none⟩ v1).setCell ⟨w.heap.size + 1, 2, none⟩ v2)) := fun v0 v1 v2 => ((B1.out.setCell (p := ⟨w.heap.size + 1, 0, none⟩) (by show w.heap.size ≤ w.heap.size + 1; omega) _).setCell (p := ⟨w.heap.size + 1, 1, none⟩) (by show w.heap.size ≤ w.heap.size + 1; omega) _).setCell (p := ⟨w.heap.size + 1, 2, none⟩) (by show w.heap.size ≤ w.heap.size + 1; omega) _
  obtain ⟨⟨o0, o1, o2⟩, z0, z1, z2⟩ := rowN3 R4.out
  have l0 := R4.out.lt
  rcases hT with ⟨c, hlo, rfl⟩ | ⟨hlo, ⟨hc, g, k, rfl, hg, hk⟩ | ⟨hc, rfl⟩⟩
  · have HL := Lib.hid hlo
    clear hlo
    go_wp2_with fail
    obtain ⟨⟨x0, x1, x2⟩, _⟩ := rowN3 (rowN_put (rowN_put (rowN_put R4.out 0 (.slice none 0 0) (by simp)) 1 (.int .i64 c) (by simp)) 2 (.int .i64 4) (by simp))
    exact bodyPost_ret (v := noV none 0 0 c 4) (by simp [results, Tryz.results7, go_sem, x0, x1, x2]) rfl ⟨Or.inl ⟨c, HL.out, rfl⟩, HBX.out _ _ _⟩
  · have hne : g ≠ w.heap.size + 1 := by have := HWS.out; omega
    have HNE := Lib.hid hne
    have HK := Lib.hid hk
    have HC := Lib.hid hc
    have HGB : Hid (w.heap.size ≤ g) := Nat.le_trans HB0.out.size hg
    have HL := Lib.hid hlo
    clear hne hk hc hg hlo
    go_wp2_with fail
    obtain ⟨⟨x0, x1, x2⟩, _⟩ := rowN3 (rowN_put (rowN_put (rowN_put R4.out 0 (.slice (some ⟨g, 0, none⟩) (Nt.nn n) k) (by simp)) 1 (.int .i64 0) (by simp)) 2 (.int .i64 0) (by simp))
    refine bodyPost_ret (v := noV (some ⟨g, 0, none⟩) (Nt.nn n) k 0 0) (by simp [results, Tryz.results7, go_sem, x0, x1, x2]) rfl ⟨Or.inr ⟨HL.out, Or.inl ⟨HC.out, g, k, rfl, HGB.out, HK.out.block ?_⟩⟩, HBX.out _ _ _⟩
    exact (Below.heap_setCell _ ⟨w.heap.size + 1, 2, none⟩ _ _ HNE.out).trans ((Below.heap_setCell _ ⟨w.heap.size + 1, 1, none⟩ _ _ HNE.out).trans (Below.heap_setCell _ ⟨w.heap.size + 1, 0, none⟩ _ _ HNE.out))
  · have HC := Lib.hid hc
    have HL := Lib.hid hlo
    clear hc hlo
    go_wp2_with fail
    obtain ⟨⟨x0, x1, x2⟩, _⟩ := rowN3 (rowN_put (rowN_put (rowN_put R4.out 0 (.slice none 0 0) (by simp)) 1 (.int .i64 0) (by simp)) 2 (.int .i64 (Nt.svAll n)) (by simp))
    exact bodyPost_ret (v := noV none 0 0 0 (Nt.svAll n)) (by simp [results, Tryz.results7, go_sem, x0, x1, x2]) rfl ⟨Or.inr ⟨HL.out, Or.inr ⟨HC.out, rfl⟩⟩, HBX.out _ _ _⟩
end Go.Proofs.YtkaokfmaecdkiaaGreatDoor
