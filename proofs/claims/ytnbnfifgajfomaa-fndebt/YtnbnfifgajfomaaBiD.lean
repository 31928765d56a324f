/-
  The parts of a debt: the program's and the model's.
-/
import Derived.Test.YtnbnfifgajfomaaBiQx
import Derived.Test.YtnbnfifgajfomaaBiMath
import Derived.Test.YtnbnfifgajfomaaBiW
namespace Go.Proofs.Ytnbnfifgajfomaa
open Go.RowKit Go.Deep

namespace Bi
noncomputable def dN (d m : Int) : Nat := if dB (DebtOk d m) = true then m.toNat else 0
theorem dN_ok {d m : Int} (h : DebtOk d m) : dN d m = m.toNat := by unfold dN; rw [dB_tt h]; rfl
theorem dN_no {d m : Int} (h : ¬ DebtOk d m) : dN d m = 0 := by unfold dN; rw [dB_ff h]; rfl
theorem dN_le (d m : Int) : dN d m ≤ 120 := by
  by_cases h : DebtOk d m
  · rw [dN_ok h]; have := h.2; omega
  · rw [dN_no h]; omega
end Bi
theorem biinfo_i64 : (Try.prog.info? 2).map (fun i => (i.zero, i.size, i.bytes)) = some (some (.int .i64 0), 1, 8) := by kernel_rfl
abbrev bimkO (n : Nat) : Obj := .cells (madeCells #[.int .i64 0] n) 2
/-- The parts, told. -/
def DebtEnd (B : Nat) (d m : Int) (e : Ending) (W : World) : Prop := ∃ a c, e = .returned (.slice a (Bi.dN d m) c) ∧ QsOwn B (Bi.dN d m) a c (Bi.debt d m) W
set_option maxRecDepth 100000 in
set_option maxHeartbeats 2000000 in
theorem implDebt_any (d m : Int) (w : World) :
    Calls Try.prog 8 #[.int .i64 d, .int .i64 m] w fun e w' => DebtEnd w.heap.size d m e w' ∧ Below w.heap.size w w' := by
  by_cases c1 : 0 ≤ d ∧ d ≤ 1000000000
  case neg =>
    have HE : Hid (Bi.dN d m = 0) := Bi.dN_no (fun h => c1 h.1)
    go_enter Try.func8, Try.ntmps8
    go_wp2_with fail
    refine (awithin_any _ _ _).mono ?_
    rintro e w1 ⟨rfl, rfl⟩
    rw [decide_eq_false c1]
    clear c1
    go_wp2_with fail
    go_ret
    exact ⟨⟨none, 0, by rw [HE.out]; rfl, Or.inl ⟨rfl, HE.out, rfl⟩⟩, Below.refl _ _⟩
  by_cases c2 : 1 ≤ m ∧ m ≤ 120
  case neg =>
    have HE : Hid (Bi.dN d m = 0) := Bi.dN_no (fun h => c2 h.2)
    go_enter Try.func8, Try.ntmps8
    go_wp2_with fail
    refine (awithin_any _ _ _).mono ?_
    rintro e w1 ⟨rfl, rfl⟩
    rw [decide_eq_true c1]
    clear c1
    go_wp2_with fail
    refine (biholds_any _ _ _ _).mono ?_
    rintro e w2 ⟨rfl, hb⟩
    rw [decide_eq_false c2]
    have HB := Lib.hid hb
    clear c2 hb
    go_wp2_with fail
    go_ret
    exact ⟨⟨none, 0, by rw [HE.out]; rfl, Or.inl ⟨rfl, HE.out, rfl⟩⟩, HB.out⟩
  obtain ⟨M, hM⟩ : ∃ M : Nat, m = (M : Int) := ⟨m.toNat, by omega⟩
  subst hM
  have hM1 : 1 ≤ M ∧ M ≤ 120 := by omega
  have HE : Hid (Bi.dN d (M : Int) = M) := by show _ = _; rw [Bi.dN_ok ⟨c1, c2⟩]; simp
  have hmk := run_make_row' (P := Try.prog) 25 2 (.int .i64 0) 8 Try.underlying25 biinfo_i64 rfl .i64 .i64 M (by omega) (by omega)
  have HC1 := Lib.hid c1
  have HC2 := Lib.hid c2
  obtain ⟨q, hq⟩ : ∃ q, q = d / (M : Int) := ⟨_, rfl⟩
  obtain ⟨r, hr⟩ : ∃ r, r = d % (M : Int) := ⟨_, rfl⟩
  have hqt : d.tdiv (M : Int) = q := by rw [hq, Int.tdiv_eq_ediv_of_nonneg c1.1]
  have hrt : d.tmod (M : Int) = r := by rw [hr, Int.tmod_eq_emod_of_nonneg c1.1]
  have hq0 : 0 ≤ q ∧ q ≤ 1000000000 := by
    rw [hq]
    have h1 : 0 ≤ d / (M : Int) := Int.ediv_nonneg c1.1 (by omega)
    have h2 : d / (M : Int) ≤ d := Int.ediv_le_self _ c1.1
    omega
  have hr0 : 0 ≤ r ∧ r < 120 := by
    rw [hr]
    have h1 := Int.emod_nonneg d (show (M : Int) ≠ 0 by omega)
    have h2 := Int.emod_lt_of_pos d (show (0 : Int) < M by omega)
    omega
  have HV : Hid (∀ i : Nat, Bi.debt d (M : Int) i = if (i : Int) < r then q + 1 else q) := by
    intro i
    unfold Bi.debt
    rw [hq, hr]
  have hM0 : ((M : Int) == 0) = false := by simp; omega
  have hq1 : d / (M : Int) = q := hq.symm
  have hr1 : d % (M : Int) = r := hr.symm
  clear hq hr c1 c2
  go_enter Try.func8, Try.ntmps8
  go_wp2_with fail
  refine (awithin_any _ _ _).mono ?_
  rintro e w1 ⟨rfl, rfl⟩
  rw [decide_eq_true HC1.out]
  go_wp2_with fail
  refine (biholds_any _ _ _ _).mono ?_
  rintro e w2 ⟨rfl, hb⟩
  rw [decide_eq_true HC2.out]
  have HB := Lib.hid hb
  clear hb
  have HST : Hid (IsPart 2 w2.heap.size M 0 (Bi.debt d (M : Int)) (w2.alloc (bimkO M))) := ⟨_, World.rowIs_made w2 (.int .i64 0) M 2, fun j hj => absurd hj (by omega)⟩
  go_wp2_with fail
  clear hmk
  go_loopw [19] (fun iv wr => ∃ (i : Nat), i ≤ M ∧ iv = .int .i64 i ∧ Hid (IsPart 2 w2.heap.size M i (Bi.debt d (M : Int)) wr) ∧ Hid (Below w2.heap.size w2 wr)) (fun iv _ => M - (intOf iv).toNat)
  case atStart => exact ⟨0, Nat.zero_le _, rfl, HST, (Below.refl _ _).alloc (Nat.le_refl _) _⟩
  case round =>
    obtain ⟨i, hi, rfl, hP, hB⟩ := hrel
    clear HST
    by_cases hlt : i < M
    · have hltz : (i : Int) < (M : Int) := by omega
      obtain ⟨v0, y0⟩ := hP.out.cell (j := i) (by omega)
      have z0 := hP.out.frozen i
      have hz : w2.heap.size < wr.heap.size := hP.out.lt
      by_cases hir : (i : Int) < r
      · have HP2 : Hid (IsPart 2 w2.heap.size M (i + 1) (Bi.debt d (M : Int)) ((wr.setCell ⟨w2.heap.size, i, none⟩ (.int .i64 q)).setCell ⟨w2.heap.size, i, none⟩ (.int .i64 (q + 1)))) := by
          obtain ⟨F, h1, h2⟩ := hP.out
          exact IsPart.put ⟨_, h1.set i _, fun j hj => by
            have : j ≠ i := by omega
            simp only [this, if_false]; exact h2 j hj⟩ (q + 1) (by rw [HV.out, if_pos hir])
        clear hP
        go_wp2_with fail
        go_roundw
        case rel => exact ⟨i + 1, by omega, by go_num, HP2, (hB.out.setCell (p := ⟨w2.heap.size, i, none⟩) (Nat.le_refl _) _).setCell (p := ⟨w2.heap.size, i, none⟩) (Nat.le_refl _) _⟩
        case measure => simp [intOf]; omega
      · have HP2 : Hid (IsPart 2 w2.heap.size M (i + 1) (Bi.debt d (M : Int)) (wr.setCell ⟨w2.heap.size, i, none⟩ (.int .i64 q))) := hP.out.put q (by rw [HV.out, if_neg hir])
        clear hP
        go_wp2_with fail
        go_roundw
        case rel => exact ⟨i + 1, by omega, by go_num, HP2, hB.out.setCell (p := ⟨w2.heap.size, i, none⟩) (Nat.le_refl _) _⟩
        case measure => simp [intOf]; omega
    · obtain rfl : i = M := by omega
      go_wp2_with fail
      go_ret
      exact ⟨⟨_, i, by rw [HE.out]; rfl, Or.inr ⟨_, 0, rfl, HB.out.size, by
        obtain ⟨F, h1, h2⟩ := hP.out
        exact ⟨i, F, by rw [HE.out]; omega, h1, fun j hj => by rw [HE.out] at hj; rw [Nat.zero_add]; exact h2 j hj⟩⟩⟩, HB.out.trans (hB.out.mono HB.out.size)⟩
/-- So many parts, as a list. -/
def Bi.dl (d m : Int) (i : Nat) : List Int := (List.range i).map (Bi.debt d m)
theorem Bi.dl_succ (d m : Int) (i : Nat) : Bi.dl d m (i + 1) = Bi.dl d m i ++ [Bi.debt d m i] := by simp [Bi.dl, List.range_succ]
theorem Bi.dl_len (d m : Int) (i : Nat) : (Bi.dl d m i).length = i := by simp [Bi.dl]
theorem Bi.dl_at (d m : Int) (i j : Nat) (h : j < i) : qf (Bi.dl d m i) j = Bi.debt d m j := by simp [Bi.dl, qf, h]
theorem qnew (B : Nat) (w : World) (h : B ≤ w.heap.size) : OwnQ B (.slice (some ⟨w.heap.size, 0, none⟩) 0 0) [] (w.alloc (.cells #[] 2)) :=
  Or.inr ⟨w.heap.size, 0, 0, 0, fun _ => undef, rfl, h, Nat.le_refl _, Nat.le_refl _, ⟨#[], heap_alloc_new w _, rfl, fun i hi => absurd hi (by omega)⟩, fun j hj => absurd hj (by simp)⟩
set_option maxRecDepth 100000 in
set_option maxHeartbeats 2000000 in
theorem specDebt_any (d m : Int) (w : World) :
    Calls Try.prog 7 #[.int .i64 d, .int .i64 m] w fun e w' => DebtEnd w.heap.size d m e w' ∧ Below w.heap.size w w' := by
  have HN := Lib.hid (qnew w.heap.size w (Nat.le_refl _))
  have HB0 := Lib.hid (nbel_alloc w (.cells #[] 2))
  by_cases c1 : Bi.DebtOk d m
  case neg =>
    have HE : Hid (Bi.dN d m = 0) := Bi.dN_no c1
    have HX : Hid (QsOwn w.heap.size 0 (some ⟨w.heap.size, 0, none⟩) 0 (Bi.debt d m) (w.alloc (.cells #[] 2))) := by
      obtain ⟨a, c, e, h⟩ := HN.out.qs
      cases e
      exact h.congr (fun j hj => absurd hj (by simp))
    unfold Bi.DebtOk at c1
    clear HN
    by_cases k1 : d < 0
    · go_enter Try.func7, Try.ntmps7
      go_wp2_with fail
      go_ret
      exact ⟨⟨_, 0, by rw [HE.out]; rfl, by rw [HE.out]; exact HX.out⟩, HB0.out⟩
    by_cases k2 : 1000000000 < d
    · go_enter Try.func7, Try.ntmps7
      go_wp2_with fail
      go_ret
      exact ⟨⟨_, 0, by rw [HE.out]; rfl, by rw [HE.out]; exact HX.out⟩, HB0.out⟩
    by_cases k3 : m < 1
    · go_enter Try.func7, Try.ntmps7
      go_wp2_with fail
      go_ret
      exact ⟨⟨_, 0, by rw [HE.out]; rfl, by rw [HE.out]; exact HX.out⟩, HB0.out⟩
    have k4 : 120 < m := by omega
    go_enter Try.func7, Try.ntmps7
    go_wp2_with fail
    go_ret
    exact ⟨⟨_, 0, by rw [HE.out]; rfl, by rw [HE.out]; exact HX.out⟩, HB0.out⟩
  have HOK := Lib.hid c1
  obtain ⟨c1, c2⟩ := c1
  obtain ⟨M, hM⟩ : ∃ M : Nat, m = (M : Int) := ⟨m.toNat, by omega⟩
  subst hM
  have hM1 : 1 ≤ M ∧ M ≤ 120 := by omega
  have HE : Hid (Bi.dN d (M : Int) = M) := by show _ = _; rw [Bi.dN_ok ⟨c1, c2⟩]; simp
  obtain ⟨i1, hi1, hy0, hy1, hy2⟩ := info_parts biinfo_i64
  obtain ⟨q, hq⟩ : ∃ q, q = d / (M : Int) := ⟨_, rfl⟩
  obtain ⟨r, hr⟩ : ∃ r, r = d % (M : Int) := ⟨_, rfl⟩
  have hqt : d.tdiv (M : Int) = q := by rw [hq, Int.tdiv_eq_ediv_of_nonneg c1.1]
  have hrt : d.tmod (M : Int) = r := by rw [hr, Int.tmod_eq_emod_of_nonneg c1.1]
  have hq0 : 0 ≤ q ∧ q ≤ 1000000000 := by
    rw [hq]
    have h1 : 0 ≤ d / (M : Int) := Int.ediv_nonneg c1.1 (by omega)
    have h2 : d / (M : Int) ≤ d := Int.ediv_le_self _ c1.1
    omega
  have hr0 : 0 ≤ r ∧ r < 120 := by
    rw [hr]
    have h1 := Int.emod_nonneg d (show (M : Int) ≠ 0 by omega)
    have h2 := Int.emod_lt_of_pos d (show (0 : Int) < M by omega)
    omega
  have HV : Hid (∀ i : Nat, Bi.debt d (M : Int) i = if (i : Int) < r then q + 1 else q) := by
    intro i
    unfold Bi.debt
    rw [hq, hr]
  have hM0 : ((M : Int) == 0) = false := by simp; omega
  have hq1 : d / (M : Int) = q := hq.symm
  have hr1 : d % (M : Int) = r := hr.symm
  have k1 : ¬ d < 0 := by omega
  have k2 : ¬ 1000000000 < d := by omega
  have k3 : ¬ (M : Int) < 1 := by omega
  have k4 : ¬ 120 < (M : Int) := by omega
  clear hq hr c1 c2
  go_enter Try.func7, Try.ntmps7
  go_wp2_with fail
  go_loopw [5, 6] (fun ov iv wr => ∃ (i : Nat), i ≤ M ∧ iv = .int .i64 i ∧ Hid (OwnQ w.heap.size ov (Bi.dl d (M : Int) i) wr) ∧ Hid (Below w.heap.size w wr)) (fun _ iv _ => M - (intOf iv).toNat)
  case atStart => exact ⟨0, Nat.zero_le _, rfl, HN, HB0⟩
  case round =>
    obtain ⟨i, hi, rfl, hO, hB⟩ := hrel
    clear HN
    by_cases hlt : i < M
    · have hltz : (i : Int) < (M : Int) := by omega
      obtain ⟨av, cv, rfl, _⟩ := hO.out.shape
      by_cases hir : (i : Int) < r
      · have HD : Hid (Bi.dl d (M : Int) (i + 1) = Bi.dl d (M : Int) i ++ [q + 1]) := by show _ = _; rw [Bi.dl_succ, HV.out, if_pos hir]
        go_wp2_with (at_builtin; refine wpList_append_q _ rfl _ _ 25 rfl i1 Try.underlying25 hi1 hy0 hy1 hy2 w.heap.size _ (Bi.dl d (M : Int) i) rfl (hO.out.below (nbel_alloc _ _)) (by rw [Bi.dl_len]; omega) (by have := hB.out.size; simp; omega) ⟨wr.heap.size, 0, none⟩ 1 (q + 1) rfl ?a1 ?_)
        try (case a1 => simp)
        intro v' W3 hown hgrow hat
        have HO3 : Hid (OwnQ w.heap.size v' (Bi.dl d (M : Int) (i + 1)) W3) := by show OwnQ _ _ _ _; rw [HD.out]; exact hown
        have HB3 : Hid (Below w.heap.size w W3) := (hB.out.alloc hB.out.size _).grown hgrow (by have := hB.out.size; simp; omega) (fun k hk => (hO.out.lt hk).1)
        clear hown hgrow hat hO hB HD
        go_wp2_with fail
        go_roundw
        case rel => exact ⟨i + 1, by omega, by go_num, HO3, HB3⟩
        case measure => simp [intOf]; omega
      · have HD : Hid (Bi.dl d (M : Int) (i + 1) = Bi.dl d (M : Int) i ++ [q]) := by show _ = _; rw [Bi.dl_succ, HV.out, if_neg hir]
        go_wp2_with (at_builtin; refine wpList_append_q _ rfl _ _ 25 rfl i1 Try.underlying25 hi1 hy0 hy1 hy2 w.heap.size _ (Bi.dl d (M : Int) i) rfl (hO.out.below (nbel_alloc _ _)) (by rw [Bi.dl_len]; omega) (by have := hB.out.size; simp; omega) ⟨wr.heap.size, 0, none⟩ 1 q rfl ?b1 ?_)
        try (case b1 => simp)
        intro v' W3 hown hgrow hat
        have HO3 : Hid (OwnQ w.heap.size v' (Bi.dl d (M : Int) (i + 1)) W3) := by show OwnQ _ _ _ _; rw [HD.out]; exact hown
        have HB3 : Hid (Below w.heap.size w W3) := (hB.out.alloc hB.out.size _).grown hgrow (by have := hB.out.size; simp; omega) (fun k hk => (hO.out.lt hk).1)
        clear hown hgrow hat hO hB HD
        go_wp2_with fail
        go_roundw
        case rel => exact ⟨i + 1, by omega, by go_num, HO3, HB3⟩
        case measure => simp [intOf]; omega
    · obtain rfl : i = M := by omega
      obtain ⟨a, c, e, h⟩ := hO.out.qs
      subst e
      rw [Bi.dl_len] at h ⊢
      have HQ : Hid (QsOwn w.heap.size i a c (Bi.debt d (i : Int)) wr) := h.congr (fun j hj => Bi.dl_at _ _ _ _ hj)
      clear h hO
      go_wp2_with fail
      go_ret
      exact ⟨⟨a, c, by rw [HE.out]; rfl, by rw [HE.out]; exact HQ.out⟩, hB.out⟩
end Go.Proofs.Ytnbnfifgajfomaa
