/-
  The contracts of the copy of a fraction, of both packages' test of a right one, and of the program's lowest terms.
-/
import Derived.Test.YtkaokfmaecdkiaaGreatDoorErr
namespace Go.Proofs.YtkaokfmaecdkiaaGreatDoor
open Go.RowKit

theorem bcell {W w1 : World} (hb : Below W.heap.size W w1) : (∀ b o, b < W.heap.size → w1.cell? ⟨b, o, none⟩ = W.cell? ⟨b, o, none⟩) ∧ (∀ b o, b < W.heap.size → w1.frozen? ⟨b, o, none⟩ = W.frozen? ⟨b, o, none⟩) :=
  ⟨fun b o h => hb.cell (p := ⟨b, o, none⟩) h, fun b o h => hb.frozen (p := ⟨b, o, none⟩) h⟩


set_option maxHeartbeats 400000 in
theorem specRight_any (n d : Int) (w : World) :
    Calls Tryz.prog 58 #[.agg #[.int .i64 n, .int .i64 d]] w fun e w' => e = .returned (.bool (M.rightB n d)) ∧ Below w.heap.size w w' := by
  by_cases k1 : 1 ≤ d
  · have k1' : decide (d < 1) = false := by simp; omega
    by_cases k2 : d ≤ 2147483647
    · have k2' : decide (2147483647 < d) = false := by simp; omega
      by_cases k3 : -2147483647 ≤ n
      · have k3' : decide (n < -2147483647) = false := by simp; omega
        by_cases k4 : n ≤ 2147483647
        · have k4' : decide (2147483647 < n) = false := by simp; omega
          have hr : M.rightB n d = (((Int.gcd (n.natAbs : Int) d : Nat) : Int) == 1) := by
            rw [Bool.eq_iff_iff, M.rightB_iff, M.gcd_natAbs]; simp; omega
          rw [hr]
          clear hr
          go_enter Tryz.func58, Tryz.ntmps58
          go_wp2
          go_quiet (first
            | (go_at_call 79; exact Calls.quiet_of_same (specAbs _ _ (by omega) (by omega)))
            | (go_at_call 78; exact Calls.quiet_of (specGcd _ _ _ (by omega) (by omega) (by omega) (by omega))))
          go_wp2
          go_ret
          exact ⟨rfl, below_drewN ((Below.refl _ _).alloc (Nat.le_refl _) _) _⟩
        · have hr : M.rightB n d = false := by
            rw [Bool.eq_false_iff]; intro hh; rw [M.rightB_iff] at hh; omega
          rw [hr]
          go_enter Tryz.func58, Tryz.ntmps58
          go_wp2
          go_ret
          exact ⟨rfl, (Below.refl _ _).alloc (Nat.le_refl _) _⟩
      · have hr : M.rightB n d = false := by
          rw [Bool.eq_false_iff]; intro hh; rw [M.rightB_iff] at hh; omega
        rw [hr]
        go_enter Tryz.func58, Tryz.ntmps58
        go_wp2
        go_ret
        exact ⟨rfl, (Below.refl _ _).alloc (Nat.le_refl _) _⟩
    · have hr : M.rightB n d = false := by
        rw [Bool.eq_false_iff]; intro hh; rw [M.rightB_iff] at hh; omega
      rw [hr]
      go_enter Tryz.func58, Tryz.ntmps58
      go_wp2
      go_ret
      exact ⟨rfl, (Below.refl _ _).alloc (Nat.le_refl _) _⟩
  · have hr : M.rightB n d = false := by
      rw [Bool.eq_false_iff]; intro hh; rw [M.rightB_iff] at hh; omega
    rw [hr]
    go_enter Tryz.func58, Tryz.ntmps58
    go_wp2
    go_ret
    exact ⟨rfl, (Below.refl _ _).alloc (Nat.le_refl _) _⟩


set_option maxHeartbeats 400000 in
theorem lowest_zero (n : Int) (w : World) :
    Calls Tryz.prog 104 #[.int .i64 n, .int .i64 0] w fun e w' => e = .returned (.tuple #[.agg #[.int .i64 0, .int .i64 0], errV ⟨#[97, 32, 113, 117, 111, 116, 105, 101, 110, 116, 32, 98, 121, 32, 110, 111, 117, 103, 104, 116]⟩ 1]) ∧ Below w.heap.size w w' := by
  go_enter Tryz.func104, Tryz.ntmps104
  go_wp2
  exact bodyPost_ret (v := .tuple #[.agg #[.int .i64 0, .int .i64 0], errV ⟨#[97, 32, 113, 117, 111, 116, 105, 101, 110, 116, 32, 98, 121, 32, 110, 111, 117, 103, 104, 116]⟩ 1]) (by simp [results, Tryz.results104, go_sem]) rfl ⟨rfl, (Below.refl _ _).alloc (Nat.le_refl _) _⟩

set_option maxHeartbeats 400000 in
theorem lowest_min (n d : Int) (w : World) (h0 : (d == 0) = false) (h : n = -9223372036854775808 ∨ d = -9223372036854775808) :
    Calls Tryz.prog 104 #[.int .i64 n, .int .i64 d] w fun e w' => e = .returned (.tuple #[.agg #[.int .i64 0, .int .i64 0], errV ⟨#[97, 32, 112, 97, 114, 116, 32, 119, 105, 116, 104, 111, 117, 116, 32, 97, 110, 32, 111, 112, 112, 111, 115, 105, 116, 101]⟩ 5]) ∧ Below w.heap.size w w' := by
  by_cases k : (n == -9223372036854775808) = true
  · go_enter Tryz.func104, Tryz.ntmps104
    go_wp2
    exact bodyPost_ret (v := .tuple #[.agg #[.int .i64 0, .int .i64 0], errV ⟨#[97, 32, 112, 97, 114, 116, 32, 119, 105, 116, 104, 111, 117, 116, 32, 97, 110, 32, 111, 112, 112, 111, 115, 105, 116, 101]⟩ 5]) (by simp [results, Tryz.results104, go_sem]) rfl ⟨rfl, (Below.refl _ _).alloc (Nat.le_refl _) _⟩
  · have k1 : (n == -9223372036854775808) = false := by simpa using k
    have k2 : (d == -9223372036854775808) = true := by simp at k ⊢; omega
    clear k h
    go_enter Tryz.func104, Tryz.ntmps104
    go_wp2
    exact bodyPost_ret (v := .tuple #[.agg #[.int .i64 0, .int .i64 0], errV ⟨#[97, 32, 112, 97, 114, 116, 32, 119, 105, 116, 104, 111, 117, 116, 32, 97, 110, 32, 111, 112, 112, 111, 115, 105, 116, 101]⟩ 5]) (by simp [results, Tryz.results104, go_sem]) rfl ⟨rfl, (Below.refl _ _).alloc (Nat.le_refl _) _⟩

set_option maxHeartbeats 400000 in
theorem lowest_pos (n d : Int) (w : World) (h1 : -9223372036854775807 ≤ n) (h2 : n ≤ 9223372036854775807) (h3 : 0 < d) (h4 : d ≤ 9223372036854775807) :
    Calls Tryz.prog 104 #[.int .i64 n, .int .i64 d] w fun e w' => (if 2147483647 < ((M.lowN n d).natAbs : Int) ∨ 2147483647 < M.lowD n d then e = .returned (.tuple #[.agg #[.int .i64 0, .int .i64 0], errV ⟨#[97, 32, 112, 97, 114, 116, 32, 105, 110, 32, 108, 111, 119, 101, 115, 116, 32, 116, 101, 114, 109, 115]⟩ 5]) else e = .returned (.tuple #[.agg #[.int .i64 (M.lowN n d), .int .i64 (M.lowD n d)], .nilIface])) ∧ Below w.heap.size w w' := by
  have h0 : (d == 0) = false := by simp; omega
  have k1 : (n == -9223372036854775808) = false := by simp; omega
  have k2 : (d == -9223372036854775808) = false := by simp; omega
  have k3 : ¬ d < 0 := by omega
  have en : M.lowN n d = n.tdiv (Int.gcd n d) := by unfold M.lowN; rw [if_neg k3]
  have ed : M.lowD n d = d / (Int.gcd n d : Int) := by unfold M.lowD; rw [if_neg k3, Int.tdiv_eq_ediv_of_nonneg (by omega)]
  have Hn : Hid (M.lowN n d = n.tdiv (Int.gcd n d)) := en
  have Hd : Hid (M.lowD n d = d / (Int.gcd n d : Int)) := ed
  have hq : (M.lowN n d).natAbs ≤ n.natAbs := by rw [en]; exact M.tdiv_bd n (Int.gcd n d)
  clear en ed
  have hg := M.gcd_pos n d (by omega)
  have hg2 := M.gcd_le n d h3
  have hg0 : (((Int.gcd n d : Nat) : Int) == 0) = false := by simp; omega
  go_enter Tryz.func104, Tryz.ntmps104
  go_wp2_with fail
  refine (implAbs _ _ (by omega) (by omega)).mono ?_
  rintro e w' ⟨rfl, rfl⟩
  go_wp2_with fail
  refine (implGcd _ _ _ (by omega) (by omega) (by omega) (by omega)).mono ?_
  rintro e w' ⟨rfl, rfl⟩
  rw [M.gcd_natAbs]
  go_wp2_with fail
  go_region
  rw [← Hn.out, ← Hd.out]
  go_wp2_with fail
  refine (implAbs _ _ (by omega) (by omega)).mono ?_
  rintro e w' ⟨rfl, rfl⟩
  by_cases c1 : 2147483647 < ((M.lowN n d).natAbs : Int)
  · go_wp2_with fail
    exact bodyPost_ret (v := .tuple #[.agg #[.int .i64 0, .int .i64 0], errV ⟨#[97, 32, 112, 97, 114, 116, 32, 105, 110, 32, 108, 111, 119, 101, 115, 116, 32, 116, 101, 114, 109, 115]⟩ 5]) (by simp [results, Tryz.results104, go_sem]) rfl ⟨rfl, (((Below.refl _ _).alloc (Nat.le_refl _) _).alloc (by simp) _).drew⟩
  · by_cases c2 : 2147483647 < M.lowD n d
    · go_wp2_with fail
      exact bodyPost_ret (v := .tuple #[.agg #[.int .i64 0, .int .i64 0], errV ⟨#[97, 32, 112, 97, 114, 116, 32, 105, 110, 32, 108, 111, 119, 101, 115, 116, 32, 116, 101, 114, 109, 115]⟩ 5]) (by simp [results, Tryz.results104, go_sem]) rfl ⟨rfl, (((Below.refl _ _).alloc (Nat.le_refl _) _).alloc (by simp) _).drew⟩
    · have c3 : ¬ (2147483647 < ((M.lowN n d).natAbs : Int) ∨ 2147483647 < M.lowD n d) := by omega
      have H3 : Hid (¬ (2147483647 < ((M.lowN n d).natAbs : Int) ∨ 2147483647 < M.lowD n d)) := c3
      clear c3
      go_wp2_with fail
      exact bodyPost_ret (v := .tuple #[.agg #[.int .i64 (M.lowN n d), .int .i64 (M.lowD n d)], .nilIface]) (by simp [results, Tryz.results104, go_sem]) rfl ⟨rfl, (((Below.refl _ _).alloc (Nat.le_refl _) _).alloc (by simp) _).drew⟩
set_option maxHeartbeats 400000 in
theorem lowest_neg (n d : Int) (w : World) (h1 : -9223372036854775807 ≤ n) (h2 : n ≤ 9223372036854775807) (h3 : -9223372036854775807 ≤ d) (h4 : d < 0) :
    Calls Tryz.prog 104 #[.int .i64 n, .int .i64 d] w fun e w' => (if 2147483647 < ((M.lowN n d).natAbs : Int) ∨ 2147483647 < M.lowD n d then e = .returned (.tuple #[.agg #[.int .i64 0, .int .i64 0], errV ⟨#[97, 32, 112, 97, 114, 116, 32, 105, 110, 32, 108, 111, 119, 101, 115, 116, 32, 116, 101, 114, 109, 115]⟩ 5]) else e = .returned (.tuple #[.agg #[.int .i64 (M.lowN n d), .int .i64 (M.lowD n d)], .nilIface])) ∧ Below w.heap.size w w' := by
  have h0 : (d == 0) = false := by simp; omega
  have k1 : (n == -9223372036854775808) = false := by simp; omega
  have k2 : (d == -9223372036854775808) = false := by simp; omega
  have en : M.lowN n d = (-n).tdiv (Int.gcd n d) := by unfold M.lowN; rw [if_pos h4]
  have ed : M.lowD n d = (-d) / (Int.gcd n d : Int) := by unfold M.lowD; rw [if_pos h4, Int.tdiv_eq_ediv_of_nonneg (by omega)]
  have hq : (M.lowN n d).natAbs ≤ n.natAbs := by rw [en]; have := M.tdiv_bd (-n) (Int.gcd n d); rwa [Int.natAbs_neg] at this
  have hqd := M.tdiv_bd (-d) (Int.gcd n d)
  have Hn : Hid (M.lowN n d = wrap64 (-(n.tdiv (Int.gcd n d)))) := by
    show M.lowN n d = _
    rw [← Int.neg_tdiv, ← en]; unfold wrap64; omega
  have Hd : Hid (M.lowD n d = wrap64 (-(d.tdiv (Int.gcd n d)))) := by
    show M.lowD n d = _
    rw [← Int.neg_tdiv, ed, ← Int.tdiv_eq_ediv_of_nonneg (by omega)]; unfold wrap64; omega
  clear en ed hqd
  have hg := M.gcd_pos n d (by omega)
  have hg2 := M.gcd_le n (-d) (by omega)
  rw [Int.gcd_neg] at hg2
  have hg0 : (((Int.gcd n d : Nat) : Int) == 0) = false := by simp; omega
  go_enter Tryz.func104, Tryz.ntmps104
  go_wp2_with fail
  refine (implAbs _ _ (by omega) (by omega)).mono ?_
  rintro e w' ⟨rfl, rfl⟩
  go_wp2_with fail
  refine (implGcd _ _ _ (by omega) (by omega) (by omega) (by omega)).mono ?_
  rintro e w' ⟨rfl, rfl⟩
  rw [M.gcd_natAbs, Int.gcd_neg]
  go_wp2_with fail
  go_region
  rw [← Hn.out, ← Hd.out]
  go_wp2_with fail
  refine (implAbs _ _ (by omega) (by omega)).mono ?_
  rintro e w' ⟨rfl, rfl⟩
  by_cases c1 : 2147483647 < ((M.lowN n d).natAbs : Int)
  · go_wp2_with fail
    exact bodyPost_ret (v := .tuple #[.agg #[.int .i64 0, .int .i64 0], errV ⟨#[97, 32, 112, 97, 114, 116, 32, 105, 110, 32, 108, 111, 119, 101, 115, 116, 32, 116, 101, 114, 109, 115]⟩ 5]) (by simp [results, Tryz.results104, go_sem]) rfl ⟨rfl, (((Below.refl _ _).alloc (Nat.le_refl _) _).alloc (by simp) _).drew⟩
  · by_cases c2 : 2147483647 < M.lowD n d
    · go_wp2_with fail
      exact bodyPost_ret (v := .tuple #[.agg #[.int .i64 0, .int .i64 0], errV ⟨#[97, 32, 112, 97, 114, 116, 32, 105, 110, 32, 108, 111, 119, 101, 115, 116, 32, 116, 101, 114, 109, 115]⟩ 5]) (by simp [results, Tryz.results104, go_sem]) rfl ⟨rfl, (((Below.refl _ _).alloc (Nat.le_refl _) _).alloc (by simp) _).drew⟩
    · have c3 : ¬ (2147483647 < ((M.lowN n d).natAbs : Int) ∨ 2147483647 < M.lowD n d) := by omega
      have H3 : Hid (¬ (2147483647 < ((M.lowN n d).natAbs : Int) ∨ 2147483647 < M.lowD n d)) := c3
      clear c3
      go_wp2_with fail
      exact bodyPost_ret (v := .tuple #[.agg #[.int .i64 (M.lowN n d), .int .i64 (M.lowD n d)], .nilIface]) (by simp [results, Tryz.results104, go_sem]) rfl ⟨rfl, (((Below.refl _ _).alloc (Nat.le_refl _) _).alloc (by simp) _).drew⟩
set_option maxHeartbeats 400000 in
theorem lowest_ok (n d : Int) (w : World) (h1 : -9223372036854775808 ≤ n) (h2 : n ≤ 9223372036854775807) (h3 : -9223372036854775808 ≤ d) (h4 : d ≤ 9223372036854775807) (hc : M.codeF n d = 0) :
    Calls Tryz.prog 104 #[.int .i64 n, .int .i64 d] w fun e w' => e = .returned (.tuple #[.agg #[.int .i64 (M.lowN n d), .int .i64 (M.lowD n d)], .nilIface]) ∧ Below w.heap.size w w' := by
  unfold M.codeF at hc
  by_cases k0 : d = 0
  · rw [if_pos k0] at hc; omega
  rw [if_neg k0] at hc
  by_cases k : n = -9223372036854775808 ∨ d = -9223372036854775808
  · rw [if_pos k] at hc; omega
  rw [if_neg k] at hc
  by_cases k2 : 2147483647 < ((M.lowN n d).natAbs : Int) ∨ 2147483647 < M.lowD n d
  · rw [if_pos k2] at hc; omega
  by_cases k3 : d < 0
  · refine (lowest_neg n d w (by omega) h2 (by omega) k3).mono ?_
    rintro e w' ⟨he, hb⟩
    rw [if_neg k2] at he
    exact ⟨he, hb⟩
  · refine (lowest_pos n d w (by omega) h2 (by omega) h4).mono ?_
    rintro e w' ⟨he, hb⟩
    rw [if_neg k2] at he
    exact ⟨he, hb⟩

set_option maxHeartbeats 400000 in
theorem lowest_bad (n d : Int) (w : World) (h1 : -9223372036854775808 ≤ n) (h2 : n ≤ 9223372036854775807) (h3 : -9223372036854775808 ≤ d) (h4 : d ≤ 9223372036854775807) (hc : M.codeF n d ≠ 0) :
    Calls Tryz.prog 104 #[.int .i64 n, .int .i64 d] w fun e w' => (∃ s, e = .returned (.tuple #[.agg #[.int .i64 0, .int .i64 0], errV s (M.codeF n d)])) ∧ Below w.heap.size w w' := by
  unfold M.codeF at hc ⊢
  by_cases k0 : d = 0
  · subst k0
    exact (lowest_zero n w).mono fun e w' ⟨he, hb⟩ => ⟨⟨_, by rw [if_pos rfl]; exact he⟩, hb⟩
  rw [if_neg k0] at hc ⊢
  by_cases k : n = -9223372036854775808 ∨ d = -9223372036854775808
  · rw [if_pos k]
    exact (lowest_min n d w (by simp; omega) k).mono fun e w' ⟨he, hb⟩ => ⟨⟨_, he⟩, hb⟩
  rw [if_neg k] at hc ⊢
  by_cases k2 : 2147483647 < ((M.lowN n d).natAbs : Int) ∨ 2147483647 < M.lowD n d
  · rw [if_pos k2]
    by_cases k3 : d < 0
    · refine (lowest_neg n d w (by omega) h2 (by omega) k3).mono ?_
      rintro e w' ⟨he, hb⟩
      rw [if_pos k2] at he
      exact ⟨⟨_, he⟩, hb⟩
    · refine (lowest_pos n d w (by omega) h2 (by omega) h4).mono ?_
      rintro e w' ⟨he, hb⟩
      rw [if_pos k2] at he
      exact ⟨⟨_, he⟩, hb⟩
  · rw [if_neg k2] at hc; omega

set_option maxHeartbeats 400000 in
theorem implRight_any (n d : Int) (w : World) (h1 : -9223372036854775808 ≤ n) (h2 : n ≤ 9223372036854775807) (h3 : -9223372036854775808 ≤ d) (h4 : d ≤ 9223372036854775807) :
    Calls Tryz.prog 85 #[.agg #[.int .i64 n, .int .i64 d]] w fun e w' => e = .returned (.bool (M.rightB n d)) ∧ Below w.heap.size w w' := by
  have hr := M.right_iff_low n d h1 h2 h3 h4
  by_cases hc : M.codeF n d = 0
  · have Hc : Hid (M.codeF n d = 0) := hc
    have Hr : Hid (M.rightB n d = (M.lowN n d == n && M.lowD n d == d)) := by
      show M.rightB n d = _
      rw [Bool.eq_iff_iff, hr]; simp [hc]
    clear hr hc
    go_enter Tryz.func85, Tryz.ntmps85
    go_wp2_with fail
    refine (lowest_ok _ _ _ h1 h2 h3 h4 Hc.out).mono ?_
    rintro e w1 ⟨rfl, hb⟩
    obtain ⟨hcl, _⟩ := bcell hb
    have c0 : w1.cell? ⟨w.heap.size, 0, none⟩ = some (.int .i64 n) := by rw [hcl _ _ (by simp)]; simp
    have c1 : w1.cell? ⟨w.heap.size, 1, none⟩ = some (.int .i64 d) := by rw [hcl _ _ (by simp)]; simp
    have hz : w.heap.size < w1.heap.size := by have := hb.size; simp at this; omega
    have hB : Hid (Below w.heap.size w w1) := ((Below.refl _ _).alloc (Nat.le_refl _) _).trans (hb.mono (by simp))
    clear hb hcl
    go_wp2_with fail
    all_goals
      go_ret
      refine ⟨?_, hB.out.alloc (by omega) _⟩
      rw [Hr.out]
      simp [*]
  · have hr' : M.rightB n d = false := by
      rw [Bool.eq_false_iff]; intro hh; exact hc (hr.1 hh).1
    rw [hr']
    clear hr hr'
    have Hc : Hid (M.codeF n d ≠ 0) := hc
    clear hc
    go_enter Tryz.func85, Tryz.ntmps85
    go_wp2_with fail
    refine (lowest_bad _ _ _ h1 h2 h3 h4 Hc.out).mono ?_
    rintro e w1 ⟨⟨s, rfl⟩, hb⟩
    have hz : w.heap.size < w1.heap.size := by have := hb.size; simp at this; omega
    have hB : Hid (Below w.heap.size w w1) := ((Below.refl _ _).alloc (Nat.le_refl _) _).trans (hb.mono (by simp))
    clear hb
    go_wp2_with fail
    go_ret
    exact ⟨rfl, hB.out.alloc (by omega) _⟩

end Go.Proofs.YtkaokfmaecdkiaaGreatDoor
