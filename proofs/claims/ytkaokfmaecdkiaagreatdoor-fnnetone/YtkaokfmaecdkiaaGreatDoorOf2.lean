/-
  The contracts of both packages' FracOf, and of the comparison of two answers.
-/
import Derived.Test.YtkaokfmaecdkiaaGreatDoorOf
namespace Go.Proofs.YtkaokfmaecdkiaaGreatDoor
open Go.RowKit

set_option maxHeartbeats 1000000 in
theorem specOf_any (n d : Int) (w : World) (h1 : -9223372036854775808 ≤ n) (h2 : n ≤ 9223372036854775807) (h3 : -9223372036854775808 ≤ d) (h4 : d ≤ 9223372036854775807) :
    Calls Tryz.prog 25 #[.int .i64 n, .int .i64 d] w fun e w' => e = .returned (.agg #[.int .i64 (M.oN n d), .int .i64 (M.oD n d), .int .i64 (M.codeF n d)]) ∧ Below w.heap.size w w' := by
  by_cases k0 : d = 0
  · subst k0
    have hc : M.codeF n 0 = 1 := by simp [M.codeF]
    unfold M.oN M.oD
    rw [hc]
    simp only [show ¬ ((1 : Int) = 0) by omega, if_false]
    clear hc
    go_enter Tryz.func25, Tryz.ntmps25
    go_wp2_with fail
    exact bodyPost_ret (v := .agg #[.int .i64 0, .int .i64 0, .int .i64 1]) (by simp [results, Tryz.results25, go_sem]) rfl ⟨rfl, (Below.refl _ _).alloc (Nat.le_refl _) _⟩
  · have k0' : (d == 0) = false := by simp [k0]
    by_cases k : n = -9223372036854775808 ∨ d = -9223372036854775808
    · have hc : M.codeF n d = 5 := by unfold M.codeF; rw [if_neg k0, if_pos k]
      unfold M.oN M.oD
      rw [hc]
      simp only [show ¬ ((5 : Int) = 0) by omega, if_false]
      clear hc
      by_cases q : (n == -9223372036854775808) = true
      · clear k
        go_enter Tryz.func25, Tryz.ntmps25
        go_wp2_with fail
        exact bodyPost_ret (v := .agg #[.int .i64 0, .int .i64 0, .int .i64 5]) (by simp [results, Tryz.results25, go_sem]) rfl ⟨rfl, (Below.refl _ _).alloc (Nat.le_refl _) _⟩
      · have q1 : (n == -9223372036854775808) = false := by simpa using q
        have q2 : (d == -9223372036854775808) = true := by simp at q ⊢; omega
        clear k q
        go_enter Tryz.func25, Tryz.ntmps25
        go_wp2_with fail
        exact bodyPost_ret (v := .agg #[.int .i64 0, .int .i64 0, .int .i64 5]) (by simp [results, Tryz.results25, go_sem]) rfl ⟨rfl, (Below.refl _ _).alloc (Nat.le_refl _) _⟩
    · have q1 : (n == -9223372036854775808) = false := by simp; omega
      have q2 : (d == -9223372036854775808) = false := by simp; omega
      have b1 : -9223372036854775807 ≤ n := by omega
      have b3 : -9223372036854775807 ≤ d := by omega
      have H0 : Hid (d ≠ 0) := k0
      clear k k0
      go_enter Tryz.func25, Tryz.ntmps25
      go_wp2_with fail
      refine (specLow_any _ _ _ b1 h2 b3 h4 H0.out).mono ?_
      rintro e w1 ⟨rfl, hb⟩
      obtain ⟨c0, c1, c2, f0, f1, f2, hz, HB⟩ := kept3 (hb.mono (by simp))
      clear hb
      go_wp2_with fail
      exact bodyPost_ret (v := .agg #[.int .i64 (M.oN n d), .int .i64 (M.oD n d), .int .i64 (M.codeF n d)]) (by simp [results, Tryz.results25, go_sem, c0, c1, c2]) rfl ⟨rfl, below_set3 HB.out (Nat.le_refl _) _ _ _⟩

set_option maxHeartbeats 1000000 in
theorem implOf_any (n d : Int) (w : World) (h1 : -9223372036854775808 ≤ n) (h2 : n ≤ 9223372036854775807) (h3 : -9223372036854775808 ≤ d) (h4 : d ≤ 9223372036854775807) (hg : w.cell? ⟨0, 0, none⟩ = some (.iface 153 (.agg #[.pointer (some ⟨1, 99, none⟩)]))) :
    Calls Tryz.prog 93 #[.int .i64 n, .int .i64 d] w fun e w' => e = .returned (.agg #[.int .i64 (M.oN n d), .int .i64 (M.oD n d), .int .i64 (M.codeF n d)]) ∧ Below w.heap.size w w' := by
  have hgl : 0 < w.heap.size := World.block_lt_of_cell? _ _ hg
  have Hg : Hid (w.cell? ⟨0, 0, none⟩ = some (.iface 153 (.agg #[.pointer (some ⟨1, 99, none⟩)]))) := hg
  clear hg
  unfold M.oN M.oD
  by_cases hc : M.codeF n d = 0
  · rw [hc]
    simp only [if_true]
    have Hc : Hid (M.codeF n d = 0) := hc
    clear hc
    go_enter Tryz.func93, Tryz.ntmps93
    go_wp2_with fail
    refine (lowest_ok _ _ _ h1 h2 h3 h4 Hc.out).mono ?_
    rintro e w1 ⟨rfl, hb⟩
    go_wp2_with fail
    refine (tell_ok _ _ _).mono ?_
    rintro e w2 ⟨rfl, hb2⟩
    obtain ⟨c0, c1, c2, f0, f1, f2, hz, HB⟩ := kept3 ((hb.mono (by simp)).trans (hb2.mono (by have := hb.size; simpa using this)))
    clear hb hb2
    go_wp2_with fail
    exact bodyPost_ret (v := .agg #[.int .i64 (M.lowN n d), .int .i64 (M.lowD n d), .int .i64 0]) (by simp [results, Tryz.results93, go_sem, c0, c1, c2]) rfl ⟨rfl, below_set3 HB.out (Nat.le_refl _) _ _ _⟩
  · rw [if_neg hc, if_neg hc]
    have Hc : Hid (M.codeF n d ≠ 0) := hc
    clear hc
    go_enter Tryz.func93, Tryz.ntmps93
    go_wp2_with fail
    refine (lowest_bad _ _ _ h1 h2 h3 h4 Hc.out).mono ?_
    rintro e w1 ⟨⟨s, rfl⟩, hb⟩
    go_wp2_with fail
    refine (tell_bad _ _ _ _ (finds_one s _) _ ?_).mono ?_
    · rw [hb.cell (by simp <;> omega), World.cell?_alloc_lt _ _ ⟨0, 0, none⟩ hgl]; exact Hg.out
    rintro e w2 ⟨rfl, hb2⟩
    obtain ⟨c0, c1, c2, f0, f1, f2, hz, HB⟩ := kept3 ((hb.mono (by simp)).trans (hb2.mono (by have := hb.size; simpa using this)))
    clear hb hb2
    go_wp2_with fail
    exact bodyPost_ret (v := .agg #[.int .i64 0, .int .i64 0, .int .i64 (M.codeF n d)]) (by simp [results, Tryz.results93, go_sem, c0, c1, c2]) rfl ⟨rfl, below_set3 HB.out (Nat.le_refl _) _ _ _⟩

end Go.Proofs.YtkaokfmaecdkiaaGreatDoor
