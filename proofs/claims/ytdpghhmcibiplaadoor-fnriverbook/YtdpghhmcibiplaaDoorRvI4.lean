/-
  The contracts of the program's sharing of a reach's water, and of a small number's text.
-/
import Derived.Test.YtdpghhmcibiplaaDoorRvI1
namespace Go.Proofs.YtdpghhmcibiplaaDoor
open Go.RowKit Go.Deep

theorem ret3 {a b c a' b' c' : Int} (h1 : a = a') (h2 : b = b') (h3 : c = c') : Ending.returned (.tuple #[.int .i64 a, .int .i64 b, .int .i64 c]) = .returned (.tuple #[.int .i64 a', .int .i64 b', .int .i64 c']) := by rw [h1, h2, h3]

set_option maxRecDepth 100000 in
set_option maxHeartbeats 2000000 in
theorem share_any (r : Rv.Rc) (c : Int) (w : World) (hr : Rv.Amounts r) (c0 : 0 ≤ c) (c1 : c ≤ 40040000000) :
    Calls Tryd.prog 101 #[rcV r, .int .i64 c] w fun e w' => e = .returned (.tuple #[.int .i64 (Rv.stays r c), .int .i64 (Rv.taken r c), .int .i64 (Rv.flows r c)]) ∧ Below w.heap.size w w' := by
  obtain ⟨⟨s0, s1⟩, ⟨k0, k1⟩, ⟨t0, t1⟩, ⟨l0, l1⟩⟩ := hr
  have hp0 : 0 ≤ (r.st + c) * r.kp := Int.mul_nonneg (by omega) k0
  have hp1 : (r.st + c) * r.kp ≤ 41040000000000 := by
    have h1 : (r.st + c) * r.kp ≤ (r.st + c) * 1000 := Int.mul_le_mul_of_nonneg_left k1 (by omega)
    omega
  have hq0 : 0 ≤ ((r.st + c) * r.kp) / 1000 := by omega
  have hq1 : ((r.st + c) * r.kp) / 1000 ≤ 41040000000 := by omega
  have hB := Lib.hid ((Below.refl w.heap.size w).alloc (Nat.le_refl _) (.cells #[.int .i64 r.st, .int .i64 r.kp, .int .i64 r.dn, .int .i64 r.tk, .int .i64 r.ls] 43))
  go_enter Tryd.func101, Tryd.ntmps101
  go_wp2_with fail
  all_goals
    refine bodyPost_ret (v := .tuple #[.int .i64 (Rv.stays r c), .int .i64 (Rv.taken r c), .int .i64 (Rv.flows r c)]) ?_ rfl ⟨rfl, hB.out⟩
    simp only [results, Tryd.results101]
    simp [go_sem]
    unfold Rv.flows Rv.taken Rv.given Rv.stays
    generalize ((r.st + c) * r.kp) / 1000 = y at *
    omega
set_option maxRecDepth 100000 in
set_option maxHeartbeats 2000000 in
theorem small_any (k : Nat) (hk : k < 100) (w : World) :
    Calls Tryd.prog 138 #[.int .i64 k] w fun e w' => (∃ s, e = .returned (.string s) ∧ s.size ≤ 200) ∧ w' = w := by
  by_cases h : k < 10
  · have hz : (k : Int) < 10 := by omega
    go_enter Tryd.func138, Tryd.ntmps138
    go_wp2_with fail
    go_ret
    refine ⟨⟨_, rfl, ?_⟩, rfl⟩
    simp [ByteArray.size_extract]
    omega
  · have hz : ¬ (k : Int) < 10 := by omega
    have hz2 : (k : Int) < 100 := by omega
    go_enter Tryd.func138, Tryd.ntmps138
    go_wp2_with fail
    go_ret
    refine ⟨⟨_, rfl, ?_⟩, rfl⟩
    simp [ByteArray.size_extract]
    omega
set_option maxRecDepth 100000 in
set_option maxHeartbeats 2000000 in
theorem format_any (k : Nat) (hk : k < 100) (w : World) :
    Calls Tryd.prog 131 #[.int .i64 k, .int .i64 10] w fun e w' => (∃ s, e = .returned (.string s) ∧ s.size ≤ 200) ∧ w' = w := by
  have hz : (k : Int) < 100 := by omega
  go_enter Tryd.func131, Tryd.ntmps131
  go_wp2_with fail
  refine (small_any k hk _).mono ?_
  rintro e w1 ⟨⟨s, rfl, hs⟩, rfl⟩
  go_wp2_with fail
  go_ret
  exact ⟨⟨_, rfl, hs⟩, rfl⟩
set_option maxRecDepth 100000 in
set_option maxHeartbeats 2000000 in
theorem itoa_any (k : Nat) (hk : k < 100) (w : World) :
    Calls Tryd.prog 102 #[.int .i64 k] w fun e w' => (∃ s, e = .returned (.string s) ∧ s.size ≤ 200) ∧ w' = w := by
  have H2 : Calls Tryd.prog 124 #[.int .i64 k] w fun e w' => (∃ s, e = .returned (.string s) ∧ s.size ≤ 200) ∧ w' = w := by
    go_enter Tryd.func124, Tryd.ntmps124
    go_wp2_with fail
    refine (format_any k hk _).mono ?_
    rintro e w1 ⟨⟨s, rfl, hs⟩, rfl⟩
    go_wp2_with fail
    go_ret
    exact ⟨⟨_, rfl, hs⟩, rfl⟩
  go_enter Tryd.func102, Tryd.ntmps102
  go_wp2_with fail
  refine H2.mono ?_
  rintro e w1 ⟨⟨s, rfl, hs⟩, rfl⟩
  go_wp2_with fail
  go_ret
  exact ⟨⟨_, rfl, hs⟩, rfl⟩
end Go.Proofs.YtdpghhmcibiplaaDoor
