/-
  The contracts of the program's sums and means.
-/
import Derived.Test.YtemmmhkjjcmcmaaMKeep
import Derived.Test.YtemmmhkjjcmcmaaSumMath
namespace Go.Proofs.Ytemmmhkjjcmcmaa
open Go.RowKit

set_option maxHeartbeats 1000000 in
theorem implSumM_any (b n cap : Nat) (zs : List Nat) (w : World) (hl : zs.length = n) (hc : ∀ i, i < n → w.cell? ⟨b, i, none⟩ = some (.float .f64 (Fl.el zs i))) (hn : n ≤ 400) :
    Calls Try.prog 13 #[.slice (some ⟨b, 0, none⟩) n cap] w fun e w' => e = .returned (.tuple #[.float .f64 (Fl.sumTo zs n), .int .i64 (Fl.cntTo zs n)]) ∧ w' = w := by
  have hnz : ¬ (400 : Int) < (n : Int) := by omega
  go_enter Try.func13, Try.ntmps13
  go_wp2
  go_loop [4, 5, 7, 13] (fun s c _ i => ∃ k : Nat, k ≤ n ∧ i = .int .i64 k ∧ s = .float .f64 (Fl.sumTo zs k) ∧ c = .int .i64 (Fl.cntTo zs k)) (fun _ _ _ i => n - (intOf i).toNat)
  case atStart => exact ⟨0, Nat.zero_le _, rfl, rfl, rfl⟩
  case round =>
    obtain ⟨k, hk, rfl, rfl, rfl⟩ := hrel
    by_cases hlt : k < n
    · have hltz : (k : Int) < (n : Int) := by omega
      have g1 := hc k hlt
      have hg := Fl.good_addF _ (Fl.el zs k) (Fl.good_sumTo zs k)
      have Hs : Hid (Fl.sumTo zs (k + 1) = Fl.addF (Fl.sumTo zs k) (Fl.el zs k)) := Fl.sumTo_succ zs k (by omega)
      have Hc : Hid (Fl.cntTo zs (k + 1) = Fl.cntTo zs k + if Fl.measB (Fl.el zs k) then 1 else 0) := Fl.cntTo_succ zs k (by omega)
      have hcl := Fl.cntTo_le zs k
      cases hm : Fl.measB (Fl.el zs k)
      · have Ha : Hid (Fl.addF (Fl.sumTo zs k) (Fl.el zs k) = Fl.sumTo zs k) := by show _ = _; unfold Fl.addF; rw [hm]; rfl
        clear hg
        go_wp2_with (go_at_call 15; refine (implMeas_any _ _).mono ?_; rintro e w' ⟨rfl, rfl⟩)
        go_round
        case rel => exact ⟨k + 1, by omega, by go_num, by rw [Hs.out, Ha.out], by rw [Hc.out, hm]; rfl⟩
        case measure => simp [intOf]; omega
      · have hq := fun (wx : World) => run_float_arith (P := Try.prog) (w := wx) .add 26 .f64 _ _ _ (hg.2 hm)
        clear hg
        go_wp2_with (go_at_call 15; refine (implMeas_any _ _).mono ?_; rintro e w' ⟨rfl, rfl⟩)
        go_round
        case rel => exact ⟨k + 1, by omega, by go_num, by rw [Hs.out], by rw [Hc.out, hm]; rfl⟩
        case measure => simp [intOf]; omega
    · obtain rfl : k = n := by omega
      go_wp2
      go_ret2
      exact ⟨rfl, rfl⟩

set_option maxHeartbeats 400000 in
theorem implSum_any (b n cap : Nat) (zs : List Nat) (w : World) (hl : zs.length = n) (hc : ∀ i, i < n → w.cell? ⟨b, i, none⟩ = some (.float .f64 (Fl.el zs i))) (hn : n ≤ 400) :
    Calls Try.prog 7 #[.slice (some ⟨b, 0, none⟩) n cap] w fun e w' => e = .returned (.float .f64 (Fl.sumTo zs n)) ∧ w' = w := by
  have Hc : Hid (∀ i, i < n → w.cell? ⟨b, i, none⟩ = some (.float .f64 (Fl.el zs i))) := hc
  have Hl : Hid (zs.length = n) := hl
  clear hc hl
  go_enter Try.func7, Try.ntmps7
  go_wp2_with fail
  refine (implSumM_any b n cap zs _ Hl.out Hc.out hn).mono ?_
  rintro e w' ⟨rfl, rfl⟩
  go_wp2_with fail
  go_ret
  exact ⟨rfl, rfl⟩

/-- The mean of the measures. -/
def meanF (zs : List Nat) (n : Nat) : Nat := if Fl.cntTo zs n = 0 then 0 else (floatBits .quo .f64 (Fl.sumTo zs n) (floatOfInt .f64 (Fl.cntTo zs n : Int))).getD 0

theorem meanF_zero (zs : List Nat) (n : Nat) (h : Fl.cntTo zs n = 0) : meanF zs n = 0 := by unfold meanF; rw [if_pos h]
theorem meanF_quo (zs : List Nat) (n : Nat) (h : Fl.cntTo zs n ≠ 0) (hn : n ≤ 400) : floatBits .quo .f64 (Fl.sumTo zs n) (floatOfInt .f64 (Fl.cntTo zs n : Int)) = some (meanF zs n) := by
  unfold meanF
  rw [if_neg h]
  obtain ⟨r, hr⟩ := Fl.mean_some zs n (Fl.cntTo zs n) h (by have := Fl.cntTo_le zs n; omega)
  rw [hr]; rfl

set_option maxHeartbeats 400000 in
theorem implMean_any (b n cap : Nat) (zs : List Nat) (w : World) (hl : zs.length = n) (hc : ∀ i, i < n → w.cell? ⟨b, i, none⟩ = some (.float .f64 (Fl.el zs i))) (hn : n ≤ 400) :
    Calls Try.prog 8 #[.slice (some ⟨b, 0, none⟩) n cap] w fun e w' => e = .returned (.float .f64 (meanF zs n)) ∧ w' = w := by
  have Hc : Hid (∀ i, i < n → w.cell? ⟨b, i, none⟩ = some (.float .f64 (Fl.el zs i))) := hc
  have Hl : Hid (zs.length = n) := hl
  clear hc hl
  by_cases h0 : Fl.cntTo zs n = 0
  · rw [meanF_zero zs n h0]
    have hz : (((Fl.cntTo zs n : Nat) : Int) == 0) = true := by simp; omega
    have H0 : Hid (Fl.cntTo zs n = 0) := h0
    clear h0
    go_enter Try.func8, Try.ntmps8
    go_wp2_with fail
    refine (implSumM_any b n cap zs _ Hl.out Hc.out hn).mono ?_
    rintro e w' ⟨rfl, rfl⟩
    go_wp2_with fail
    go_ret
    exact ⟨rfl, rfl⟩
  · have hq := fun (wx : World) => run_float_arith (P := Try.prog) (w := wx) .quo 26 .f64 _ _ _ (meanF_quo zs n h0 hn)
    have hz : (((Fl.cntTo zs n : Nat) : Int) == 0) = false := by simp; omega
    go_enter Try.func8, Try.ntmps8
    go_wp2_with fail
    refine (implSumM_any b n cap zs _ Hl.out Hc.out hn).mono ?_
    rintro e w' ⟨rfl, rfl⟩
    go_wp2_with fail
    go_ret
    exact ⟨rfl, rfl⟩

end Go.Proofs.Ytemmmhkjjcmcmaa
