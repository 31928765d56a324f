/-
  The contracts of the laws' sums.
-/
import Derived.Test.YtdpghhmcibiplaaDoorRvI2
namespace Go.Proofs.YtdpghhmcibiplaaDoor
open Go.RowKit Go.Deep

theorem sumN_part {f : Nat → Int} {n i : Nat} (h : ∀ j, j < n → 0 ≤ f j ∧ f j ≤ 1000000000000) (hi : i ≤ n) (hn : n ≤ 1000) : 0 ≤ Rv.sumN f i ∧ Rv.sumN f i ≤ 1000000000000000 := by
  have h1 : 0 ≤ Rv.sumN f i := Rv.sumN_nonneg (fun j hj => (h j (by omega)).1)
  have h2 : Rv.sumN f i ≤ i * 1000000000000 := Rv.sumN_le (fun j hj => (h j (by omega)).2)
  have h3 : (i : Int) * 1000000000000 ≤ 1000 * 1000000000000 := Int.mul_le_mul_of_nonneg_right (by omega) (by omega)
  omega
set_option maxRecDepth 100000 in
set_option maxHeartbeats 2000000 in
theorem lwSum_any (a : Option Addr) (n cap : Nat) (f : Nat → Int) (w : World) (h : IntsAt a n f w) (hn : n ≤ 1000) (hf : ∀ j, j < n → 0 ≤ f j ∧ f j ≤ 1000000000000) :
    Calls Tryd.prog 37 #[.slice a n cap] w fun e w' => e = .returned (.int .i64 (Rv.sumN f n)) ∧ w' = w := by
  have H := Lib.hid h
  have HF := Lib.hid hf
  clear h hf
  go_enter Tryd.func37, Tryd.ntmps37
  go_wp2_with fail
  go_loopw [3, 4] (fun sv iv wr => ∃ (i : Nat), i ≤ n ∧ iv = .int .i64 i ∧ sv = .int .i64 (Rv.sumN f i) ∧ Hid (wr = w)) (fun _ iv _ => n - (intOf iv).toNat)
  case atStart => exact ⟨0, Nat.zero_le _, rfl, rfl, rfl⟩
  case round =>
    obtain ⟨i, hi, rfl, rfl, hW⟩ := hrel
    obtain rfl := hW.out
    clear hW
    by_cases hlt : i < n
    · have hltz : (i : Int) < (n : Int) := by omega
      obtain ⟨b, rfl, c0⟩ := H.out.at_ hlt
      obtain ⟨s0, s1⟩ := sumN_part HF.out hi hn
      obtain ⟨f0, f1⟩ := HF.out i hlt
      go_wp2_with fail
      go_roundw
      case rel => exact ⟨i + 1, by omega, by go_num, rfl, by first | exact rfl | exact (trivial : True)⟩
      case measure => simp [intOf]; omega
    · obtain rfl : i = n := by omega
      go_wp2_with fail
      go_ret
      exact ⟨rfl, rfl⟩
set_option maxRecDepth 100000 in
set_option maxHeartbeats 2000000 in
theorem lwStores_any (a : Option Addr) (n cap : Nat) (rs : Nat → Rv.Rc) (w : World) (h : RcsAt a n rs w) (hn : n ≤ 1000) (hf : ∀ j, j < n → 0 ≤ (rs j).st ∧ (rs j).st ≤ 1000000000000) :
    Calls Tryd.prog 36 #[.slice a n cap] w fun e w' => e = .returned (.int .i64 (Rv.sumN (fun j => (rs j).st) n)) ∧ w' = w := by
  have H := Lib.hid h
  have HF := Lib.hid hf
  clear h hf
  go_enter Tryd.func36, Tryd.ntmps36
  go_wp2_with fail
  go_loopw [3, 4] (fun sv iv wr => ∃ (i : Nat), i ≤ n ∧ iv = .int .i64 i ∧ sv = .int .i64 (Rv.sumN (fun j => (rs j).st) i) ∧ Hid (wr = w)) (fun _ iv _ => n - (intOf iv).toNat)
  case atStart => exact ⟨0, Nat.zero_le _, rfl, rfl, rfl⟩
  case round =>
    obtain ⟨i, hi, rfl, rfl, hW⟩ := hrel
    obtain rfl := hW.out
    clear hW
    by_cases hlt : i < n
    · have hltz : (i : Int) < (n : Int) := by omega
      obtain ⟨b, rfl, c0, c1, c2, c3, c4⟩ := H.out.at_ hlt
      obtain ⟨s0, s1⟩ := sumN_part (f := fun j => (rs j).st) HF.out hi hn
      obtain ⟨f0, f1⟩ := HF.out i hlt
      clear c1 c2 c3 c4
      go_wp2_with fail
      go_roundw
      case rel => exact ⟨i + 1, by omega, by go_num, rfl, by first | exact rfl | exact (trivial : True)⟩
      case measure => simp [intOf]; omega
    · obtain rfl : i = n := by omega
      go_wp2_with fail
      go_ret
      exact ⟨rfl, rfl⟩
end Go.Proofs.YtdpghhmcibiplaaDoor
