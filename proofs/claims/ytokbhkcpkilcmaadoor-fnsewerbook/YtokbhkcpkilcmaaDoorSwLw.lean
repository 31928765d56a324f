/-
  The contracts of the laws' sums.
-/
import Derived.Test.YtokbhkcpkilcmaaDoorSwI2
namespace Go.Proofs.YtokbhkcpkilcmaaDoor
open Go.RowKit Go.Deep

theorem sumN_part {f : Nat → Int} {n i : Nat} (h : ∀ j, j < n → 0 ≤ f j ∧ f j ≤ 1000000000000) (hi : i ≤ n) (hn : n ≤ 1000) : 0 ≤ Sw.sumN f i ∧ Sw.sumN f i ≤ 1000000000000000 := by
  have h1 : 0 ≤ Sw.sumN f i := Sw.sumN_nonneg (fun j hj => (h j (by omega)).1)
  have h2 : Sw.sumN f i ≤ i * 1000000000000 := Sw.sumN_le (fun j hj => (h j (by omega)).2)
  have h3 : (i : Int) * 1000000000000 ≤ 1000 * 1000000000000 := Int.mul_le_mul_of_nonneg_right (by omega) (by omega)
  omega
set_option maxRecDepth 100000 in
set_option maxHeartbeats 2000000 in
theorem lwSum_any (a : Option Addr) (n cap : Nat) (f : Nat → Int) (w : World) (h : IntsAt a n f w) (hn : n ≤ 1000) (hf : ∀ j, j < n → 0 ≤ f j ∧ f j ≤ 1000000000000) :
    Calls Tryd.prog 30 #[.slice a n cap] w fun e w' => e = .returned (.int .i64 (Sw.sumN f n)) ∧ w' = w := by
  have H := Lib.hid h
  have HF := Lib.hid hf
  clear h hf
  go_enter Tryd.func30, Tryd.ntmps30
  go_wp2_with fail
  go_loopw [3, 4] (fun sv iv wr => ∃ (i : Nat), i ≤ n ∧ iv = .int .i64 i ∧ sv = .int .i64 (Sw.sumN f i) ∧ Hid (wr = w)) (fun _ iv _ => n - (intOf iv).toNat)
  case atStart => exact ⟨0, Nat.zero_le _, rfl, rfl, rfl⟩
  case round =>
    obtain ⟨i, hi, rfl, rfl, hW⟩ := hrel
    obtain rfl := hW.out
    clear hW
    by_cases hlt : i < n
    · have hltz : (i : Int) < (n : Int) := by omega
      obtain ⟨b, rfl, c0⟩ := H.out.at1 hlt
      obtain ⟨s0, s1⟩ := sumN_part HF.out hi hn
      obtain ⟨f0, f1⟩ := HF.out i hlt
      go_wp2_with fail
      go_roundw
      case rel => exact ⟨i + 1, by omega, by go_num, rfl, by first | exact rfl | exact (trivial : True)⟩
      case measure => simp [intOf]; omega
    · obtain rfl : i = n := by omega
      go_wp2_with fail
      go_ret
      exact ⟨rfl, rfl⟩
set_option maxRecDepth 100000 in
set_option maxHeartbeats 2000000 in
theorem lwStores_any (a : Option Addr) (n cap : Nat) (rs : Nat → Sw.Rc) (w : World) (h : RcsAt a n rs w) (hn : n ≤ 1000) (hf : ∀ j, j < n → 0 ≤ (rs j).st ∧ (rs j).st ≤ 1000000000000) :
    Calls Tryd.prog 29 #[.slice a n cap] w fun e w' => e = .returned (.int .i64 (Sw.sumN (fun j => (rs j).st) n)) ∧ w' = w := by
  have H := Lib.hid h
  have HF := Lib.hid hf
  clear h hf
  go_enter Tryd.func29, Tryd.ntmps29
  go_wp2_with fail
  go_loopw [3, 4] (fun sv iv wr => ∃ (i : Nat), i ≤ n ∧ iv = .int .i64 i ∧ sv = .int .i64 (Sw.sumN (fun j => (rs j).st) i) ∧ Hid (wr = w)) (fun _ iv _ => n - (intOf iv).toNat)
  case atStart => exact ⟨0, Nat.zero_le _, rfl, rfl, rfl⟩
  case round =>
    obtain ⟨i, hi, rfl, rfl, hW⟩ := hrel
    obtain rfl := hW.out
    clear hW
    by_cases hlt : i < n
    · have hltz : (i : Int) < (n : Int) := by omega
      obtain ⟨b, rfl, c0, c1, c2, c3, c4, c5⟩ := H.out.at_ hlt
      obtain ⟨s0, s1⟩ := sumN_part (f := fun j => (rs j).st) HF.out hi hn
      obtain ⟨f0, f1⟩ := HF.out i hlt
      clear c0 c2 c3 c4 c5
      go_wp2_with fail
      go_roundw
      case rel => exact ⟨i + 1, by omega, by go_num, rfl, by first | exact rfl | exact (trivial : True)⟩
      case measure => simp [intOf]; omega
    · obtain rfl : i = n := by omega
      go_wp2_with fail
      go_ret
      exact ⟨rfl, rfl⟩
set_option maxRecDepth 100000 in
set_option maxHeartbeats 2000000 in
theorem lwHas_any (a : Option Addr) (n cap : Nat) (f : Nat → Int) (x : Int) (w : World) (h : IntsAt a n f w) (hn : n ≤ 1048576) (b : Bool) (hb : b = true ↔ ∃ j, j < n ∧ f j = x) :
    Calls Tryd.prog 32 #[.slice a n cap, .int .i64 x] w fun e w' => e = .returned (.bool b) ∧ w' = w := by
  have H := Lib.hid h
  have HB := Lib.hid hb
  clear h hb
  go_enter Tryd.func32, Tryd.ntmps32
  go_wp2_with fail
  go_loopw [5] (fun iv wr => ∃ (i : Nat), i ≤ n ∧ iv = .int .i64 i ∧ Hid (wr = w) ∧ Hid (∀ j, j < i → f j ≠ x)) (fun iv _ => n - (intOf iv).toNat)
  case atStart => exact ⟨0, Nat.zero_le _, rfl, rfl, fun j hj => absurd hj (Nat.not_lt_zero _)⟩
  case round =>
    obtain ⟨i, hi, rfl, hW, hP⟩ := hrel
    obtain rfl := hW.out
    clear hW
    by_cases hlt : i < n
    · have hltz : (i : Int) < (n : Int) := by omega
      obtain ⟨g, rfl, c0⟩ := H.out.at1 hlt
      by_cases e : f i = x
      · have e1 : (f i == x) = true := by simp [e]
        have HT : Hid (b = true) := HB.out.2 ⟨i, hlt, e⟩
        clear e
        go_wp2_with fail
        go_ret
        exact ⟨by rw [HT.out]; rfl, rfl⟩
      · have e1 : (f i == x) = false := by simp [e]
        have HE : Hid (f i ≠ x) := e
        clear e
        go_wp2_with fail
        go_roundw
        case rel =>
          refine ⟨i + 1, by omega, by go_num, by first | exact rfl | exact (trivial : True), fun j hj => ?_⟩
          by_cases e2 : j = i
          · subst e2; exact HE.out
          · exact hP.out j (by omega)
        case measure => simp [intOf]; omega
    · obtain rfl : i = n := by omega
      have HF : Hid (b = false) := by
        cases b with
        | false => exact rfl
        | true => obtain ⟨j, h1, h2⟩ := HB.out.1 rfl; exact absurd h2 (hP.out j h1)
      go_wp2_with fail
      go_ret
      exact ⟨by rw [HF.out]; rfl, rfl⟩
end Go.Proofs.YtokbhkcpkilcmaaDoor
