/-
  The program's tests that numbers are from 0 to a top.
-/
import Derived.Test.YtgkdnpnnmmpnmaaGreatDoorNums
import Derived.Laws.AppendOwn
import Derived.OwnWalk
import Derived.Deep.OwnRows
import Derived.Deep.Heap
import Derived.WalkMore
import Derived.Lib.Hide
import Derived.Lib.SliceRun
import Derived.Deep.RegionWith
namespace Go.Proofs.YtgkdnpnnmmpnmaaGreatDoor
open Go.RowKit Go.Deep

set_option maxHeartbeats 400000 in
theorem awithin_any (x m : Int) (w : World) :
    Calls Tryz.prog 119 #[.int .i64 x, .int .i64 m] w fun e w' => e = .returned (.bool (decide (0 ≤ x ∧ x ≤ m))) ∧ w' = w := by
  by_cases h1 : 0 ≤ x
  · by_cases h2 : x ≤ m
    · rw [decide_eq_true (show 0 ≤ x ∧ x ≤ m from ⟨h1, h2⟩)]
      go_enter Tryz.func119, Tryz.ntmps119
      go_wp2_with fail
      go_ret
      exact ⟨rfl, rfl⟩
    · rw [decide_eq_false (show ¬ (0 ≤ x ∧ x ≤ m) from fun h => h2 h.2)]
      go_enter Tryz.func119, Tryz.ntmps119
      go_wp2_with fail
      go_ret
      exact ⟨rfl, rfl⟩
  · rw [decide_eq_false (show ¬ (0 ≤ x ∧ x ≤ m) from fun h => h1 h.1)]
    go_enter Tryz.func119, Tryz.ntmps119
    go_wp2_with fail
    go_ret
    exact ⟨rfl, rfl⟩
set_option maxRecDepth 100000 in
set_option maxHeartbeats 1000000 in
theorem allWithin_raw (a : Option Addr) (n cap : Nat) (f : Nat → Int) (m : Int) (w : World) (h : n = 0 ∨ ∃ b, a = some ⟨b, 0, none⟩ ∧ ∀ i, i < n → w.cell? ⟨b, i, none⟩ = some (.int .i64 (f i))) (hn : n ≤ 4194304) :
    Calls Tryz.prog 93 #[.slice a n cap, .int .i64 m] w fun e w' => (∃ b : Bool, e = .returned (.bool b) ∧ (b = true ↔ ∀ i, i < n → 0 ≤ f i ∧ f i ≤ m)) ∧ w' = w := by
  have H := Lib.hid h
  clear h
  go_enter Tryz.func93, Tryz.ntmps93
  go_wp2_with fail
  go_loopw [8] (fun iv wr => ∃ (i : Nat), i ≤ n ∧ iv = .int .i64 i ∧ wr = w ∧ Hid (∀ j, j < i → 0 ≤ f j ∧ f j ≤ m)) (fun iv _ => n - (intOf iv).toNat)
  case atStart => exact ⟨0, Nat.zero_le _, rfl, rfl, fun j hj => absurd hj (Nat.not_lt_zero _)⟩
  case round =>
    obtain ⟨i, hi, rfl, rfl, hP⟩ := hrel
    by_cases hlt : i < n
    · have hltz : (i : Int) < (n : Int) := by omega
      obtain ⟨b, rfl, cc⟩ : ∃ b, a = some ⟨b, 0, none⟩ ∧ ∀ i, i < n → wr.cell? ⟨b, i, none⟩ = some (.int .i64 (f i)) := by
        rcases H.out with h | h
        · omega
        · exact h
      have c0 := cc i hlt
      clear cc
      go_wp2_with fail
      refine (awithin_any _ _ _).mono ?_
      rintro e w1 ⟨rfl, rfl⟩
      by_cases c : 0 ≤ f i ∧ f i ≤ m
      · rw [decide_eq_true c]
        have HC := Lib.hid c
        clear c
        go_wp2_with fail
        go_roundw
        case rel => exact ⟨i + 1, by omega, by go_num, by trivial, fun j hj => by
          by_cases e : j = i
          · subst e; exact HC.out
          · exact hP.out j (by omega)⟩
        case measure => simp [intOf]; omega
      · rw [decide_eq_false c]
        have HE := Lib.hid (show ¬ ∀ i, i < n → 0 ≤ f i ∧ f i ≤ m from fun h => c (h i hlt))
        clear c
        go_wp2_with fail
        go_ret
        exact ⟨⟨_, rfl, ⟨fun h => by simp at h, fun h => absurd h HE.out⟩⟩, rfl⟩
    · obtain rfl : i = n := by omega
      go_wp2_with fail
      go_ret
      exact ⟨⟨_, rfl, ⟨fun _ => hP.out, fun _ => rfl⟩⟩, rfl⟩
end Go.Proofs.YtgkdnpnnmmpnmaaGreatDoor
