/-
  The contracts of the small functions on whole numbers: the greatest common divisor (both packages), the magnitude (both packages). Conditions: the arguments lie where the callers hand them in.
-/
import Derived.Test.YtkaokfmaecdkiaaGreatDoorProg
import Derived.Test.YtkaokfmaecdkiaaGreatDoorMath
import Derived.WalkKit
import Derived.WalkSpells
import Derived.WalkLawsBesides
import Derived.Deep.QuietTactic
import Derived.BigQuiet
import Derived.Below
namespace Go.Proofs.YtkaokfmaecdkiaaGreatDoor
open Go.RowKit

theorem ret_int {k : IntKind} {a b : Int} (h : a = b) : Ending.returned (.int k a) = .returned (.int k b) := by rw [h]

set_option maxHeartbeats 400000 in
theorem specAbs (a : Int) (w : World) (h1 : -9223372036854775807 ≤ a) (h2 : a ≤ 9223372036854775807) :
    Calls Tryz.prog 79 #[.int .i64 a] w fun e w' => e = .returned (.int .i64 a.natAbs) ∧ w' = w := by
  by_cases h : a < 0
  · go_enter Tryz.func79, Tryz.ntmps79
    go_wp2
    go_ret
    exact ⟨ret_int (by omega), rfl⟩
  · go_enter Tryz.func79, Tryz.ntmps79
    go_wp2
    go_ret
    exact ⟨ret_int (by omega), rfl⟩

set_option maxHeartbeats 400000 in
theorem implAbs (a : Int) (w : World) (h1 : -9223372036854775807 ≤ a) (h2 : a ≤ 9223372036854775807) :
    Calls Tryz.prog 112 #[.int .i64 a] w fun e w' => e = .returned (.int .i64 a.natAbs) ∧ w' = w := by
  by_cases h : a < 0
  · go_enter Tryz.func112, Tryz.ntmps112
    go_wp2
    go_ret
    exact ⟨ret_int (by omega), rfl⟩
  · go_enter Tryz.func112, Tryz.ntmps112
    go_wp2
    go_ret
    exact ⟨ret_int (by omega), rfl⟩

set_option maxHeartbeats 400000 in
theorem implGcd (a b : Int) (w : World) (ha : 0 ≤ a) (hb : 0 ≤ b) (ha2 : a ≤ 9223372036854775807) (hb2 : b ≤ 9223372036854775807) :
    Calls Tryz.prog 111 #[.int .i64 a, .int .i64 b] w fun e w' => e = .returned (.int .i64 (Int.gcd a b)) ∧ w' = w := by
  go_enter Tryz.func111, Tryz.ntmps111
  go_wp2
  go_loop [0, 1] (fun u v => ∃ x y : Int, 0 ≤ x ∧ 0 ≤ y ∧ x ≤ 9223372036854775807 ∧ y ≤ 9223372036854775807 ∧ u = .int .i64 x ∧ v = .int .i64 y ∧ Hid (Int.gcd x y = Int.gcd a b)) (fun u _ => (intOf u).toNat)
  case atStart => exact ⟨a, b, ha, hb, ha2, hb2, rfl, rfl, rfl⟩
  case round =>
    obtain ⟨x, y, hx, hy, hx2, hy2, rfl, rfl, hg⟩ := hrel
    by_cases h0 : x = 0
    · subst h0
      go_wp2
      go_ret
      exact ⟨ret_int (by have := hg.out; rw [← this]; simp; omega), rfl⟩
    · have hne : (x == 0) = false := by simp [h0]
      have hlt : y % x < x := Int.emod_lt_of_pos _ (by omega)
      have hge : 0 ≤ y % x := Int.emod_nonneg _ h0
      go_wp2
      go_round
      case rel => exact ⟨_, _, hge, hx, by omega, hx2, rfl, rfl, by rw [← hg.out]; exact M.gcd_step x y hx hy⟩
      case measure => simp [intOf]; omega

set_option maxHeartbeats 400000 in
theorem specGcd (a b : Int) (w : World) (ha : 0 ≤ a) (hb : 0 ≤ b) (ha2 : a ≤ 9223372036854775807) (hb2 : b ≤ 9223372036854775807) :
    Calls Tryz.prog 78 #[.int .i64 a, .int .i64 b] w fun e w' => e = .returned (.int .i64 (Int.gcd a b)) ∧ ∃ m, w' = w.drewN m := by
  go_enter Tryz.func78, Tryz.ntmps78
  go_wp2
  go_loopw [0, 1] (fun u v wx => ∃ x y : Int, 0 ≤ x ∧ 0 ≤ y ∧ x ≤ 9223372036854775807 ∧ y ≤ 9223372036854775807 ∧ u = .int .i64 x ∧ v = .int .i64 y ∧ Hid (Int.gcd x y = Int.gcd a b) ∧ ∃ m, wx = w.drewN m) (fun _ v _ => (intOf v).toNat)
  case atStart => exact ⟨a, b, ha, hb, ha2, hb2, rfl, rfl, rfl, 0, rfl⟩
  case round =>
    obtain ⟨x, y, hx, hy, hx2, hy2, rfl, rfl, hg, m, rfl⟩ := hrel
    by_cases h0 : y = 0
    · subst h0
      go_wp2
      go_ret
      exact ⟨ret_int (by have := hg.out; rw [← this]; simp; omega), m, rfl⟩
    · have hne : (y == 0) = false := by simp [h0]
      have hlt : x % y < y := Int.emod_lt_of_pos _ (by omega)
      have hge : 0 ≤ x % y := Int.emod_nonneg _ h0
      go_wp2
      go_quiet (fail)
      go_roundw
      case rel => (repeat apply Exists.intro); exact ⟨⟨_, _, hy, hge, hy2, by omega, rfl, rfl, by rw [← hg.out]; exact M.gcd_step' x y hx hy, _, World.drewN_drewN _ _ _⟩, rfl⟩
      case measure => simp [intOf]; omega

end Go.Proofs.YtkaokfmaecdkiaaGreatDoor
