/-
  The contract of the laws' number out of a code.
-/
import Derived.Test.YtmejmpdljckfgaaDoorSource
namespace Go.Proofs.YtmejmpdljckfgaaDoor
open Go.RowKit

set_option maxRecDepth 100000 in
set_option maxHeartbeats 1000000 in
theorem lwAt_any (a : Option Addr) (len cap : Nat) (at_ most : Int) (w : World) (h : Bytes a len w) (hl : len ≤ 4194304) (h0 : 0 ≤ at_) (h1 : at_ ≤ 1000) (hm : most ≤ 9223372036854775807) :
    Calls Tryd.prog 10 #[.slice a len cap, .int .i64 at_, .int .i64 most] w fun e w' => (∃ v, e = .returned (.int .i64 v) ∧ 0 ≤ v ∧ v ≤ 255 ∧ (1 ≤ most → v < most)) ∧ w' = w := by
  by_cases hm1 : most ≤ 1
  · go_enter Tryd.func10, Tryd.ntmps10
    go_wp2_with fail
    go_ret
    exact ⟨⟨0, rfl, by omega, by omega, by omega⟩, rfl⟩
  · by_cases hl0 : len = 0
    · have e0 : ((len : Int) == 0) = true := by simp [hl0]
      subst hl0
      go_enter Tryd.func10, Tryd.ntmps10
      go_wp2_with fail
      go_ret
      exact ⟨⟨0, rfl, by omega, by omega, by omega⟩, rfl⟩
    · have e0 : ((len : Int) == 0) = false := by simp; omega
      have hpos : (0 : Int) < (len : Int) := by omega
      have r0 : 0 ≤ at_ % (len : Int) := Int.emod_nonneg _ (by omega)
      have r1 : at_ % (len : Int) < (len : Int) := Int.emod_lt_of_pos _ hpos
      obtain ⟨cb, co, z, rfl, hc, z0, z1⟩ := h (at_ % (len : Int)).toNat (by omega)
      have HM : Hid (0 ≤ z % most ∧ z % most ≤ 255 ∧ z % most < most) := ⟨Int.emod_nonneg _ (by omega), by
        have : z % most ≤ z := by
          rcases Int.lt_or_le z most with hz | hz
          · rw [Int.emod_eq_of_lt z0 hz]; omega
          · have := Int.emod_lt_of_pos z (show 0 < most by omega); omega
        omega, Int.emod_lt_of_pos _ (by omega)⟩
      clear h
      have mz : (most == 0) = false := by simp; omega
      go_enter Tryd.func10, Tryd.ntmps10
      go_wp2_with fail
      go_ret
      exact ⟨⟨_, rfl, HM.out.1, HM.out.2.1, fun _ => HM.out.2.2⟩, rfl⟩

/-- The same number in every later world. -/
theorem lwAt_val (a : Option Addr) (len cap : Nat) (at_ most : Int) (w : World) (h : Bytes a len w) (hl : len ≤ 4194304) (h0 : 0 ≤ at_) (h1 : at_ ≤ 1000) (hm1 : 1 < most) (hm : most ≤ 9223372036854775807) :
    ∃ v, 0 ≤ v ∧ v ≤ 255 ∧ v < most ∧ ∀ wx, Below w.heap.size w wx → Calls Tryd.prog 10 #[.slice a len cap, .int .i64 at_, .int .i64 most] wx fun e w' => e = .returned (.int .i64 v) ∧ w' = wx := by
  have hmn : ¬ most ≤ 1 := by omega
  by_cases hl0 : len = 0
  · refine ⟨0, by omega, by omega, by omega, fun wx _ => ?_⟩
    have e0 : ((len : Int) == 0) = true := by simp [hl0]
    subst hl0
    go_enter Tryd.func10, Tryd.ntmps10
    go_wp2_with fail
    go_ret
    exact ⟨rfl, rfl⟩
  · have e0 : ((len : Int) == 0) = false := by simp; omega
    have hpos : (0 : Int) < (len : Int) := by omega
    have r0 : 0 ≤ at_ % (len : Int) := Int.emod_nonneg _ (by omega)
    have r1 : at_ % (len : Int) < (len : Int) := Int.emod_lt_of_pos _ hpos
    obtain ⟨cb, co, z, rfl, hc, z0, z1⟩ := h (at_ % (len : Int)).toNat (by omega)
    have hlt : z % most < most := Int.emod_lt_of_pos _ (by omega)
    refine ⟨z % most, Int.emod_nonneg _ (by omega), ?_, hlt, fun wx hb => ?_⟩
    · rcases Int.lt_or_le z most with hz | hz
      · rw [Int.emod_eq_of_lt z0 hz]; omega
      · omega
    have hc2 := (hb.cell (World.block_lt_of_cell? _ _ hc)).trans hc
    have mz : (most == 0) = false := by simp; omega
    clear h hc hb hlt
    go_enter Tryd.func10, Tryd.ntmps10
    go_wp2_with fail
    go_ret
    exact ⟨rfl, rfl⟩
end Go.Proofs.YtmejmpdljckfgaaDoor
