/-
  The contract of the model's source over some bytes: what it makes is a source.
-/
import Derived.Test.YtogfjomfhenhfaaGreatDoorDrawA
import Derived.Deep.QuietTactic
import Derived.BigQuiet
namespace Go.Proofs.YtogfjomfhenhfaaGreatDoor
open Go.RowKit

/-- Bytes that lie in memory. -/
def Bytes (a : Option Addr) (len : Nat) (w : World) : Prop := ∀ i, i < len → ∃ cb co z, a = some ⟨cb, co, none⟩ ∧ w.cell? ⟨cb, co + i, none⟩ = some (.int .u8 z) ∧ 0 ≤ z ∧ z ≤ 255

theorem Bytes.below {a : Option Addr} {len : Nat} {w w' : World} (h : Bytes a len w) (hb : Below w.heap.size w w') : Bytes a len w' := fun i hi => by
  obtain ⟨cb, co, z, e, hc, z0, z1⟩ := h i hi
  exact ⟨cb, co, z, e, (hb.cell (p := ⟨cb, co + i, none⟩) (World.block_lt_of_cell? _ _ hc)).trans hc, z0, z1⟩

theorem SrcC.set3 {sb : Nat} {sl : Value} {at_ mix size : Int} {w : World} (h : SrcC sb sl at_ mix size w) (x : Int) : SrcC sb sl at_ mix x (w.setCell ⟨sb, 3, none⟩ (.int .i64 x)) := by
  obtain ⟨c0, c1, c2, c3, f0, f1, f2, f3⟩ := h
  refine ⟨?_, ?_, ?_, World.cell?_setCell_same _ _ _ c3, ?_, ?_, ?_, ?_⟩
  · rw [World.cell?_setCell_other _ _ _ _ (by simp)]; exact c0
  · rw [World.cell?_setCell_other _ _ _ _ (by simp)]; exact c1
  · rw [World.cell?_setCell_other _ _ _ _ (by simp)]; exact c2
  all_goals simpa using ‹_›

theorem sub_set {B : Nat} {w W : World} (h : Below B w W) (o : Nat) (v : Value) : Below B w (W.setCell ⟨B, o, none⟩ v) :=
  ⟨h.os, h.tape, h.output, by simpa using h.size, fun k hk => (Below.heap_setCell _ _ _ _ (by show k ≠ B; omega)).trans (h.block k hk)⟩

theorem sub_drew {B : Nat} {w W : World} (h : Below B w W) : Below B w W.drew := ⟨h.os, h.tape, h.output, h.size, h.block⟩

theorem src_mk {w W : World} {a : Option Addr} {len cap : Nat} {m z : Int} (h : SrcC w.heap.size (.slice a len cap) 0 m z W) (z0 : 0 ≤ z) (z1 : z ≤ 12) (hl : len ≤ 4194304) (H : Bytes a len w) (hb : Below w.heap.size w W) : Src w.heap.size W := by
  refine ⟨a, len, cap, 0, m, z, h, by omega, by omega, hl, z0, z1, fun i hi => ?_⟩
  obtain ⟨cb, co, y, e, hc, y0, y1⟩ := H i hi
  have := World.block_lt_of_cell? _ _ hc
  exact ⟨cb, co, y, e, this, (hb.cell (p := ⟨cb, co + i, none⟩) this).trans hc, y0, y1⟩

set_option maxRecDepth 100000 in
set_option maxHeartbeats 4000000 in
theorem source_any (a : Option Addr) (len cap : Nat) (w : World) (h : Bytes a len w) (hl : len ≤ 4194304) :
    Calls Tryz.prog 36 #[.slice a len cap] w fun e w' => e = .returned (.pointer (some ⟨w.heap.size, 0, none⟩)) ∧ Src w.heap.size w' ∧ Below w.heap.size w w' := by
  have H : Hid (Bytes a len w) := h
  clear h
  go_enter Tryz.func36, Tryz.ntmps36
  go_wp2_with fail
  go_loopw [4] (fun i wx => ∃ (k : Nat) (m : Int), k ≤ len ∧ k ≤ 64 ∧ i = .int .i64 k ∧ Hid (SrcC w.heap.size (.slice a len cap) 0 m 0 wx ∧ Below w.heap.size w wx)) (fun i _ => 64 - (intOf i).toNat)
  case atStart => 
    exact ⟨0, 88172645463325252, Nat.zero_le _, Nat.zero_le _, rfl, ⟨by simp, by simp, by simp, by simp, by simp, by simp, by simp, by simp⟩, (Below.refl _ _).alloc (Nat.le_refl _) _⟩
  case round =>
    obtain ⟨k, m, hk, hk2, rfl, HS⟩ := hrel
    obtain ⟨c0, c1, c2, c3, f0, f1, f2, f3⟩ := HS.out.1
    by_cases hlt : k < len
    · have hltz : (k : Int) < (len : Int) := by omega
      by_cases h64 : k < 64
      · have h64z : (k : Int) < 64 := by omega
        have hk0 : (0 : Int) ≤ (k : Int) := by omega
        obtain ⟨cb, co, y, rfl, hc, y0, y1⟩ := H.out k hlt
        have hc' := (HS.out.2.cell (p := ⟨cb, co + k, none⟩) (World.block_lt_of_cell? _ _ hc)).trans hc
        clear hc
        go_wp2_with fail
        go_region
        go_wp2_with fail
        go_roundw
        case rel => exact ⟨k + 1, _, by omega, by omega, by go_num, HS.out.1.set2 _, sub_drew (sub_set HS.out.2 2 _)⟩
        case measure => simp [intOf]; omega
      · have h64z : ¬ (k : Int) < 64 := by omega
        by_cases hz : (len : Int) / 20 ≤ 12
        · go_wp2_with fail
          go_ret
          exact ⟨rfl, src_mk (HS.out.1.set3 _) (by omega) hz hl H.out (sub_set HS.out.2 3 _), sub_set HS.out.2 3 _⟩
        · go_wp2_with fail
          go_ret
          exact ⟨rfl, src_mk ((HS.out.1.set3 _).set3 _) (by omega) (by omega) hl H.out (sub_set (sub_set HS.out.2 3 _) 3 _), sub_set (sub_set HS.out.2 3 _) 3 _⟩
    · have hltz : ¬ (k : Int) < (len : Int) := by omega
      have hz : (len : Int) / 20 ≤ 12 := by omega
      go_wp2_with fail
      go_ret
      exact ⟨rfl, src_mk (HS.out.1.set3 _) (by omega) hz hl H.out (sub_set HS.out.2 3 _), sub_set HS.out.2 3 _⟩
end Go.Proofs.YtogfjomfhenhfaaGreatDoor
