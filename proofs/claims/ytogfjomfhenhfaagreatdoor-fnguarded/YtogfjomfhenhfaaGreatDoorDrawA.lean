/-
  The contracts of the model's source of draws: a number, one of so many, an edge: whatever the source holds.
-/
import Derived.Test.YtogfjomfhenhfaaGreatDoorDrawN
namespace Go.Proofs.YtogfjomfhenhfaaGreatDoor
open Go.RowKit

/-- A source of draws that lies in block sb: its four cells; the bytes that it draws from lie elsewhere. -/
def Src (sb : Nat) (w : World) : Prop := ∃ (a : Option Addr) (len cap : Nat) (at_ mix size : Int), SrcC sb (.slice a len cap) at_ mix size w ∧ 0 ≤ at_ ∧ at_ ≤ len ∧ len ≤ 4194304 ∧ 0 ≤ size ∧ size ≤ 12 ∧
  ∀ i, i < len → ∃ cb co z, a = some ⟨cb, co, none⟩ ∧ cb < sb ∧ w.cell? ⟨cb, co + i, none⟩ = some (.int .u8 z) ∧ 0 ≤ z ∧ z ≤ 255

theorem SrcC.lt {sb : Nat} {sl : Value} {at_ mix size : Int} {w : World} (h : SrcC sb sl at_ mix size w) : sb < w.heap.size := World.block_lt_of_cell? _ _ h.1
theorem Src.lt {sb : Nat} {w : World} (h : Src sb w) : sb < w.heap.size := by obtain ⟨a, len, cap, at_, mix, size, h, _⟩ := h; exact h.lt

theorem SrcC.below {sb : Nat} {sl : Value} {at_ mix size : Int} {w w' : World} (h : SrcC sb sl at_ mix size w) (hb : Below w.heap.size w w') : SrcC sb sl at_ mix size w' := by
  have hl := h.lt
  obtain ⟨c0, c1, c2, c3, f0, f1, f2, f3⟩ := h
  exact ⟨(hb.cell (p := ⟨sb, 0, none⟩) hl).trans c0, (hb.cell (p := ⟨sb, 1, none⟩) hl).trans c1, (hb.cell (p := ⟨sb, 2, none⟩) hl).trans c2, (hb.cell (p := ⟨sb, 3, none⟩) hl).trans c3, (hb.frozen (p := ⟨sb, 0, none⟩) hl).trans f0, (hb.frozen (p := ⟨sb, 1, none⟩) hl).trans f1, (hb.frozen (p := ⟨sb, 2, none⟩) hl).trans f2, (hb.frozen (p := ⟨sb, 3, none⟩) hl).trans f3⟩

theorem Src.below {sb : Nat} {w w' : World} (h : Src sb w) (hb : Below w.heap.size w w') : Src sb w' := by
  obtain ⟨a, len, cap, at_, mix, size, h, h1, h2, h3, h4, h5, h6⟩ := h
  refine ⟨a, len, cap, at_, mix, size, h.below hb, h1, h2, h3, h4, h5, fun i hi => ?_⟩
  obtain ⟨cb, co, z, e, hne, hc, z0, z1⟩ := h6 i hi
  exact ⟨cb, co, z, e, hne, (hb.cell (p := ⟨cb, co + i, none⟩) (World.block_lt_of_cell? _ _ hc)).trans hc, z0, z1⟩

/-- What every draw leaves. -/
def Drew (sb : Nat) (w w' : World) : Prop := Src sb w' ∧ Chg sb w w'

theorem src_next {sb : Nat} {w w' : World} {a : Option Addr} {len cap : Nat} {at_ mix size : Int} (h : SrcC sb (.slice a len cap) at_ mix size w') (h1 : 0 ≤ at_) (h2 : at_ ≤ len) (h3 : len ≤ 4194304) (h4 : 0 ≤ size) (h5 : size ≤ 12)
    (h6 : ∀ i, i < len → ∃ cb co z, a = some ⟨cb, co, none⟩ ∧ cb < sb ∧ w.cell? ⟨cb, co + i, none⟩ = some (.int .u8 z) ∧ 0 ≤ z ∧ z ≤ 255) (hc : Chg sb w w') : Src sb w' := by
  refine ⟨a, len, cap, at_, mix, size, h, h1, h2, h3, h4, h5, fun i hi => ?_⟩
  obtain ⟨cb, co, z, e, hne, hcell, z0, z1⟩ := h6 i hi
  exact ⟨cb, co, z, e, hne, (hc.cell (p := ⟨cb, co + i, none⟩) (World.block_lt_of_cell? _ _ hcell) (Nat.ne_of_lt hne)).trans hcell, z0, z1⟩

theorem n_any (sb : Nat) (most : Int) (w : World) (h : Src sb w) (hm2 : most ≤ 9223372036854775807) :
    Calls Tryz.prog 38 #[.pointer (some ⟨sb, 0, none⟩), .int .i64 most] w fun e w' => (∃ v, e = .returned (.int .i64 v) ∧ 0 ≤ v ∧ (1 < most → v < most) ∧ (most ≤ 1 → v = 0)) ∧ Drew sb w w' := by
  have h' := h
  obtain ⟨a, len, cap, at_, mix, size, hS, h1, h2, h3, h4, h5, h6⟩ := h
  by_cases hm : most ≤ 1
  · refine (n_no sb _ at_ mix size most w hS hm).mono ?_
    rintro e w' ⟨rfl, rfl⟩
    exact ⟨⟨0, rfl, by omega, by omega, fun _ => rfl⟩, h', Chg.refl _ _⟩
  · by_cases hat : at_ < (len : Int)
    · obtain ⟨cb, co, z, rfl, hne, hc, z0, z1⟩ := h6 at_.toNat (by omega)
      refine (n_byte sb cb co len cap at_ mix size most z w hS h1 h3 hat (by omega) hm2 hc z0 z1).mono ?_
      rintro e w' ⟨v, m, rfl, v0, v1, hS', hC⟩
      exact ⟨⟨v, rfl, v0, fun _ => v1, by omega⟩, src_next hS' (by omega) (by omega) h3 h4 h5 h6 hC, hC⟩
    · refine (n_none sb len cap a at_ mix size most w hS hat (by omega) hm2).mono ?_
      rintro e w' ⟨v, m, rfl, v0, v1, hS', hC⟩
      exact ⟨⟨v, rfl, v0, fun _ => v1, by omega⟩, src_next hS' h1 h2 h3 h4 h5 h6 hC, hC⟩

set_option maxHeartbeats 400000 in
theorem one_any (sb : Nat) (most : Int) (w : World) (h : Src sb w) (hm2 : most ≤ 9223372036854775807) :
    Calls Tryz.prog 39 #[.pointer (some ⟨sb, 0, none⟩), .int .i64 most] w fun e w' => (∃ b, e = .returned (.bool b)) ∧ Drew sb w w' := by
  have H : Hid (Src sb w) := h
  clear h
  go_enter Tryz.func39, Tryz.ntmps39
  go_wp2_with fail
  refine (n_any sb most _ H.out hm2).mono ?_
  rintro e w' ⟨⟨v, rfl, _, _, _⟩, hD⟩
  have HD : Hid (Drew sb w w') := hD
  clear hD
  go_wp2_with fail
  go_ret
  exact ⟨⟨_, rfl⟩, HD.out⟩

end Go.Proofs.YtogfjomfhenhfaaGreatDoor
