/-
  A slice of bytes that came in, as bytes that lie in memory.
-/
import Derived.Test.YtogfjomfhenhfaaGreatDoorSource
import Derived.Lib.SmallJoins
namespace Go.Proofs.YtogfjomfhenhfaaGreatDoor
open Go.RowKit Go.Joins

theorem trod_u8_cell {P : Program} {w : World} {H : Type} {enc : TypeId × Value → H} {base fuel : Nat} {spare : Nat → Bool} {held : Bool} {t : TypeId} {v : Value} {x : DataW H × List MemPlace} (ht : P.underlying t = some (.int .u8)) (h : DataW.trod enc P w base spare held fuel t [v] = some x) :
    ∃ z, v = .int .u8 z ∧ 0 ≤ z ∧ z ≤ 255 := by
  cases fuel with
  | zero => simp [DataW.trod] at h
  | succ m =>
    cases v with
    | int k z =>
      simp only [DataW.trod, ht] at h
      split at h
      · rename_i hh
        obtain ⟨rfl, hw⟩ := hh
        have := bounds_u8 hw
        exact ⟨z, rfl, this.1, this.2⟩
      · cases h
    | _ => simp [DataW.trod, ht] at h

theorem bytes_of (V : Nat → Value) (W : World) (x : Addr) (len m : Nat) (hm : len ≤ m) (hV : ∀ i, i < m → W.cell? (x.add i) = some (V i) ∧ ∃ z, V i = .int .u8 z ∧ 0 ≤ z ∧ z ≤ 255) : Bytes (some x) len W := by
  intro i hi
  obtain ⟨b, off, spot⟩ := x
  have hs : spot = none := by
    have := World.cell?_spot (hV 0 (by omega)).1
    simpa [Addr.add] using this
  subst hs
  obtain ⟨h1, z, hz, z0, z1⟩ := hV i (by omega)
  refine ⟨b, off, z, rfl, ?_, z0, z1⟩
  rw [hz] at h1
  by_cases e : i = 0
  · subst e; simpa [Addr.add] using h1
  · simpa [Addr.add, e] using h1

theorem bytes_nil (W : World) (a : Option Addr) : Bytes a 0 W := fun i hi => by omega
end Go.Proofs.YtogfjomfhenhfaaGreatDoor
