/-
  Programs that came in, as they lie in memory.
-/
import Derived.Test.YtnfdamkjkclnmaaPgMem
import Derived.Lib.SmallJoins
import Derived.Deep.Slices
import Derived.ProofKit
namespace Go.Proofs.Ytnfdamkjkclnmaa
open Go Go.ChangeShapes Go.WideShapes Go.ChangeAt Go.RowKit Go.Joins Go.Deep

theorem ncellsI : Try.prog.cellsOf 2 = 1 := by kernel_rfl
theorem ncellsIsP : Try.prog.cellsOf 60 = 1 := by kernel_rfl
set_option maxRecDepth 100000 in
theorem pints_in {H : Type} {enc : TypeId × Value → H} {W : World} {base fuel : Nat} {spare : Nat → Bool} {held : Bool} {x : DataW H × List MemPlace} {y : Value}
    (h : DataW.trod enc Try.prog W base spare held fuel 60 [y] = some x) : ∃ a len cap f, y = .slice a len cap ∧ IsIn a len f W ∧ len ≤ 9223372036854775807 := by
  rcases open_slice1 Try.underlying60 ncellsI h with ⟨hcs, _⟩ | ⟨ad, len, cap, m, n, V, D, Pl, hcs, _, hl, hm9, hmm, _, hcell⟩
  · simp at hcs
    subst hcs
    exact ⟨none, 0, 0, fun _ => 0, rfl, Or.inl rfl, by omega⟩
  · simp at hcs
    subst hcs
    refine ⟨some ad, len, cap, ?_⟩
    have hlm : len ≤ m := by rw [hmm]; split <;> omega
    have hbig : len ≤ 9223372036854775807 := by unfold maxLen at hm9; omega
    by_cases h0 : len = 0
    · exact ⟨fun _ => 0, rfl, Or.inl h0, hbig⟩
    obtain ⟨b, off, spot⟩ := ad
    have hsp : spot = none := by
      have q0 := (hcell 0 (by omega)).1
      have := World.cell?_spot q0
      simpa [Addr.add] using this
    subst hsp
    have each : ∀ i, ∃ z : Int, i < len → W.cell? ⟨b, off + i, none⟩ = some (.int .i64 z) := by
      intro i
      by_cases hi : i < len
      · obtain ⟨h1, h2⟩ := hcell i (by omega)
        obtain ⟨z, e, _, _⟩ := DataW.trod_int Try.underlying2 h2
        simp at e
        refine ⟨z, fun _ => ?_⟩
        rw [← e, ← h1, Addr.add_lit]
      · exact ⟨0, fun h => absurd h hi⟩
    obtain ⟨f, hf⟩ := Classical.axiomOfChoice each
    exact ⟨f, rfl, Or.inr ⟨b, off, rfl, fun i hi => hf i hi⟩, hbig⟩
end Go.Proofs.Ytnfdamkjkclnmaa
