/-
  Lists of lists that came in.
-/
import Derived.Test.YtnfdamkjkclnmaaPgIn
import Derived.Test.YtnfdamkjkclnmaaMnMem
namespace Go.Proofs.Ytnfdamkjkclnmaa
open Go Go.ChangeShapes Go.WideShapes Go.ChangeAt Go.RowKit Go.Joins Go.Deep

set_option maxRecDepth 100000 in
theorem plists_in {H : Type} {enc : TypeId × Value → H} {W : World} {base fuel : Nat} {spare : Nat → Bool} {held : Bool} {x : DataW H × List MemPlace} {y : Value}
    (h : DataW.trod enc Try.prog W base spare held fuel 36 [y] = some x) : ∃ a len cap LN L, y = .slice a len cap ∧ LsIn a len LN L W ∧ len ≤ 9223372036854775807 ∧ ∀ i, i < len → LN i ≤ 9223372036854775807 := by
  rcases open_slice1 Try.underlying36 ncellsIsP h with ⟨hcs, _⟩ | ⟨ad, len, cap, m, n, V, D, Pl, hcs, _, hl, hm9, hmm, _, hcell⟩
  · simp at hcs
    subst hcs
    exact ⟨none, 0, 0, fun _ => 0, fun _ _ => 0, rfl, Or.inl rfl, by omega, fun i hi => absurd hi (by omega)⟩
  · simp at hcs
    subst hcs
    refine ⟨some ad, len, cap, ?_⟩
    have hlm : len ≤ m := by rw [hmm]; split <;> omega
    have hbig : len ≤ 9223372036854775807 := by unfold maxLen at hm9; omega
    by_cases h0 : len = 0
    · exact ⟨fun _ => 0, fun _ _ => 0, rfl, Or.inl h0, hbig, fun i hi => absurd hi (by omega)⟩
    obtain ⟨b, off, spot⟩ := ad
    have hsp : spot = none := by
      have q0 := (hcell 0 (by omega)).1
      have := World.cell?_spot q0
      simpa [Addr.add] using this
    subst hsp
    have each : ∀ i, ∃ z : Nat × (Nat → Int), i < len → (∃ ai ci, W.cell? ⟨b, off + i, none⟩ = some (.slice ai z.1 ci) ∧ IsIn ai z.1 z.2 W) ∧ z.1 ≤ 9223372036854775807 := by
      intro i
      by_cases hi : i < len
      · obtain ⟨h1, h2⟩ := hcell i (by omega)
        obtain ⟨ai, ni, ci, fi, e, h3, h4⟩ := pints_in h2
        refine ⟨(ni, fi), fun _ => ⟨⟨ai, ci, ?_, h3⟩, h4⟩⟩
        rw [← e, ← h1, Addr.add_lit]
      · exact ⟨(0, fun _ => 0), fun h => absurd h hi⟩
    obtain ⟨f, hf⟩ := Classical.axiomOfChoice each
    exact ⟨fun i => (f i).1, fun i => (f i).2, rfl, Or.inr ⟨b, off, rfl, fun i hi => (hf i hi).1⟩, hbig, fun i hi => (hf i hi).2⟩
end Go.Proofs.Ytnfdamkjkclnmaa
