/-
  Lists of batches that came in, and filters, as they lie in memory.
-/
import Derived.Test.YtcjeieagpcphjaaDoorWkIn
import Derived.Test.YtcjeieagpcphjaaDoorWkBs
namespace Go.Proofs.YtcjeieagpcphjaaDoor
open Go Go.ChangeShapes Go.WideShapes Go.ChangeAt Go.RowKit Go.Joins Go.Deep

set_option maxRecDepth 100000 in
theorem batches_in {H : Type} {enc : TypeId × Value → H} {W : World} {base fuel : Nat} {spare : Nat → Bool} {held : Bool} {x : DataW H × List MemPlace} {y : Value}
    (h : DataW.trod enc Tryd.prog W base spare held fuel 25 [y] = some x) : ∃ a len cap bs, y = .slice a len cap ∧ BtsIn a len bs W ∧ len ≤ 9223372036854775807 := by
  rcases open_slice Tryd.underlying25 h with ⟨hcs, _⟩ | ⟨ad, len, cap, m, n, D, Pl, hcs, _, hl, hm9, hmm, _, hx⟩
  · simp at hcs
    subst hcs
    exact ⟨none, 0, 0, fun _ => ⟨0, none, 0, 0, fun _ => 0⟩, rfl, Or.inl rfl, by omega⟩
  · simp at hcs
    subst hcs
    refine ⟨some ad, len, cap, ?_⟩
    have hlm : len ≤ m := by rw [hmm]; split <;> omega
    have hbig : len ≤ 9223372036854775807 := by unfold maxLen at hm9; omega
    by_cases h0 : len = 0
    · exact ⟨fun _ => ⟨0, none, 0, 0, fun _ => 0⟩, rfl, Or.inl h0, hbig⟩
    obtain ⟨b, off, spot⟩ := ad
    have hsp : spot = none := by
      obtain ⟨cs', h1, _⟩ := hx 0 (by omega)
      rw [cellsBatch] at h1
      obtain ⟨_, hlen, hcell⟩ := World.cells?_some h1
      have q0 := hcell 0 (by omega)
      rw [List.getElem?_eq_getElem (by omega)] at q0
      have := World.cell?_spot q0
      simpa [Addr.add] using this
    subst hsp
    have each : ∀ i, ∃ r : Be, i < len → BeCells b (off + i * 2) r W ∧ IntsIn r.pa r.n r.f W ∧ r.n ≤ 9223372036854775807 := by
      intro i
      by_cases hi : i < len
      · obtain ⟨cs', h1, h2⟩ := hx i (by omega)
        rw [cellsBatch] at h1
        obtain ⟨_, hlen, hcell⟩ := World.cells?_some h1
        obtain ⟨wt, a, n, k, f, rfl, h3, h4⟩ := batch_in h2 hlen
        have q0 := hcell 0 (by omega)
        have q1 := hcell 1 (by omega)
        rw [Addr.add_add] at q0 q1
        simp at q0 q1
        refine ⟨⟨wt, a, n, k, f⟩, fun _ => ⟨⟨?_, ?_⟩, h3, h4⟩⟩
        · rw [← q0, Addr.add_lit]
        · rw [← q1, Addr.add_lit]; rfl
      · exact ⟨⟨0, none, 0, 0, fun _ => 0⟩, fun h => absurd h hi⟩
    obtain ⟨bs, hbs⟩ := Classical.axiomOfChoice each
    exact ⟨bs, rfl, Or.inr ⟨b, off, rfl, fun i hi => hbs i hi⟩, hbig⟩
end Go.Proofs.YtcjeieagpcphjaaDoor
