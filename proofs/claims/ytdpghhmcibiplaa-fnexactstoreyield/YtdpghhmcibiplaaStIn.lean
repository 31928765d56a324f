/-
  Stores, curves and numbers that came in, as they lie in memory.
-/
import Derived.Test.YtdpghhmcibiplaaStEx2
import Derived.Lib.SmallJoins
import Derived.Deep.Slices
import Derived.ProofKit
namespace Go.Proofs.Ytdpghhmcibiplaa
open Go Go.ChangeShapes Go.WideShapes Go.ChangeAt Go.RowKit Go.Joins Go.Deep

theorem cellsI : Try.prog.cellsOf 2 = 1 := by kernel_rfl
theorem cellsMark : Try.prog.cellsOf 68 = 2 := by kernel_rfl
set_option maxRecDepth 100000 in
theorem marks_in {H : Type} {enc : TypeId × Value → H} {W : World} {base fuel : Nat} {spare : Nat → Bool} {held : Bool} {x : DataW H × List MemPlace} {y : Value}
    (h : DataW.trod enc Try.prog W base spare held fuel 22 [y] = some x) : ∃ a len cap ps, y = .slice a len cap ∧ PrsIn a len ps W ∧ len ≤ 9223372036854775807 := by
  rcases open_slice Try.underlying22 h with ⟨hcs, _⟩ | ⟨ad, len, cap, m, n, D, Pl, hcs, _, hl, hm9, hmm, _, hx⟩
  · simp at hcs
    subst hcs
    exact ⟨none, 0, 0, fun _ => ⟨0, 0⟩, rfl, Or.inl rfl, by omega⟩
  · simp at hcs
    subst hcs
    refine ⟨some ad, len, cap, ?_⟩
    have hlm : len ≤ m := by rw [hmm]; split <;> omega
    have hbig : len ≤ 9223372036854775807 := by unfold maxLen at hm9; omega
    by_cases h0 : len = 0
    · exact ⟨fun _ => ⟨0, 0⟩, rfl, Or.inl h0, hbig⟩
    obtain ⟨b, off, spot⟩ := ad
    have hsp : spot = none := by
      obtain ⟨cs', h1, _⟩ := hx 0 (by omega)
      rw [cellsMark] at h1
      obtain ⟨_, hlen, hcell⟩ := World.cells?_some h1
      have q0 := hcell 0 (by omega)
      rw [List.getElem?_eq_getElem (by omega)] at q0
      have := World.cell?_spot q0
      simpa [Addr.add] using this
    subst hsp
    have each : ∀ i, ∃ r, i < len → PrCells b (off + i * 2) r W := by
      intro i
      by_cases hi : i < len
      · obtain ⟨cs', h1, h2⟩ := hx i (by omega)
        rw [cellsMark] at h1
        obtain ⟨_, hlen, hcell⟩ := World.cells?_some h1
        obtain ⟨xs, k, hk, hxy, _, hxl, hf⟩ := DataW.trod_struct Try.underlying68 h2
        match xs, hxl, cs', hlen with
        | [y0, y1], _, [v0, v1], _ =>
          have g0 := hf 0 _ rfl
          have g1 := hf 1 _ rfl
          simp [cellsI] at g0 g1
          obtain ⟨z0, e0, _, _⟩ := DataW.trod_int Try.underlying2 g0
          obtain ⟨z1, e1, _, _⟩ := DataW.trod_int Try.underlying2 g1
          simp at e0 e1
          have q0 := hcell 0 (by omega)
          have q1 := hcell 1 (by omega)
          rw [Addr.add_add] at q0 q1
          simp at q0 q1
          refine ⟨⟨z0, z1⟩, fun _ => ⟨?_, ?_⟩⟩
          · rw [← e0, ← q0, Addr.add_lit]
          · rw [← e1, ← q1, Addr.add_lit]; rfl
      · exact ⟨⟨0, 0⟩, fun h => absurd h hi⟩
    obtain ⟨ps, hps⟩ := Classical.axiomOfChoice each
    exact ⟨ps, rfl, Or.inr ⟨b, off, rfl, fun i hi => hps i hi⟩, hbig⟩
theorem cellsRule : Try.prog.cellsOf 70 = 2 := by kernel_rfl
set_option maxRecDepth 100000 in
theorem rules_in {H : Type} {enc : TypeId × Value → H} {W : World} {base fuel : Nat} {spare : Nat → Bool} {held : Bool} {x : DataW H × List MemPlace} {y : Value}
    (h : DataW.trod enc Try.prog W base spare held fuel 23 [y] = some x) : ∃ a len cap ps, y = .slice a len cap ∧ PrsIn a len ps W ∧ len ≤ 9223372036854775807 := by
  rcases open_slice Try.underlying23 h with ⟨hcs, _⟩ | ⟨ad, len, cap, m, n, D, Pl, hcs, _, hl, hm9, hmm, _, hx⟩
  · simp at hcs
    subst hcs
    exact ⟨none, 0, 0, fun _ => ⟨0, 0⟩, rfl, Or.inl rfl, by omega⟩
  · simp at hcs
    subst hcs
    refine ⟨some ad, len, cap, ?_⟩
    have hlm : len ≤ m := by rw [hmm]; split <;> omega
    have hbig : len ≤ 9223372036854775807 := by unfold maxLen at hm9; omega
    by_cases h0 : len = 0
    · exact ⟨fun _ => ⟨0, 0⟩, rfl, Or.inl h0, hbig⟩
    obtain ⟨b, off, spot⟩ := ad
    have hsp : spot = none := by
      obtain ⟨cs', h1, _⟩ := hx 0 (by omega)
      rw [cellsRule] at h1
      obtain ⟨_, hlen, hcell⟩ := World.cells?_some h1
      have q0 := hcell 0 (by omega)
      rw [List.getElem?_eq_getElem (by omega)] at q0
      have := World.cell?_spot q0
      simpa [Addr.add] using this
    subst hsp
    have each : ∀ i, ∃ r, i < len → PrCells b (off + i * 2) r W := by
      intro i
      by_cases hi : i < len
      · obtain ⟨cs', h1, h2⟩ := hx i (by omega)
        rw [cellsRule] at h1
        obtain ⟨_, hlen, hcell⟩ := World.cells?_some h1
        obtain ⟨xs, k, hk, hxy, _, hxl, hf⟩ := DataW.trod_struct Try.underlying70 h2
        match xs, hxl, cs', hlen with
        | [y0, y1], _, [v0, v1], _ =>
          have g0 := hf 0 _ rfl
          have g1 := hf 1 _ rfl
          simp [cellsI] at g0 g1
          obtain ⟨z0, e0, _, _⟩ := DataW.trod_int Try.underlying2 g0
          obtain ⟨z1, e1, _, _⟩ := DataW.trod_int Try.underlying2 g1
          simp at e0 e1
          have q0 := hcell 0 (by omega)
          have q1 := hcell 1 (by omega)
          rw [Addr.add_add] at q0 q1
          simp at q0 q1
          refine ⟨⟨z0, z1⟩, fun _ => ⟨?_, ?_⟩⟩
          · rw [← e0, ← q0, Addr.add_lit]
          · rw [← e1, ← q1, Addr.add_lit]; rfl
      · exact ⟨⟨0, 0⟩, fun h => absurd h hi⟩
    obtain ⟨ps, hps⟩ := Classical.axiomOfChoice each
    exact ⟨ps, rfl, Or.inr ⟨b, off, rfl, fun i hi => hps i hi⟩, hbig⟩
theorem cellsStore : Try.prog.cellsOf 25 = 3 := by kernel_rfl
theorem cellsMarks : Try.prog.cellsOf 22 = 1 := by kernel_rfl
theorem cellsRules : Try.prog.cellsOf 23 = 1 := by kernel_rfl
set_option maxRecDepth 100000 in
theorem store_in {H : Type} {enc : TypeId × Value → H} {W : World} {base fuel : Nat} {spare : Nat → Bool} {held : Bool} {x : DataW H × List MemPlace} {cs : Array Value}
    (h : DataW.trod enc Try.prog W base spare held fuel 25 cs.toList = some x) (hsz : cs.size = Try.prog.cellsOf 25) :
    ∃ ca cn ck ra rn rk v c r, cs = #[.slice ca cn ck, .slice ra rn rk, .int .i64 v] ∧ (PrsIn ca cn c W ∧ cn ≤ 9223372036854775807) ∧ (PrsIn ra rn r W ∧ rn ≤ 9223372036854775807) := by
  rw [cellsStore] at hsz
  obtain ⟨xs, k, hk, hxy, _, hxl, hf⟩ := DataW.trod_struct Try.underlying25 h
  obtain ⟨l⟩ := cs
  match xs, hxl, l, hsz with
  | [y0, y1, y2], _, [v0, v1, v2], _ =>
    have g0 := hf 0 _ rfl
    have g1 := hf 1 _ rfl
    have g2 := hf 2 _ rfl
    simp [cellsI, cellsMarks, cellsRules] at g0 g1 g2
    obtain ⟨ca, cn, ck, c, rfl, h1, h2⟩ := marks_in g0
    obtain ⟨ra, rn, rk, r, rfl, h3, h4⟩ := rules_in g1
    obtain ⟨z, e, _, _⟩ := DataW.trod_int Try.underlying2 g2
    simp at e
    subst e
    exact ⟨ca, cn, ck, ra, rn, rk, z, c, r, rfl, ⟨h1, h2⟩, h3, h4⟩
theorem ints_in {H : Type} {enc : TypeId × Value → H} {W : World} {base fuel : Nat} {spare : Nat → Bool} {held : Bool} {x : DataW H × List MemPlace} {a : Option Addr} {len cap : Nat}
    (h : DataW.trod enc Try.prog W base spare held fuel 26 [.slice a len cap] = some x) : ∃ f, IntsIn a len f W := by
  rcases open_slice1 Try.underlying26 cellsI h with ⟨hcs, _⟩ | ⟨ad, l, c, m, n, V, D, Pl, hcs, _, hl, _, hmm, _, hx⟩
  · simp at hcs
    obtain ⟨rfl, rfl, rfl⟩ := hcs
    exact ⟨fun _ => 0, Or.inl rfl⟩
  · simp at hcs
    obtain ⟨rfl, rfl, rfl⟩ := hcs
    have hlm : len ≤ m := by rw [hmm]; split <;> omega
    by_cases h0 : len = 0
    · exact ⟨fun _ => 0, Or.inl h0⟩
    obtain ⟨b, off, spot⟩ := ad
    have hsp : spot = none := by
      have := World.cell?_spot (hx 0 (by omega)).1
      simpa [Addr.add] using this
    subst hsp
    have each : ∀ i, ∃ z : Int, i < len → W.cell? ⟨b, off + i, none⟩ = some (.int .i64 z) := by
      intro i
      by_cases hi : i < len
      · obtain ⟨h1, h2⟩ := hx i (by omega)
        obtain ⟨z, e, _, _⟩ := DataW.trod_int Try.underlying2 h2
        simp at e
        rw [Addr.add_lit, e] at h1
        exact ⟨z, fun _ => h1⟩
      · exact ⟨0, fun h => absurd h hi⟩
    obtain ⟨f, hf⟩ := Classical.axiomOfChoice each
    exact ⟨f, Or.inr ⟨b, off, rfl, fun i hi => hf i hi⟩⟩
end Go.Proofs.Ytdpghhmcibiplaa
