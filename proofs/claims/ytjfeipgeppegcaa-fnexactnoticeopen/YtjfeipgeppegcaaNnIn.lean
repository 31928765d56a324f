/-
  Lists of notices and of numbers that came in, as they lie in memory.
-/
import Derived.Test.YtjfeipgeppegcaaNnMem
import Derived.Lib.SmallJoins
import Derived.Deep.Slices
import Derived.ProofKit
namespace Go.Proofs.Ytjfeipgeppegcaa
open Go Go.ChangeShapes Go.WideShapes Go.ChangeAt Go.RowKit Go.Joins Go.Deep

theorem ncellsI : Try.prog.cellsOf 2 = 1 := by kernel_rfl
theorem ncellsIsP : Try.prog.cellsOf 29 = 1 := by kernel_rfl
set_option maxRecDepth 100000 in
theorem pints_in {H : Type} {enc : TypeId × Value → H} {W : World} {base fuel : Nat} {spare : Nat → Bool} {held : Bool} {x : DataW H × List MemPlace} {y : Value}
    (h : DataW.trod enc Try.prog W base spare held fuel 29 [y] = some x) : ∃ a len cap f, y = .slice a len cap ∧ IsIn a len f W ∧ len ≤ 9223372036854775807 := by
  rcases open_slice1 Try.underlying29 ncellsI h with ⟨hcs, _⟩ | ⟨ad, len, cap, m, n, V, D, Pl, hcs, _, hl, hm9, hmm, _, hcell⟩
  · simp at hcs
    subst hcs
    exact ⟨none, 0, 0, fun _ => 0, rfl, Or.inl rfl, by omega⟩
  · simp at hcs
    subst hcs
    refine ⟨some ad, len, cap, ?_⟩
    have hlm : len ≤ m := by rw [hmm]; split <;> omega
    have hbig : len ≤ 9223372036854775807 := by unfold maxLen at hm9; omega
    by_cases h0 : len = 0
    · exact ⟨fun _ => 0, rfl, Or.inl h0, hbig⟩
    obtain ⟨b, off, spot⟩ := ad
    have hsp : spot = none := by
      have q0 := (hcell 0 (by omega)).1
      have := World.cell?_spot q0
      simpa [Addr.add] using this
    subst hsp
    have each : ∀ i, ∃ z : Int, i < len → W.cell? ⟨b, off + i, none⟩ = some (.int .i64 z) := by
      intro i
      by_cases hi : i < len
      · obtain ⟨h1, h2⟩ := hcell i (by omega)
        obtain ⟨z, e, _, _⟩ := DataW.trod_int Try.underlying2 h2
        simp at e
        refine ⟨z, fun _ => ?_⟩
        rw [← e, ← h1, Addr.add_lit]
      · exact ⟨0, fun h => absurd h hi⟩
    obtain ⟨f, hf⟩ := Classical.axiomOfChoice each
    exact ⟨f, rfl, Or.inr ⟨b, off, rfl, fun i hi => hf i hi⟩, hbig⟩
theorem ncellsBo : Try.prog.cellsOf 4 = 1 := by kernel_rfl
theorem ncellsNn : Try.prog.cellsOf 56 = 4 := by kernel_rfl
set_option maxRecDepth 100000 in
theorem notice_in {H : Type} {enc : TypeId × Value → H} {W : World} {base fuel : Nat} {spare : Nat → Bool} {held : Bool} {x : DataW H × List MemPlace} {l : List Value}
    (h : DataW.trod enc Try.prog W base spare held fuel 56 l = some x) (hsz : l.length = 4) :
    ∃ r : Ne, l = [.int .i64 r.nu, .int .i64 r.st, .slice r.pa r.an r.ak, .bool r.fl] ∧ IsIn r.pa r.an r.A W ∧ r.an ≤ 9223372036854775807 := by
  obtain ⟨xs, k, hk, hxy, _, hxl, hf⟩ := DataW.trod_struct Try.underlying56 h
  match xs, hxl, l, hsz with
  | [y0, y1, y2, y3], _, [v0, v1, v2, v3], _ =>
    have g0 := hf 0 _ rfl
    have g1 := hf 1 _ rfl
    have g2 := hf 2 _ rfl
    have g3 := hf 3 _ rfl
    simp [ncellsI, ncellsIsP, ncellsBo] at g0 g1 g2 g3
    obtain ⟨z, e, _, _⟩ := DataW.trod_int Try.underlying2 g0
    obtain ⟨z1, e1, _, _⟩ := DataW.trod_int Try.underlying2 g1
    simp at e e1
    subst e e1
    obtain ⟨a, n, k, f, rfl, h1, h2⟩ := pints_in g2
    obtain ⟨b3, e3, _⟩ := DataW.trod_bool Try.underlying4 g3
    simp at e3
    subst e3
    exact ⟨⟨z, z1, a, n, k, f, b3⟩, rfl, h1, h2⟩
set_option maxRecDepth 100000 in
theorem notices_in {H : Type} {enc : TypeId × Value → H} {W : World} {base fuel : Nat} {spare : Nat → Bool} {held : Bool} {x : DataW H × List MemPlace} {y : Value}
    (h : DataW.trod enc Try.prog W base spare held fuel 34 [y] = some x) : ∃ a len cap bs, y = .slice a len cap ∧ NnsIn a len bs W ∧ len ≤ 9223372036854775807 := by
  rcases open_slice Try.underlying34 h with ⟨hcs, _⟩ | ⟨ad, len, cap, m, n, D, Pl, hcs, _, hl, hm9, hmm, _, hx⟩
  · simp at hcs
    subst hcs
    exact ⟨none, 0, 0, fun _ => ⟨0, 0, none, 0, 0, fun _ => 0, false⟩, rfl, Or.inl rfl, by omega⟩
  · simp at hcs
    subst hcs
    refine ⟨some ad, len, cap, ?_⟩
    have hlm : len ≤ m := by rw [hmm]; split <;> omega
    have hbig : len ≤ 9223372036854775807 := by unfold maxLen at hm9; omega
    by_cases h0 : len = 0
    · exact ⟨fun _ => ⟨0, 0, none, 0, 0, fun _ => 0, false⟩, rfl, Or.inl h0, hbig⟩
    obtain ⟨b, off, spot⟩ := ad
    have hsp : spot = none := by
      obtain ⟨cs', h1, _⟩ := hx 0 (by omega)
      rw [ncellsNn] at h1
      obtain ⟨_, hlen, hcell⟩ := World.cells?_some h1
      have q0 := hcell 0 (by omega)
      rw [List.getElem?_eq_getElem (by omega)] at q0
      have := World.cell?_spot q0
      simpa [Addr.add] using this
    subst hsp
    have each : ∀ i, ∃ r : Ne, i < len → NeCells b (off + i * 4) r W ∧ IsIn r.pa r.an r.A W ∧ r.an ≤ 9223372036854775807 := by
      intro i
      by_cases hi : i < len
      · obtain ⟨cs', h1, h2⟩ := hx i (by omega)
        rw [ncellsNn] at h1
        obtain ⟨_, hlen, hcell⟩ := World.cells?_some h1
        obtain ⟨r, rfl, h3, h4⟩ := notice_in h2 hlen
        have q0 := hcell 0 (by omega)
        have q1 := hcell 1 (by omega)
        have q2 := hcell 2 (by omega)
        have q3 := hcell 3 (by omega)
        rw [Addr.add_add] at q0 q1 q2 q3
        simp at q0 q1 q2 q3
        refine ⟨r, fun _ => ⟨⟨?_, ?_, ?_, ?_⟩, h3, h4⟩⟩
        · rw [← q0, Addr.add_lit]
        · rw [← q1, Addr.add_lit]; rfl
        · rw [← q2, Addr.add_lit]; rfl
        · rw [← q3, Addr.add_lit]; rfl
      · exact ⟨⟨0, 0, none, 0, 0, fun _ => 0, false⟩, fun h => absurd h hi⟩
    obtain ⟨bs, hbs⟩ := Classical.axiomOfChoice each
    exact ⟨bs, rfl, Or.inr ⟨b, off, rfl, fun i hi => hbs i hi⟩, hbig⟩
end Go.Proofs.Ytjfeipgeppegcaa
