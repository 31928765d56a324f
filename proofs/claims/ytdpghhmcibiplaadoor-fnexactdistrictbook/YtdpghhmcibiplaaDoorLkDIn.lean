/-
  Districts that came in, as they lie in memory.
-/
import Derived.Test.YtdpghhmcibiplaaDoorNtMem
import Derived.Test.YtdpghhmcibiplaaDoorNtIn
import Derived.Lib.SmallJoins
import Derived.Deep.Slices
import Derived.ProofKit
namespace Go.Proofs.YtdpghhmcibiplaaDoor
open Go Go.ChangeShapes Go.WideShapes Go.ChangeAt Go.RowKit Go.Joins Go.Deep

/-- A district, as a value. -/
abbrev diV (a : Option Addr) (n k : Nat) (b : Option Addr) (m l : Nat) (c : Option Addr) (q r : Nat) : Value := .agg #[.slice a n k, .slice b m l, .slice c q r]
abbrev diL (a : Option Addr) (n k : Nat) (b : Option Addr) (m l : Nat) (c : Option Addr) (q r : Nat) : List Value := [.slice a n k, .slice b m l, .slice c q r]
theorem ncellsIs : Tryd.prog.cellsOf 23 = 1 := by kernel_rfl
theorem cellsDi : Tryd.prog.cellsOf 80 = 3 := by kernel_rfl
set_option maxRecDepth 100000 in
theorem nints_in {H : Type} {enc : TypeId × Value → H} {W : World} {base fuel : Nat} {spare : Nat → Bool} {held : Bool} {x : DataW H × List MemPlace} {y : Value}
    (h : DataW.trod enc Tryd.prog W base spare held fuel 23 [y] = some x) : ∃ a len cap f, y = .slice a len cap ∧ IsIn a len f W ∧ len ≤ 9223372036854775807 := by
  rcases open_slice1 Tryd.underlying23 ncellsI h with ⟨hcs, _⟩ | ⟨ad, len, cap, m, n, V, D, Pl, hcs, _, hl, hm9, hmm, _, hcell⟩
  · simp at hcs
    subst hcs
    exact ⟨none, 0, 0, fun _ => 0, rfl, Or.inl rfl, by omega⟩
  · simp at hcs
    subst hcs
    refine ⟨some ad, len, cap, ?_⟩
    have hlm : len ≤ m := by rw [hmm]; split <;> omega
    have hbig : len ≤ 9223372036854775807 := by unfold maxLen at hm9; omega
    by_cases h0 : len = 0
    · exact ⟨fun _ => 0, rfl, Or.inl h0, hbig⟩
    obtain ⟨b, off, spot⟩ := ad
    have hsp : spot = none := by
      have q0 := (hcell 0 (by omega)).1
      have := World.cell?_spot q0
      simpa [Addr.add] using this
    subst hsp
    have each : ∀ i, ∃ z : Int, i < len → W.cell? ⟨b, off + i, none⟩ = some (.int .i64 z) := by
      intro i
      by_cases hi : i < len
      · obtain ⟨h1, h2⟩ := hcell i (by omega)
        obtain ⟨z, e, _, _⟩ := DataW.trod_int Tryd.underlying2 h2
        simp at e
        refine ⟨z, fun _ => ?_⟩
        rw [← e, ← h1, Addr.add_lit]
      · exact ⟨0, fun h => absurd h hi⟩
    obtain ⟨f, hf⟩ := Classical.axiomOfChoice each
    exact ⟨f, rfl, Or.inr ⟨b, off, rfl, fun i hi => hf i hi⟩, hbig⟩
/-- No list is longer than a list can be. -/
def NtLens (n : Nt.Net) : Prop := n.ln ≤ 9223372036854775807 ∧ n.fn ≤ 9223372036854775807 ∧ n.wn ≤ 9223372036854775807

set_option maxRecDepth 100000 in
theorem district_in {H : Type} {enc : TypeId × Value → H} {W : World} {base fuel : Nat} {spare : Nat → Bool} {held : Bool} {x : DataW H × List MemPlace} {l : List Value}
    (h : DataW.trod enc Tryd.prog W base spare held fuel 80 l = some x) (hsz : l.length = 3) :
    ∃ a n k f b m j g c q r u, l = diL a n k b m j c q r ∧ (IsIn a n f W ∧ n ≤ 9223372036854775807) ∧ (IsIn b m g W ∧ m ≤ 9223372036854775807) ∧ (IsIn c q u W ∧ q ≤ 9223372036854775807) := by
  obtain ⟨xs, k, hk, hxy, _, hxl, hf⟩ := DataW.trod_struct Tryd.underlying80 h
  match xs, hxl, l, hsz with
  | [y0, y1, y2], _, [v0, v1, v2], _ =>
    have g0 := hf 0 _ rfl
    have g1 := hf 1 _ rfl
    have g2 := hf 2 _ rfl
    simp [ncellsIs] at g0 g1 g2
    obtain ⟨a, n, k, f, rfl, h1, h2⟩ := nints_in g0
    obtain ⟨b, m, j, g, rfl, h3, h4⟩ := nints_in g1
    obtain ⟨c, q, r, u, rfl, h5, h6⟩ := nints_in g2
    exact ⟨a, n, k, f, b, m, j, g, c, q, r, u, rfl, ⟨h1, h2⟩, ⟨h3, h4⟩, ⟨h5, h6⟩⟩
end Go.Proofs.YtdpghhmcibiplaaDoor
