/-
  What a Logic that came in is.
-/
import Derived.Test.YtgkdnpnnmmpnmaaGreatDoorPgIn
import Derived.Test.YtgkdnpnnmmpnmaaGreatDoorCyMem
import Derived.Deep.Slices
import Derived.ProofKit
namespace Go.Proofs.YtgkdnpnnmmpnmaaGreatDoor
open Go Go.ChangeShapes Go.WideShapes Go.ChangeAt Go.RowKit Go.Joins Go.Deep

theorem ncellsLg : Tryz.prog.cellsOf 57 = 3 := by kernel_rfl
theorem ncellsBoolC : Tryz.prog.cellsOf 4 = 1 := by kernel_rfl
set_option maxRecDepth 100000 in
theorem logic_in {H : Type} {enc : TypeId × Value → H} {W : World} {base fuel : Nat} {spare : Nat → Bool} {held : Bool} {x : DataW H × List MemPlace} {cs : Array Value}
    (h : DataW.trod enc Tryz.prog W base spare held fuel 57 cs.toList = some x) (hsz : cs.size = Tryz.prog.cellsOf 57) :
    ∃ (s : Cy.Lg) (a : Option Addr) (k : Nat) (b : Option Addr) (l : Nat), cs = #[.slice a s.n k, .slice b s.m l, .bool s.fl] ∧ LgIn s a b W ∧ LgLens s := by
  rw [ncellsLg] at hsz
  obtain ⟨xs, k, hk, hxy, _, hxl, hf⟩ := DataW.trod_struct Tryz.underlying57 h
  obtain ⟨l⟩ := cs
  match xs, hxl, l, hsz with
  | [y0, y1, y2], _, [v0, v1, v2], _ =>
    have g0 := hf 0 _ rfl
    have g1 := hf 1 _ rfl
    have g2 := hf 2 _ rfl
    simp [ncellsIsP, ncellsBoolC] at g0 g1 g2
    obtain ⟨a, n, k, T, rfl, h1, h2⟩ := pints_in g0
    obtain ⟨b, m, l, C, rfl, h3, h4⟩ := pints_in g1
    obtain ⟨fl, e, _⟩ := DataW.trod_bool Tryz.underlying4 g2
    simp at e
    subst e
    exact ⟨⟨n, T, m, C, fl⟩, a, k, b, l, rfl, ⟨h1, h3⟩, h2, h4⟩
end Go.Proofs.YtgkdnpnnmmpnmaaGreatDoor
