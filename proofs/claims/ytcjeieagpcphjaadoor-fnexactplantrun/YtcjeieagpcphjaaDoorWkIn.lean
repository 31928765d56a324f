/-
  Batches, filters and lists of them that came in, as they lie in memory.
-/
import Derived.Test.YtcjeieagpcphjaaDoorStIn
import Derived.Test.YtcjeieagpcphjaaDoorWkEx
namespace Go.Proofs.YtcjeieagpcphjaaDoor
open Go Go.ChangeShapes Go.WideShapes Go.ChangeAt Go.RowKit Go.Joins Go.Deep

theorem wints_in {H : Type} {enc : TypeId × Value → H} {W : World} {base fuel : Nat} {spare : Nat → Bool} {held : Bool} {x : DataW H × List MemPlace} {y : Value}
    (h : DataW.trod enc Tryd.prog W base spare held fuel 24 [y] = some x) : ∃ a n k f, y = .slice a n k ∧ IntsIn a n f W ∧ n ≤ 9223372036854775807 := by
  have h' := h
  rcases open_slice Tryd.underlying24 h with ⟨hcs, _⟩ | ⟨ad, l, c, m, n, D, Pl, hcs, _, hl, hm, _⟩
  · simp at hcs
    subst hcs
    exact ⟨none, 0, 0, fun _ => 0, rfl, Or.inl rfl, by omega⟩
  · simp at hcs
    subst hcs
    obtain ⟨f, hf⟩ := ints_in h'
    exact ⟨some ad, l, c, f, rfl, hf, by unfold maxLen at hm; omega⟩
theorem cellsInts : Tryd.prog.cellsOf 24 = 1 := by kernel_rfl
theorem cellsBatch : Tryd.prog.cellsOf 49 = 2 := by kernel_rfl
set_option maxRecDepth 100000 in
theorem batch_in {H : Type} {enc : TypeId × Value → H} {W : World} {base fuel : Nat} {spare : Nat → Bool} {held : Bool} {x : DataW H × List MemPlace} {l : List Value}
    (h : DataW.trod enc Tryd.prog W base spare held fuel 49 l = some x) (hsz : l.length = 2) :
    ∃ wt a n k f, l = [.int .i64 wt, .slice a n k] ∧ IntsIn a n f W ∧ n ≤ 9223372036854775807 := by
  obtain ⟨xs, k, hk, hxy, _, hxl, hf⟩ := DataW.trod_struct Tryd.underlying49 h
  match xs, hxl, l, hsz with
  | [y0, y1], _, [v0, v1], _ =>
    have g0 := hf 0 _ rfl
    have g1 := hf 1 _ rfl
    simp [cellsI, cellsInts] at g0 g1
    obtain ⟨z, e, _, _⟩ := DataW.trod_int Tryd.underlying2 g0
    simp at e
    subst e
    obtain ⟨a, n, k, f, rfl, h1, h2⟩ := wints_in g1
    exact ⟨z, a, n, k, f, rfl, h1, h2⟩
end Go.Proofs.YtcjeieagpcphjaaDoor
