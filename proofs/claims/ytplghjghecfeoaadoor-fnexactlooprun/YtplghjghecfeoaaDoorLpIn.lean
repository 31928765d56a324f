/-
  Floats, Cnums, loops and lists of them that came in, as they lie in memory.
-/
import Derived.Test.YtplghjghecfeoaaDoorLpMem
import Derived.Lib.SmallJoins
import Derived.Deep.Slices
import Derived.ProofKit
namespace Go.Proofs.YtplghjghecfeoaaDoor
open Go Go.ChangeShapes Go.WideShapes Go.ChangeAt Go.RowKit Go.Joins Go.Deep

theorem ltrod_float {P : Program} {w : World} {H : Type} {enc : TypeId × Value → H} {base fuel : Nat} {spare : Nat → Bool} {held : Bool} {t : TypeId} {v : Value} {x : DataW H × List MemPlace} (ht : P.underlying t = some (.float .f64)) (h : DataW.trod enc P w base spare held fuel t [v] = some x) : ∃ z, v = .float .f64 z := by
  cases fuel with
  | zero => simp [DataW.trod] at h
  | succ m =>
    cases v with
    | float k z =>
      simp only [DataW.trod, ht] at h
      split at h
      · rename_i hh; exact ⟨z, by rw [hh.1]⟩
      · cases h
    | _ => simp [DataW.trod, ht] at h
theorem float_lt {P : Program} {w : World} {H : Type} {enc : TypeId × Value → H} {base fuel : Nat} {spare : Nat → Bool} {held : Bool} {t : TypeId} {z : Nat} {x : DataW H × List MemPlace} (ht : P.underlying t = some (.float .f64)) (h : DataW.trod enc P w base spare held fuel t [.float .f64 z] = some x) : z < 18446744073709551616 := by
  cases fuel with
  | zero => simp [DataW.trod] at h
  | succ m =>
    simp only [DataW.trod, ht] at h
    split at h
    · rename_i hh
      have := hh.2
      simpa [Lit.wf] using this
    · cases h
theorem cellsFl : Tryd.prog.cellsOf 23 = 1 := by kernel_rfl
theorem flts_in {H : Type} {enc : TypeId × Value → H} {W : World} {base fuel : Nat} {spare : Nat → Bool} {held : Bool} {x : DataW H × List MemPlace} {a : Option Addr} {len cap : Nat}
    (h : DataW.trod enc Tryd.prog W base spare held fuel 26 [.slice a len cap] = some x) : ∃ f, FlIn a len f W := by
  rcases open_slice1 Tryd.underlying26 cellsFl h with ⟨hcs, _⟩ | ⟨ad, l, c, m, n, V, D, Pl, hcs, _, hl, _, hmm, _, hx⟩
  · simp at hcs
    obtain ⟨rfl, rfl, rfl⟩ := hcs
    exact ⟨fun _ => 0, Or.inl rfl⟩
  · simp at hcs
    obtain ⟨rfl, rfl, rfl⟩ := hcs
    have hlm : len ≤ m := by rw [hmm]; split <;> omega
    by_cases h0 : len = 0
    · exact ⟨fun _ => 0, Or.inl h0⟩
    obtain ⟨b, off, spot⟩ := ad
    have hsp : spot = none := by
      have := World.cell?_spot (hx 0 (by omega)).1
      simpa [Addr.add] using this
    subst hsp
    have each : ∀ i, ∃ z : Nat, i < len → W.cell? ⟨b, off + i, none⟩ = some (.float .f64 z) := by
      intro i
      by_cases hi : i < len
      · obtain ⟨h1, h2⟩ := hx i (by omega)
        obtain ⟨z, e⟩ := ltrod_float Tryd.underlying23 h2
        rw [Addr.add_lit, e] at h1
        exact ⟨z, fun _ => h1⟩
      · exact ⟨0, fun h => absurd h hi⟩
    obtain ⟨z, hz⟩ := Classical.axiomOfChoice each
    exact ⟨z, Or.inr ⟨b, off, rfl, fun i hi => hz i hi⟩⟩
theorem cellsLp : Tryd.prog.cellsOf 35 = 6 := by kernel_rfl
set_option maxRecDepth 100000 in
theorem loop_in {H : Type} {enc : TypeId × Value → H} {W : World} {base fuel : Nat} {spare : Nat → Bool} {held : Bool} {x : DataW H × List MemPlace} {l : List Value}
    (h : DataW.trod enc Tryd.prog W base spare held fuel 35 l = some x) (hsz : l.length = 6) : ∃ z0 z1 z2 z3 z4 z5, l = [.float .f64 z0, .float .f64 z1, .float .f64 z2, .float .f64 z3, .float .f64 z4, .float .f64 z5] := by
  obtain ⟨xs, k, hk, hxy, _, hxl, hf⟩ := DataW.trod_struct Tryd.underlying35 h
  match xs, hxl, l, hsz with
  | [y0, y1, y2, y3, y4, y5], _, [v0, v1, v2, v3, v4, v5], _ =>
    have g0 := hf 0 _ rfl
    have g1 := hf 1 _ rfl
    have g2 := hf 2 _ rfl
    have g3 := hf 3 _ rfl
    have g4 := hf 4 _ rfl
    have g5 := hf 5 _ rfl
    simp [cellsFl] at g0 g1 g2 g3 g4 g5
    obtain ⟨a0, rfl⟩ := ltrod_float Tryd.underlying23 g0
    obtain ⟨a1, rfl⟩ := ltrod_float Tryd.underlying23 g1
    obtain ⟨a2, rfl⟩ := ltrod_float Tryd.underlying23 g2
    obtain ⟨a3, rfl⟩ := ltrod_float Tryd.underlying23 g3
    obtain ⟨a4, rfl⟩ := ltrod_float Tryd.underlying23 g4
    obtain ⟨a5, rfl⟩ := ltrod_float Tryd.underlying23 g5
    exact ⟨a0, a1, a2, a3, a4, a5, rfl⟩
end Go.Proofs.YtplghjghecfeoaaDoor
