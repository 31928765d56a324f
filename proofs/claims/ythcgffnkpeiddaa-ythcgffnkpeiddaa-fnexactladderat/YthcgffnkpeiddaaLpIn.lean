/-
  Floats, Cnums, loops and lists of them that came in, as they lie in memory.
-/
import Derived.Test.YthcgffnkpeiddaaLpMem
import Derived.Lib.SmallJoins
import Derived.Deep.Slices
import Derived.ProofKit
namespace Go.Proofs.Ythcgffnkpeiddaa
open Go Go.ChangeShapes Go.WideShapes Go.ChangeAt Go.RowKit Go.Joins Go.Deep

theorem ltrod_float {P : Program} {w : World} {H : Type} {enc : TypeId × Value → H} {base fuel : Nat} {spare : Nat → Bool} {held : Bool} {t : TypeId} {v : Value} {x : DataW H × List MemPlace} (ht : P.underlying t = some (.float .f64)) (h : DataW.trod enc P w base spare held fuel t [v] = some x) : ∃ z, v = .float .f64 z := by
  cases fuel with
  | zero => simp [DataW.trod] at h
  | succ m =>
    cases v with
    | float k z =>
      simp only [DataW.trod, ht] at h
      split at h
      · rename_i hh; exact ⟨z, by rw [hh.1]⟩
      · cases h
    | _ => simp [DataW.trod, ht] at h
theorem float_lt {P : Program} {w : World} {H : Type} {enc : TypeId × Value → H} {base fuel : Nat} {spare : Nat → Bool} {held : Bool} {t : TypeId} {z : Nat} {x : DataW H × List MemPlace} (ht : P.underlying t = some (.float .f64)) (h : DataW.trod enc P w base spare held fuel t [.float .f64 z] = some x) : z < 18446744073709551616 := by
  cases fuel with
  | zero => simp [DataW.trod] at h
  | succ m =>
    simp only [DataW.trod, ht] at h
    split at h
    · rename_i hh
      have := hh.2
      simpa [Lit.wf] using this
    · cases h
theorem cellsFl : Try.prog.cellsOf 22 = 1 := by kernel_rfl
theorem cellsCn : Try.prog.cellsOf 40 = 2 := by kernel_rfl
set_option maxRecDepth 100000 in
theorem cnum_in {H : Type} {enc : TypeId × Value → H} {W : World} {base fuel : Nat} {spare : Nat → Bool} {held : Bool} {x : DataW H × List MemPlace} {l : List Value}
    (h : DataW.trod enc Try.prog W base spare held fuel 40 l = some x) (hsz : l.length = 2) : ∃ a b, l = cnL a b := by
  obtain ⟨xs, k, hk, hxy, _, hxl, hf⟩ := DataW.trod_struct Try.underlying40 h
  match xs, hxl, l, hsz with
  | [y0, y1], _, [v0, v1], _ =>
    have g0 := hf 0 _ rfl
    have g1 := hf 1 _ rfl
    simp [cellsFl] at g0 g1
    obtain ⟨a, rfl⟩ := ltrod_float Try.underlying22 g0
    obtain ⟨b, rfl⟩ := ltrod_float Try.underlying22 g1
    exact ⟨a, b, rfl⟩
end Go.Proofs.Ythcgffnkpeiddaa
