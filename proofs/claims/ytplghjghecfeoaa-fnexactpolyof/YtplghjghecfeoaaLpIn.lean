/-
  Floats, Cnums, loops and lists of them that came in, as they lie in memory.
-/
import Derived.Test.YtplghjghecfeoaaLpMem
import Derived.Lib.SmallJoins
import Derived.Deep.Slices
import Derived.ProofKit
namespace Go.Proofs.Ytplghjghecfeoaa
open Go Go.ChangeShapes Go.WideShapes Go.ChangeAt Go.RowKit Go.Joins Go.Deep

theorem ltrod_float {P : Program} {w : World} {H : Type} {enc : TypeId × Value → H} {base fuel : Nat} {spare : Nat → Bool} {held : Bool} {t : TypeId} {v : Value} {x : DataW H × List MemPlace} (ht : P.underlying t = some (.float .f64)) (h : DataW.trod enc P w base spare held fuel t [v] = some x) : ∃ z, v = .float .f64 z := by
  cases fuel with
  | zero => simp [DataW.trod] at h
  | succ m =>
    cases v with
    | float k z =>
      simp only [DataW.trod, ht] at h
      split at h
      · rename_i hh; exact ⟨z, by rw [hh.1]⟩
      · cases h
    | _ => simp [DataW.trod, ht] at h
theorem float_lt {P : Program} {w : World} {H : Type} {enc : TypeId × Value → H} {base fuel : Nat} {spare : Nat → Bool} {held : Bool} {t : TypeId} {z : Nat} {x : DataW H × List MemPlace} (ht : P.underlying t = some (.float .f64)) (h : DataW.trod enc P w base spare held fuel t [.float .f64 z] = some x) : z < 18446744073709551616 := by
  cases fuel with
  | zero => simp [DataW.trod] at h
  | succ m =>
    simp only [DataW.trod, ht] at h
    split at h
    · rename_i hh
      have := hh.2
      simpa [Lit.wf] using this
    · cases h
theorem cellsFl : Try.prog.cellsOf 23 = 1 := by kernel_rfl
theorem flts_in {H : Type} {enc : TypeId × Value → H} {W : World} {base fuel : Nat} {spare : Nat → Bool} {held : Bool} {x : DataW H × List MemPlace} {a : Option Addr} {len cap : Nat}
    (h : DataW.trod enc Try.prog W base spare held fuel 37 [.slice a len cap] = some x) : ∃ f, FlIn a len f W := by
  rcases open_slice1 Try.underlying37 cellsFl h with ⟨hcs, _⟩ | ⟨ad, l, c, m, n, V, D, Pl, hcs, _, hl, _, hmm, _, hx⟩
  · simp at hcs
    obtain ⟨rfl, rfl, rfl⟩ := hcs
    exact ⟨fun _ => 0, Or.inl rfl⟩
  · simp at hcs
    obtain ⟨rfl, rfl, rfl⟩ := hcs
    have hlm : len ≤ m := by rw [hmm]; split <;> omega
    by_cases h0 : len = 0
    · exact ⟨fun _ => 0, Or.inl h0⟩
    obtain ⟨b, off, spot⟩ := ad
    have hsp : spot = none := by
      have := World.cell?_spot (hx 0 (by omega)).1
      simpa [Addr.add] using this
    subst hsp
    have each : ∀ i, ∃ z : Nat, i < len → W.cell? ⟨b, off + i, none⟩ = some (.float .f64 z) := by
      intro i
      by_cases hi : i < len
      · obtain ⟨h1, h2⟩ := hx i (by omega)
        obtain ⟨z, e⟩ := ltrod_float Try.underlying23 h2
        rw [Addr.add_lit, e] at h1
        exact ⟨z, fun _ => h1⟩
      · exact ⟨0, fun h => absurd h hi⟩
    obtain ⟨z, hz⟩ := Classical.axiomOfChoice each
    exact ⟨z, Or.inr ⟨b, off, rfl, fun i hi => hz i hi⟩⟩
theorem cellsCn : Try.prog.cellsOf 32 = 2 := by kernel_rfl
set_option maxRecDepth 100000 in
theorem cnum_in {H : Type} {enc : TypeId × Value → H} {W : World} {base fuel : Nat} {spare : Nat → Bool} {held : Bool} {x : DataW H × List MemPlace} {l : List Value}
    (h : DataW.trod enc Try.prog W base spare held fuel 32 l = some x) (hsz : l.length = 2) : ∃ a b, l = cnL a b := by
  obtain ⟨xs, k, hk, hxy, _, hxl, hf⟩ := DataW.trod_struct Try.underlying32 h
  match xs, hxl, l, hsz with
  | [y0, y1], _, [v0, v1], _ =>
    have g0 := hf 0 _ rfl
    have g1 := hf 1 _ rfl
    simp [cellsFl] at g0 g1
    obtain ⟨a, rfl⟩ := ltrod_float Try.underlying23 g0
    obtain ⟨b, rfl⟩ := ltrod_float Try.underlying23 g1
    exact ⟨a, b, rfl⟩
set_option maxRecDepth 100000 in
theorem cnums_in {H : Type} {enc : TypeId × Value → H} {W : World} {base fuel : Nat} {spare : Nat → Bool} {held : Bool} {x : DataW H × List MemPlace} {a : Option Addr} {len cap : Nat}
    (h : DataW.trod enc Try.prog W base spare held fuel 42 [.slice a len cap] = some x) : ∃ f : (Nat → Nat) × (Nat → Nat), CnIn a len f.1 f.2 W := by
  rcases open_slice Try.underlying42 h with ⟨hcs, _⟩ | ⟨ad, l, c, m, n, D, Pl, hcs, _, hl, _, hmm, _, hx⟩
  · simp at hcs
    obtain ⟨rfl, rfl, rfl⟩ := hcs
    exact ⟨(fun _ => 0, fun _ => 0), Or.inl rfl⟩
  · simp at hcs
    obtain ⟨rfl, rfl, rfl⟩ := hcs
    have hlm : len ≤ m := by rw [hmm]; split <;> omega
    by_cases h0 : len = 0
    · exact ⟨(fun _ => 0, fun _ => 0), Or.inl h0⟩
    obtain ⟨b, off, spot⟩ := ad
    have hsp : spot = none := by
      obtain ⟨cs', h1, _⟩ := hx 0 (by omega)
      rw [cellsCn] at h1
      obtain ⟨_, hlen, hcell⟩ := World.cells?_some h1
      have q0 := hcell 0 (by omega)
      rw [List.getElem?_eq_getElem (by omega)] at q0
      have := World.cell?_spot q0
      simpa [Addr.add] using this
    subst hsp
    have each : ∀ i, ∃ r : Nat × Nat, i < len → W.cell? ⟨b, off + i * 2, none⟩ = some (.float .f64 r.1) ∧ W.cell? ⟨b, off + i * 2 + 1, none⟩ = some (.float .f64 r.2) := by
      intro i
      by_cases hi : i < len
      · obtain ⟨cs', h1, h2⟩ := hx i (by omega)
        rw [cellsCn] at h1
        obtain ⟨_, hlen, hcell⟩ := World.cells?_some h1
        obtain ⟨y, z, rfl⟩ := cnum_in h2 hlen
        have q0 := hcell 0 (by omega)
        have q1 := hcell 1 (by omega)
        rw [Addr.add_add] at q0 q1
        simp at q0 q1
        refine ⟨(y, z), fun _ => ⟨?_, ?_⟩⟩
        · rw [← q0, Addr.add_lit]
        · rw [← q1, Addr.add_lit]; rfl
      · exact ⟨(0, 0), fun h => absurd h hi⟩
    obtain ⟨r, hr⟩ := Classical.axiomOfChoice each
    exact ⟨(fun i => (r i).1, fun i => (r i).2), Or.inr ⟨b, off, rfl, fun i hi => hr i hi⟩⟩
end Go.Proofs.Ytplghjghecfeoaa
