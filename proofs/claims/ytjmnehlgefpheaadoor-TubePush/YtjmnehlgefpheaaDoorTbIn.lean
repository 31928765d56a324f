/-
  Parcels and tubes that came in, as they lie in memory.
-/
import Derived.Test.YtjmnehlgefpheaaDoorNtMem
import Derived.Lib.SmallJoins
import Derived.Deep.Slices
import Derived.ProofKit
namespace Go.Proofs.YtjmnehlgefpheaaDoor
open Go Go.ChangeShapes Go.WideShapes Go.ChangeAt Go.RowKit Go.Joins Go.Deep

theorem tcellsI : Tryd.prog.cellsOf 2 = 1 := by kernel_rfl
theorem ncellsParcel : Tryd.prog.cellsOf 42 = 3 := by kernel_rfl
set_option maxRecDepth 100000 in
theorem parcels_in {H : Type} {enc : TypeId × Value → H} {W : World} {base fuel : Nat} {spare : Nat → Bool} {held : Bool} {x : DataW H × List MemPlace} {y : Value}
    (h : DataW.trod enc Tryd.prog W base spare held fuel 39 [y] = some x) : ∃ a len cap f, y = .slice a len cap ∧ IsIn a (len * 3) f W ∧ len ≤ 9223372036854775807 := by
  rcases open_slice Tryd.underlying39 h with ⟨hcs, _⟩ | ⟨ad, len, cap, m, n, D, Pl, hcs, _, hl, hm9, hmm, _, hx⟩
  · simp at hcs
    subst hcs
    exact ⟨none, 0, 0, fun _ => 0, rfl, Or.inl rfl, by omega⟩
  · simp at hcs
    subst hcs
    refine ⟨some ad, len, cap, ?_⟩
    have hlm : len ≤ m := by rw [hmm]; split <;> omega
    have hbig : len ≤ 9223372036854775807 := by unfold maxLen at hm9; omega
    by_cases h0 : len = 0
    · exact ⟨fun _ => 0, rfl, Or.inl (by omega), hbig⟩
    obtain ⟨b, off, spot⟩ := ad
    have hsp : spot = none := by
      obtain ⟨cs', h1, _⟩ := hx 0 (by omega)
      rw [ncellsParcel] at h1
      obtain ⟨_, hlen, hcell⟩ := World.cells?_some h1
      have q0 := hcell 0 (by omega)
      rw [List.getElem?_eq_getElem (by omega)] at q0
      have := World.cell?_spot q0
      simpa [Addr.add] using this
    subst hsp
    have each : ∀ i, ∃ r : Nat → Int, i < len → ∀ c, c < 3 → W.cell? ⟨b, off + (i * 3 + c), none⟩ = some (.int .i64 (r c)) := by
      intro i
      by_cases hi : i < len
      · obtain ⟨cs', h1, h2⟩ := hx i (by omega)
        rw [ncellsParcel] at h1
        obtain ⟨_, hlen, hcell⟩ := World.cells?_some h1
        obtain ⟨xs, k, hk, hxy, _, hxl, hf⟩ := DataW.trod_struct Tryd.underlying42 h2
        match xs, hxl, cs', hlen with
        | [y0, y1, y2], _, [v0, v1, v2], _ =>
          have g0 := hf 0 _ rfl
          have g1 := hf 1 _ rfl
          have g2 := hf 2 _ rfl
          simp [tcellsI] at g0 g1 g2
          obtain ⟨z0, e0, _, _⟩ := DataW.trod_int Tryd.underlying2 g0
          obtain ⟨z1, e1, _, _⟩ := DataW.trod_int Tryd.underlying2 g1
          obtain ⟨z2, e2, _, _⟩ := DataW.trod_int Tryd.underlying2 g2
          simp at e0 e1 e2
          have q0 := hcell 0 (by omega)
          have q1 := hcell 1 (by omega)
          have q2 := hcell 2 (by omega)
          rw [Addr.add_add] at q0 q1 q2
          simp at q0 q1 q2
          refine ⟨fun c => [z0, z1, z2].getD c 0, fun _ c hc => ?_⟩
          have hc3 : c = 0 ∨ c = 1 ∨ c = 2 := by omega
          rcases hc3 with rfl | rfl | rfl
          · show _ = some (Value.int .i64 z0)
            rw [← e0, ← q0, Addr.add_lit]; rfl
          · show _ = some (Value.int .i64 z1)
            rw [← e1, ← q1, Addr.add_lit]
          · show _ = some (Value.int .i64 z2)
            rw [← e2, ← q2, Addr.add_lit]
      · exact ⟨fun _ => 0, fun h => absurd h hi⟩
    obtain ⟨r, hr⟩ := Classical.axiomOfChoice each
    refine ⟨fun j => r (j / 3) (j % 3), rfl, Or.inr ⟨b, off, rfl, fun j hj => ?_⟩, hbig⟩
    have := hr (j / 3) (by omega) (j % 3) (by omega)
    have e : j / 3 * 3 + j % 3 = j := by omega
    rw [e] at this
    exact this
theorem ncellsTube : Tryd.prog.cellsOf 41 = 2 := by kernel_rfl
theorem ncellsPs : Tryd.prog.cellsOf 39 = 1 := by kernel_rfl
set_option maxRecDepth 100000 in
theorem tube_in {H : Type} {enc : TypeId × Value → H} {W : World} {base fuel : Nat} {spare : Nat → Bool} {held : Bool} {x : DataW H × List MemPlace} {cs : Array Value}
    (h : DataW.trod enc Tryd.prog W base spare held fuel 41 cs.toList = some x) (hsz : cs.size = Tryd.prog.cellsOf 41) :
    ∃ (r : Int) (a : Option Addr) (n k : Nat) (f : Nat → Int), cs = #[.int .i64 r, .slice a n k] ∧ IsIn a (n * 3) f W ∧ n ≤ 9223372036854775807 := by
  rw [ncellsTube] at hsz
  obtain ⟨xs, k, hk, hxy, _, hxl, hf⟩ := DataW.trod_struct Tryd.underlying41 h
  obtain ⟨l⟩ := cs
  match xs, hxl, l, hsz with
  | [y0, y1], _, [v0, v1], _ =>
    have g0 := hf 0 _ rfl
    have g1 := hf 1 _ rfl
    simp [tcellsI, ncellsPs] at g0 g1
    obtain ⟨z, e, _, _⟩ := DataW.trod_int Tryd.underlying2 g0
    simp at e
    subst e
    obtain ⟨a, n, c, f, rfl, h1, h2⟩ := parcels_in g1
    exact ⟨z, a, n, c, f, rfl, h1, h2⟩
theorem ncellsParcel1 : Tryd.prog.cellsOf 42 = 3 := by kernel_rfl
set_option maxRecDepth 100000 in
theorem parcel_in {H : Type} {enc : TypeId × Value → H} {W : World} {base fuel : Nat} {spare : Nat → Bool} {held : Bool} {x : DataW H × List MemPlace} {cs : Array Value}
    (h : DataW.trod enc Tryd.prog W base spare held fuel 42 cs.toList = some x) (hsz : cs.size = Tryd.prog.cellsOf 42) :
    ∃ x0 x1 x2 : Int, cs = #[.int .i64 x0, .int .i64 x1, .int .i64 x2] := by
  rw [ncellsParcel1] at hsz
  obtain ⟨xs, k, hk, hxy, _, hxl, hf⟩ := DataW.trod_struct Tryd.underlying42 h
  obtain ⟨l⟩ := cs
  match xs, hxl, l, hsz with
  | [y0, y1, y2], _, [v0, v1, v2], _ =>
    have g0 := hf 0 _ rfl
    have g1 := hf 1 _ rfl
    have g2 := hf 2 _ rfl
    simp [tcellsI] at g0 g1 g2
    obtain ⟨z0, e0, _, _⟩ := DataW.trod_int Tryd.underlying2 g0
    obtain ⟨z1, e1, _, _⟩ := DataW.trod_int Tryd.underlying2 g1
    obtain ⟨z2, e2, _, _⟩ := DataW.trod_int Tryd.underlying2 g2
    simp at e0 e1 e2
    subst e0 e1 e2
    exact ⟨z0, z1, z2, rfl⟩
end Go.Proofs.YtjmnehlgefpheaaDoor
