/-
  Lines and rungs of the chapter of surges that came in, as they lie in memory.
-/
import Derived.Test.YthcgffnkpeiddaaLpIn
namespace Go.Proofs.Ythcgffnkpeiddaa
open Go Go.ChangeShapes Go.WideShapes Go.ChangeAt Go.RowKit Go.Joins Go.Deep

/-- A line, as a value. -/
abbrev lnV (s : Int) (a b c d : Nat) : Value := .agg #[.int .i64 s, .float .f64 a, .float .f64 b, .float .f64 c, .float .f64 d]
abbrev lnL (s : Int) (a b c d : Nat) : List Value := [.int .i64 s, .float .f64 a, .float .f64 b, .float .f64 c, .float .f64 d]
/-- A rung, as a value. -/
abbrev rgV (a b c : Nat) : Value := .agg #[.float .f64 a, .float .f64 b, .float .f64 c]
abbrev rgL (a b c : Nat) : List Value := [.float .f64 a, .float .f64 b, .float .f64 c]
theorem cellsI64 : Try.prog.cellsOf 2 = 1 := by kernel_rfl
theorem cellsLn : Try.prog.cellsOf 24 = 5 := by kernel_rfl
set_option maxRecDepth 100000 in
theorem line_in {H : Type} {enc : TypeId × Value → H} {W : World} {base fuel : Nat} {spare : Nat → Bool} {held : Bool} {x : DataW H × List MemPlace} {l : List Value}
    (h : DataW.trod enc Try.prog W base spare held fuel 24 l = some x) (hsz : l.length = 5) : ∃ s a b c d, l = lnL s a b c d := by
  obtain ⟨xs, k, hk, hxy, _, hxl, hf⟩ := DataW.trod_struct Try.underlying24 h
  match xs, hxl, l, hsz with
  | [y0, y1, y2, y3, y4], _, [v0, v1, v2, v3, v4], _ =>
    have g0 := hf 0 _ rfl
    have g1 := hf 1 _ rfl
    have g2 := hf 2 _ rfl
    have g3 := hf 3 _ rfl
    have g4 := hf 4 _ rfl
    simp [cellsFl, cellsI64] at g0 g1 g2 g3 g4
    obtain ⟨a0, e0, _, _⟩ := DataW.trod_int Try.underlying2 g0
    obtain ⟨a1, rfl⟩ := ltrod_float Try.underlying22 g1
    obtain ⟨a2, rfl⟩ := ltrod_float Try.underlying22 g2
    obtain ⟨a3, rfl⟩ := ltrod_float Try.underlying22 g3
    obtain ⟨a4, rfl⟩ := ltrod_float Try.underlying22 g4
    simp at e0
    exact ⟨a0, a1, a2, a3, a4, by rw [e0]⟩
/-- Rungs that came in. -/
def RgIn (a : Option Addr) (n : Nat) (f : (Nat → Nat) × (Nat → Nat) × (Nat → Nat)) (w : World) : Prop := n = 0 ∨ ∃ b off, a = some ⟨b, off, none⟩ ∧ ∀ i, i < n → w.cell? ⟨b, off + i * 3, none⟩ = some (.float .f64 (f.1 i)) ∧ w.cell? ⟨b, off + i * 3 + 1, none⟩ = some (.float .f64 (f.2.1 i)) ∧ w.cell? ⟨b, off + i * 3 + 2, none⟩ = some (.float .f64 (f.2.2 i))
theorem RgIn.below {a : Option Addr} {n : Nat} {f : (Nat → Nat) × (Nat → Nat) × (Nat → Nat)} {w w' : World} (k : RgIn a n f w) (hb : Below w.heap.size w w') : RgIn a n f w' := by
  rcases k with k | ⟨b, off, h1, h2⟩
  · exact Or.inl k
  · exact Or.inr ⟨b, off, h1, fun i hi => ⟨(hb.cell (World.block_lt_of_cell? _ _ (h2 i hi).1)).trans (h2 i hi).1, (hb.cell (World.block_lt_of_cell? _ _ (h2 i hi).2.1)).trans (h2 i hi).2.1, (hb.cell (World.block_lt_of_cell? _ _ (h2 i hi).2.2)).trans (h2 i hi).2.2⟩⟩
theorem RgIn.at_ {a : Option Addr} {n i : Nat} {f : (Nat → Nat) × (Nat → Nat) × (Nat → Nat)} {w : World} (k : RgIn a n f w) (hi : i < n) : ∃ b off, a = some ⟨b, off, none⟩ ∧ w.cell? ⟨b, off + i * 3, none⟩ = some (.float .f64 (f.1 i)) ∧ w.cell? ⟨b, off + i * 3 + 1, none⟩ = some (.float .f64 (f.2.1 i)) ∧ w.cell? ⟨b, off + i * 3 + 2, none⟩ = some (.float .f64 (f.2.2 i)) := by
  rcases k with k | ⟨b, off, h1, h2⟩
  · omega
  · exact ⟨b, off, h1, h2 i hi⟩
theorem cellsRg : Try.prog.cellsOf 54 = 3 := by kernel_rfl
set_option maxRecDepth 100000 in
theorem rung_in {H : Type} {enc : TypeId × Value → H} {W : World} {base fuel : Nat} {spare : Nat → Bool} {held : Bool} {x : DataW H × List MemPlace} {l : List Value}
    (h : DataW.trod enc Try.prog W base spare held fuel 54 l = some x) (hsz : l.length = 3) : ∃ a b c, l = rgL a b c := by
  obtain ⟨xs, k, hk, hxy, _, hxl, hf⟩ := DataW.trod_struct Try.underlying54 h
  match xs, hxl, l, hsz with
  | [y0, y1, y2], _, [v0, v1, v2], _ =>
    have g0 := hf 0 _ rfl
    have g1 := hf 1 _ rfl
    have g2 := hf 2 _ rfl
    simp [cellsFl] at g0 g1 g2
    obtain ⟨a, rfl⟩ := ltrod_float Try.underlying22 g0
    obtain ⟨b, rfl⟩ := ltrod_float Try.underlying22 g1
    obtain ⟨c, rfl⟩ := ltrod_float Try.underlying22 g2
    exact ⟨a, b, c, rfl⟩
set_option maxRecDepth 100000 in
theorem rungs_in {H : Type} {enc : TypeId × Value → H} {W : World} {base fuel : Nat} {spare : Nat → Bool} {held : Bool} {x : DataW H × List MemPlace} {a : Option Addr} {len cap : Nat}
    (h : DataW.trod enc Try.prog W base spare held fuel 30 [.slice a len cap] = some x) : ∃ f : (Nat → Nat) × (Nat → Nat) × (Nat → Nat), RgIn a len f W := by
  rcases open_slice Try.underlying30 h with ⟨hcs, _⟩ | ⟨ad, l, c, m, n, D, Pl, hcs, _, hl, _, hmm, _, hx⟩
  · simp at hcs
    obtain ⟨rfl, rfl, rfl⟩ := hcs
    exact ⟨(fun _ => 0, fun _ => 0, fun _ => 0), Or.inl rfl⟩
  · simp at hcs
    obtain ⟨rfl, rfl, rfl⟩ := hcs
    have hlm : len ≤ m := by rw [hmm]; split <;> omega
    by_cases h0 : len = 0
    · exact ⟨(fun _ => 0, fun _ => 0, fun _ => 0), Or.inl h0⟩
    obtain ⟨b, off, spot⟩ := ad
    have hsp : spot = none := by
      obtain ⟨cs', h1, _⟩ := hx 0 (by omega)
      rw [cellsRg] at h1
      obtain ⟨_, hlen, hcell⟩ := World.cells?_some h1
      have q0 := hcell 0 (by omega)
      rw [List.getElem?_eq_getElem (by omega)] at q0
      have := World.cell?_spot q0
      simpa [Addr.add] using this
    subst hsp
    have each : ∀ i, ∃ r : Nat × Nat × Nat, i < len → W.cell? ⟨b, off + i * 3, none⟩ = some (.float .f64 r.1) ∧ W.cell? ⟨b, off + i * 3 + 1, none⟩ = some (.float .f64 r.2.1) ∧ W.cell? ⟨b, off + i * 3 + 2, none⟩ = some (.float .f64 r.2.2) := by
      intro i
      by_cases hi : i < len
      · obtain ⟨cs', h1, h2⟩ := hx i (by omega)
        rw [cellsRg] at h1
        obtain ⟨_, hlen, hcell⟩ := World.cells?_some h1
        obtain ⟨y, z, u, rfl⟩ := rung_in h2 hlen
        have q0 := hcell 0 (by omega)
        have q1 := hcell 1 (by omega)
        have q2 := hcell 2 (by omega)
        rw [Addr.add_add] at q0 q1 q2
        simp at q0 q1 q2
        refine ⟨(y, z, u), fun _ => ⟨?_, ?_, ?_⟩⟩
        · rw [← q0, Addr.add_lit]
        · rw [← q1, Addr.add_lit]; rfl
        · rw [← q2, Addr.add_lit]; rfl
      · exact ⟨(0, 0, 0), fun h => absurd h hi⟩
    obtain ⟨r, hr⟩ := Classical.axiomOfChoice each
    exact ⟨(fun i => (r i).1, fun i => (r i).2.1, fun i => (r i).2.2), Or.inr ⟨b, off, rfl, fun i hi => hr i hi⟩⟩
end Go.Proofs.Ythcgffnkpeiddaa
