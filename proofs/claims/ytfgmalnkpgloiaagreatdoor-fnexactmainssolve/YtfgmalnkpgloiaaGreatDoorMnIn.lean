/-
  Mains that came in, as they lie in memory.
-/
import Derived.Test.YtfgmalnkpgloiaaGreatDoorMnMem
import Derived.Lib.SmallJoins
import Derived.Deep.Slices
import Derived.ProofKit
namespace Go.Proofs.YtfgmalnkpgloiaaGreatDoor
open Go Go.ChangeShapes Go.WideShapes Go.ChangeAt Go.RowKit Go.Joins Go.Deep

theorem ncellsI : Tryz.prog.cellsOf 2 = 1 := by kernel_rfl
theorem ncellsPipe : Tryz.prog.cellsOf 124 = 5 := by kernel_rfl
set_option maxRecDepth 100000 in
theorem pipes_in {H : Type} {enc : TypeId × Value → H} {W : World} {base fuel : Nat} {spare : Nat → Bool} {held : Bool} {x : DataW H × List MemPlace} {y : Value}
    (h : DataW.trod enc Tryz.prog W base spare held fuel 43 [y] = some x) : ∃ a len cap f, y = .slice a len cap ∧ IsIn a (len * 5) f W ∧ len ≤ 9223372036854775807 := by
  rcases open_slice Tryz.underlying43 h with ⟨hcs, _⟩ | ⟨ad, len, cap, m, n, D, Pl, hcs, _, hl, hm9, hmm, _, hx⟩
  · simp at hcs
    subst hcs
    exact ⟨none, 0, 0, fun _ => 0, rfl, Or.inl rfl, by omega⟩
  · simp at hcs
    subst hcs
    refine ⟨some ad, len, cap, ?_⟩
    have hlm : len ≤ m := by rw [hmm]; split <;> omega
    have hbig : len ≤ 9223372036854775807 := by unfold maxLen at hm9; omega
    by_cases h0 : len = 0
    · exact ⟨fun _ => 0, rfl, Or.inl (by omega), hbig⟩
    obtain ⟨b, off, spot⟩ := ad
    have hsp : spot = none := by
      obtain ⟨cs', h1, _⟩ := hx 0 (by omega)
      rw [ncellsPipe] at h1
      obtain ⟨_, hlen, hcell⟩ := World.cells?_some h1
      have q0 := hcell 0 (by omega)
      rw [List.getElem?_eq_getElem (by omega)] at q0
      have := World.cell?_spot q0
      simpa [Addr.add] using this
    subst hsp
    have each : ∀ i, ∃ r : Nat → Int, i < len → ∀ c, c < 5 → W.cell? ⟨b, off + (i * 5 + c), none⟩ = some (.int .i64 (r c)) := by
      intro i
      by_cases hi : i < len
      · obtain ⟨cs', h1, h2⟩ := hx i (by omega)
        rw [ncellsPipe] at h1
        obtain ⟨_, hlen, hcell⟩ := World.cells?_some h1
        obtain ⟨xs, k, hk, hxy, _, hxl, hf⟩ := DataW.trod_struct Tryz.underlying124 h2
        match xs, hxl, cs', hlen with
        | [y0, y1, y2, y3, y4], _, [v0, v1, v2, v3, v4], _ =>
          have g0 := hf 0 _ rfl
          have g1 := hf 1 _ rfl
          have g2 := hf 2 _ rfl
          have g3 := hf 3 _ rfl
          have g4 := hf 4 _ rfl
          simp [ncellsI] at g0 g1 g2 g3 g4
          obtain ⟨z0, e0, _, _⟩ := DataW.trod_int Tryz.underlying2 g0
          obtain ⟨z1, e1, _, _⟩ := DataW.trod_int Tryz.underlying2 g1
          obtain ⟨z2, e2, _, _⟩ := DataW.trod_int Tryz.underlying2 g2
          obtain ⟨z3, e3, _, _⟩ := DataW.trod_int Tryz.underlying2 g3
          obtain ⟨z4, e4, _, _⟩ := DataW.trod_int Tryz.underlying2 g4
          simp at e0 e1 e2 e3 e4
          have q0 := hcell 0 (by omega)
          have q1 := hcell 1 (by omega)
          have q2 := hcell 2 (by omega)
          have q3 := hcell 3 (by omega)
          have q4 := hcell 4 (by omega)
          rw [Addr.add_add] at q0 q1 q2 q3 q4
          simp at q0 q1 q2 q3 q4
          refine ⟨fun c => [z0, z1, z2, z3, z4].getD c 0, fun _ c hc => ?_⟩
          have hc3 : c = 0 ∨ c = 1 ∨ c = 2 ∨ c = 3 ∨ c = 4 := by omega
          rcases hc3 with rfl | rfl | rfl | rfl | rfl
          · show _ = some (Value.int .i64 z0)
            rw [← e0, ← q0, Addr.add_lit]; rfl
          · show _ = some (Value.int .i64 z1)
            rw [← e1, ← q1, Addr.add_lit]
          · show _ = some (Value.int .i64 z2)
            rw [← e2, ← q2, Addr.add_lit]
          · show _ = some (Value.int .i64 z3)
            rw [← e3, ← q3, Addr.add_lit]
          · show _ = some (Value.int .i64 z4)
            rw [← e4, ← q4, Addr.add_lit]
      · exact ⟨fun _ => 0, fun h => absurd h hi⟩
    obtain ⟨r, hr⟩ := Classical.axiomOfChoice each
    refine ⟨fun j => r (j / 5) (j % 5), rfl, Or.inr ⟨b, off, rfl, fun j hj => ?_⟩, hbig⟩
    have := hr (j / 5) (by omega) (j % 5) (by omega)
    have e : j / 5 * 5 + j % 5 = j := by omega
    rw [e] at this
    exact this
theorem ncellsIs : Tryz.prog.cellsOf 25 = 1 := by kernel_rfl
set_option maxRecDepth 100000 in
theorem nints_in {H : Type} {enc : TypeId × Value → H} {W : World} {base fuel : Nat} {spare : Nat → Bool} {held : Bool} {x : DataW H × List MemPlace} {y : Value}
    (h : DataW.trod enc Tryz.prog W base spare held fuel 25 [y] = some x) : ∃ a len cap f, y = .slice a len cap ∧ IsIn a len f W ∧ len ≤ 9223372036854775807 := by
  rcases open_slice1 Tryz.underlying25 ncellsI h with ⟨hcs, _⟩ | ⟨ad, len, cap, m, n, V, D, Pl, hcs, _, hl, hm9, hmm, _, hcell⟩
  · simp at hcs
    subst hcs
    exact ⟨none, 0, 0, fun _ => 0, rfl, Or.inl rfl, by omega⟩
  · simp at hcs
    subst hcs
    refine ⟨some ad, len, cap, ?_⟩
    have hlm : len ≤ m := by rw [hmm]; split <;> omega
    have hbig : len ≤ 9223372036854775807 := by unfold maxLen at hm9; omega
    by_cases h0 : len = 0
    · exact ⟨fun _ => 0, rfl, Or.inl h0, hbig⟩
    obtain ⟨b, off, spot⟩ := ad
    have hsp : spot = none := by
      have q0 := (hcell 0 (by omega)).1
      have := World.cell?_spot q0
      simpa [Addr.add] using this
    subst hsp
    have each : ∀ i, ∃ z : Int, i < len → W.cell? ⟨b, off + i, none⟩ = some (.int .i64 z) := by
      intro i
      by_cases hi : i < len
      · obtain ⟨h1, h2⟩ := hcell i (by omega)
        obtain ⟨z, e, _, _⟩ := DataW.trod_int Tryz.underlying2 h2
        simp at e
        refine ⟨z, fun _ => ?_⟩
        rw [← e, ← h1, Addr.add_lit]
      · exact ⟨0, fun h => absurd h hi⟩
    obtain ⟨f, hf⟩ := Classical.axiomOfChoice each
    exact ⟨f, rfl, Or.inr ⟨b, off, rfl, fun i hi => hf i hi⟩, hbig⟩
theorem ncellsIss : Tryz.prog.cellsOf 24 = 1 := by kernel_rfl
theorem ncellsPs : Tryz.prog.cellsOf 43 = 1 := by kernel_rfl
theorem ncellsMains : Tryz.prog.cellsOf 45 = 5 := by kernel_rfl
set_option maxRecDepth 100000 in
theorem lists_in {H : Type} {enc : TypeId × Value → H} {W : World} {base fuel : Nat} {spare : Nat → Bool} {held : Bool} {x : DataW H × List MemPlace} {y : Value}
    (h : DataW.trod enc Tryz.prog W base spare held fuel 24 [y] = some x) : ∃ a len cap LN L, y = .slice a len cap ∧ LsIn a len LN L W ∧ len ≤ 9223372036854775807 ∧ ∀ i, i < len → LN i ≤ 9223372036854775807 := by
  rcases open_slice1 Tryz.underlying24 ncellsIs h with ⟨hcs, _⟩ | ⟨ad, len, cap, m, n, V, D, Pl, hcs, _, hl, hm9, hmm, _, hcell⟩
  · simp at hcs
    subst hcs
    exact ⟨none, 0, 0, fun _ => 0, fun _ _ => 0, rfl, Or.inl rfl, by omega, fun i hi => absurd hi (by omega)⟩
  · simp at hcs
    subst hcs
    refine ⟨some ad, len, cap, ?_⟩
    have hlm : len ≤ m := by rw [hmm]; split <;> omega
    have hbig : len ≤ 9223372036854775807 := by unfold maxLen at hm9; omega
    by_cases h0 : len = 0
    · exact ⟨fun _ => 0, fun _ _ => 0, rfl, Or.inl h0, hbig, fun i hi => absurd hi (by omega)⟩
    obtain ⟨b, off, spot⟩ := ad
    have hsp : spot = none := by
      have q0 := (hcell 0 (by omega)).1
      have := World.cell?_spot q0
      simpa [Addr.add] using this
    subst hsp
    have each : ∀ i, ∃ z : Nat × (Nat → Int), i < len → (∃ ai ci, W.cell? ⟨b, off + i, none⟩ = some (.slice ai z.1 ci) ∧ IsIn ai z.1 z.2 W) ∧ z.1 ≤ 9223372036854775807 := by
      intro i
      by_cases hi : i < len
      · obtain ⟨h1, h2⟩ := hcell i (by omega)
        obtain ⟨ai, ni, ci, fi, e, h3, h4⟩ := nints_in h2
        refine ⟨(ni, fi), fun _ => ⟨⟨ai, ci, ?_, h3⟩, h4⟩⟩
        rw [← e, ← h1, Addr.add_lit]
      · exact ⟨(0, fun _ => 0), fun h => absurd h hi⟩
    obtain ⟨f, hf⟩ := Classical.axiomOfChoice each
    exact ⟨fun i => (f i).1, fun i => (f i).2, rfl, Or.inr ⟨b, off, rfl, fun i hi => (hf i hi).1⟩, hbig, fun i hi => (hf i hi).2⟩
set_option maxRecDepth 100000 in
theorem mains_in {H : Type} {enc : TypeId × Value → H} {W : World} {base fuel : Nat} {spare : Nat → Bool} {held : Bool} {x : DataW H × List MemPlace} {cs : Array Value}
    (h : DataW.trod enc Tryz.prog W base spare held fuel 45 cs.toList = some x) (hsz : cs.size = Tryz.prog.cellsOf 45) :
    ∃ (m : Mn.Mains) (pa : Option Addr) (pk : Nat) (la : Option Addr) (lk : Nat) (wa : Option Addr) (wk : Nat), cs = #[.int .i64 m.nodes, .int .i64 m.head, .slice pa m.pn pk, .slice la m.ln lk, .slice wa m.wn wk] ∧ MnIn m pa la wa W ∧ MnLens m := by
  rw [ncellsMains] at hsz
  obtain ⟨xs, k, hk, hxy, _, hxl, hf⟩ := DataW.trod_struct Tryz.underlying45 h
  obtain ⟨l⟩ := cs
  match xs, hxl, l, hsz with
  | [y0, y1, y2, y3, y4], _, [v0, v1, v2, v3, v4], _ =>
    have g0 := hf 0 _ rfl
    have g1 := hf 1 _ rfl
    have g2 := hf 2 _ rfl
    have g3 := hf 3 _ rfl
    have g4 := hf 4 _ rfl
    simp [ncellsI, ncellsPs, ncellsIss, ncellsIs] at g0 g1 g2 g3 g4
    obtain ⟨z, e, _, _⟩ := DataW.trod_int Tryz.underlying2 g0
    obtain ⟨z1, e1, _, _⟩ := DataW.trod_int Tryz.underlying2 g1
    simp at e e1
    subst e e1
    obtain ⟨la, ln, lk, L, rfl, h1, h2⟩ := pipes_in g2
    obtain ⟨fa, fn, fk, LN, LL, rfl, h3, h4, h4'⟩ := lists_in g3
    obtain ⟨wa, wn, wk, Wn, rfl, h5, h6⟩ := nints_in g4
    exact ⟨⟨z, z1, ln, L, fn, LN, LL, wn, Wn⟩, la, lk, fa, fk, wa, wk, rfl, ⟨h1, h3, h5⟩, h2, h4, h4', h6⟩
end Go.Proofs.YtfgmalnkpgloiaaGreatDoor
