/-
  Programs that came in, as they lie in memory.
-/
import Derived.Test.YtgkdnpnnmmpnmaaGreatDoorPgMem
import Derived.Lib.SmallJoins
import Derived.Deep.Slices
import Derived.ProofKit
namespace Go.Proofs.YtgkdnpnnmmpnmaaGreatDoor
open Go Go.ChangeShapes Go.WideShapes Go.ChangeAt Go.RowKit Go.Joins Go.Deep

theorem ncellsI : Tryz.prog.cellsOf 2 = 1 := by kernel_rfl
theorem ncellsIsP : Tryz.prog.cellsOf 24 = 1 := by kernel_rfl
set_option maxRecDepth 100000 in
theorem pints_in {H : Type} {enc : TypeId × Value → H} {W : World} {base fuel : Nat} {spare : Nat → Bool} {held : Bool} {x : DataW H × List MemPlace} {y : Value}
    (h : DataW.trod enc Tryz.prog W base spare held fuel 24 [y] = some x) : ∃ a len cap f, y = .slice a len cap ∧ IsIn a len f W ∧ len ≤ 9223372036854775807 := by
  rcases open_slice1 Tryz.underlying24 ncellsI h with ⟨hcs, _⟩ | ⟨ad, len, cap, m, n, V, D, Pl, hcs, _, hl, hm9, hmm, _, hcell⟩
  · simp at hcs
    subst hcs
    exact ⟨none, 0, 0, fun _ => 0, rfl, Or.inl rfl, by omega⟩
  · simp at hcs
    subst hcs
    refine ⟨some ad, len, cap, ?_⟩
    have hlm : len ≤ m := by rw [hmm]; split <;> omega
    have hbig : len ≤ 9223372036854775807 := by unfold maxLen at hm9; omega
    by_cases h0 : len = 0
    · exact ⟨fun _ => 0, rfl, Or.inl h0, hbig⟩
    obtain ⟨b, off, spot⟩ := ad
    have hsp : spot = none := by
      have q0 := (hcell 0 (by omega)).1
      have := World.cell?_spot q0
      simpa [Addr.add] using this
    subst hsp
    have each : ∀ i, ∃ z : Int, i < len → W.cell? ⟨b, off + i, none⟩ = some (.int .i64 z) := by
      intro i
      by_cases hi : i < len
      · obtain ⟨h1, h2⟩ := hcell i (by omega)
        obtain ⟨z, e, _, _⟩ := DataW.trod_int Tryz.underlying2 h2
        simp at e
        refine ⟨z, fun _ => ?_⟩
        rw [← e, ← h1, Addr.add_lit]
      · exact ⟨0, fun h => absurd h hi⟩
    obtain ⟨f, hf⟩ := Classical.axiomOfChoice each
    exact ⟨f, rfl, Or.inr ⟨b, off, rfl, fun i hi => hf i hi⟩, hbig⟩
theorem ncellsPair : Tryz.prog.cellsOf 149 = 2 := by kernel_rfl
set_option maxRecDepth 100000 in
theorem pairs_in {H : Type} {enc : TypeId × Value → H} {W : World} {base fuel : Nat} {spare : Nat → Bool} {held : Bool} {x : DataW H × List MemPlace} {y : Value}
    (h : DataW.trod enc Tryz.prog W base spare held fuel 54 [y] = some x) : ∃ a len cap f, y = .slice a len cap ∧ IsIn a (len * 2) f W ∧ len ≤ 9223372036854775807 := by
  rcases open_slice Tryz.underlying54 h with ⟨hcs, _⟩ | ⟨ad, len, cap, m, n, D, Pl, hcs, _, hl, hm9, hmm, _, hx⟩
  · simp at hcs
    subst hcs
    exact ⟨none, 0, 0, fun _ => 0, rfl, Or.inl rfl, by omega⟩
  · simp at hcs
    subst hcs
    refine ⟨some ad, len, cap, ?_⟩
    have hlm : len ≤ m := by rw [hmm]; split <;> omega
    have hbig : len ≤ 9223372036854775807 := by unfold maxLen at hm9; omega
    by_cases h0 : len = 0
    · exact ⟨fun _ => 0, rfl, Or.inl (by omega), hbig⟩
    obtain ⟨b, off, spot⟩ := ad
    have hsp : spot = none := by
      obtain ⟨cs', h1, _⟩ := hx 0 (by omega)
      rw [ncellsPair] at h1
      obtain ⟨_, hlen, hcell⟩ := World.cells?_some h1
      have q0 := hcell 0 (by omega)
      rw [List.getElem?_eq_getElem (by omega)] at q0
      have := World.cell?_spot q0
      simpa [Addr.add] using this
    subst hsp
    have each : ∀ i, ∃ r : Nat → Int, i < len → ∀ c, c < 2 → W.cell? ⟨b, off + (i * 2 + c), none⟩ = some (.int .i64 (r c)) := by
      intro i
      by_cases hi : i < len
      · obtain ⟨cs', h1, h2⟩ := hx i (by omega)
        rw [ncellsPair] at h1
        obtain ⟨_, hlen, hcell⟩ := World.cells?_some h1
        obtain ⟨xs, k, hk, hxy, _, hxl, hf⟩ := DataW.trod_struct Tryz.underlying149 h2
        match xs, hxl, cs', hlen with
        | [y0, y1], _, [v0, v1], _ =>
          have g0 := hf 0 _ rfl
          have g1 := hf 1 _ rfl
          simp [ncellsI] at g0 g1
          obtain ⟨z0, e0, _, _⟩ := DataW.trod_int Tryz.underlying2 g0
          obtain ⟨z1, e1, _, _⟩ := DataW.trod_int Tryz.underlying2 g1
          simp at e0 e1
          have q0 := hcell 0 (by omega)
          have q1 := hcell 1 (by omega)
          rw [Addr.add_add] at q0 q1
          simp at q0 q1
          refine ⟨fun c => [z0, z1].getD c 0, fun _ c hc => ?_⟩
          have hc3 : c = 0 ∨ c = 1 := by omega
          rcases hc3 with rfl | rfl
          · show _ = some (Value.int .i64 z0)
            rw [← e0, ← q0, Addr.add_lit]; rfl
          · show _ = some (Value.int .i64 z1)
            rw [← e1, ← q1, Addr.add_lit]
      · exact ⟨fun _ => 0, fun h => absurd h hi⟩
    obtain ⟨r, hr⟩ := Classical.axiomOfChoice each
    refine ⟨fun j => r (j / 2) (j % 2), rfl, Or.inr ⟨b, off, rfl, fun j hj => ?_⟩, hbig⟩
    have := hr (j / 2) (by omega) (j % 2) (by omega)
    have e : j / 2 * 2 + j % 2 = j := by omega
    rw [e] at this
    exact this
theorem ncellsLb : Tryz.prog.cellsOf 146 = 4 := by kernel_rfl
theorem ncellsStr : Tryz.prog.cellsOf 9 = 1 := by kernel_rfl
set_option maxRecDepth 100000 in
theorem blocks_in {H : Type} {enc : TypeId × Value → H} {W : World} {base fuel : Nat} {spare : Nat → Bool} {held : Bool} {x : DataW H × List MemPlace} {y : Value}
    (h : DataW.trod enc Tryz.prog W base spare held fuel 53 [y] = some x) : ∃ a len cap B, y = .slice a len cap ∧ BksIn a len B W ∧ len ≤ 9223372036854775807 ∧ ∀ i, i < len → (B i).name.size ≤ 9223372036854775807 := by
  rcases open_slice Tryz.underlying53 h with ⟨hcs, _⟩ | ⟨ad, len, cap, m, n, D, Pl, hcs, _, hl, hm9, hmm, _, hx⟩
  · simp at hcs
    subst hcs
    exact ⟨none, 0, 0, fun _ => ⟨0, ⟨#[]⟩, 0, 0⟩, rfl, Or.inl rfl, by omega, fun i hi => absurd hi (by omega)⟩
  · simp at hcs
    subst hcs
    refine ⟨some ad, len, cap, ?_⟩
    have hlm : len ≤ m := by rw [hmm]; split <;> omega
    have hbig : len ≤ 9223372036854775807 := by unfold maxLen at hm9; omega
    by_cases h0 : len = 0
    · exact ⟨fun _ => ⟨0, ⟨#[]⟩, 0, 0⟩, rfl, Or.inl (by omega), hbig, fun i hi => absurd hi (by omega)⟩
    obtain ⟨b, off, spot⟩ := ad
    have hsp : spot = none := by
      obtain ⟨cs', h1, _⟩ := hx 0 (by omega)
      rw [ncellsLb] at h1
      obtain ⟨_, hlen, hcell⟩ := World.cells?_some h1
      have q0 := hcell 0 (by omega)
      rw [List.getElem?_eq_getElem (by omega)] at q0
      have := World.cell?_spot q0
      simpa [Addr.add] using this
    subst hsp
    have each : ∀ i, ∃ r : Pg.Bk, i < len → BkC b (off + i * 4) r W ∧ r.name.size ≤ 9223372036854775807 := by
      intro i
      by_cases hi : i < len
      · obtain ⟨cs', h1, h2⟩ := hx i (by omega)
        rw [ncellsLb] at h1
        obtain ⟨_, hlen, hcell⟩ := World.cells?_some h1
        obtain ⟨xs, k, hk, hxy, _, hxl, hf⟩ := DataW.trod_struct Tryz.underlying146 h2
        match xs, hxl, cs', hlen with
        | [y0, y1, y2, y3], _, [v0, v1, v2, v3], _ =>
          have g0 := hf 0 _ rfl
          have g1 := hf 1 _ rfl
          have g2 := hf 2 _ rfl
          have g3 := hf 3 _ rfl
          simp [ncellsI, ncellsStr] at g0 g1 g2 g3
          obtain ⟨z0, e0, _, _⟩ := DataW.trod_int Tryz.underlying2 g0
          obtain ⟨s1, e1, _, ws⟩ := DataW.trod_string Tryz.underlying9 g1
          obtain ⟨z2, e2, _, _⟩ := DataW.trod_int Tryz.underlying2 g2
          obtain ⟨z3, e3, _, _⟩ := DataW.trod_int Tryz.underlying2 g3
          simp at e0 e1 e2 e3
          have q0 := hcell 0 (by omega)
          have q1 := hcell 1 (by omega)
          have q2 := hcell 2 (by omega)
          have q3 := hcell 3 (by omega)
          rw [Addr.add_add] at q0 q1 q2 q3
          simp at q0 q1 q2 q3
          refine ⟨⟨z0, s1, z2, z3⟩, fun _ => ⟨⟨?_, ?_, ?_, ?_⟩, ?_⟩⟩
          · show _ = some (Value.int .i64 z0)
            rw [← e0, ← q0, Addr.add_lit]
          · show _ = some (Value.string s1)
            rw [← e1, ← q1, Addr.add_lit]; rfl
          · show _ = some (Value.int .i64 z2)
            rw [← e2, ← q2, Addr.add_lit]; rfl
          · show _ = some (Value.int .i64 z3)
            rw [← e3, ← q3, Addr.add_lit]; rfl
          · unfold maxLen at ws; show s1.size ≤ _; omega
      · exact ⟨⟨0, ⟨#[]⟩, 0, 0⟩, fun h => absurd h hi⟩
    obtain ⟨r, hr⟩ := Classical.axiomOfChoice each
    exact ⟨r, rfl, Or.inr ⟨b, off, rfl, fun i hi => (hr i hi).1⟩, hbig, fun i hi => (hr i hi).2⟩
theorem ncellsProg : Tryz.prog.cellsOf 56 = 3 := by kernel_rfl
theorem ncellsBs : Tryz.prog.cellsOf 53 = 1 := by kernel_rfl
theorem ncellsPs : Tryz.prog.cellsOf 54 = 1 := by kernel_rfl
set_option maxRecDepth 100000 in
theorem prog_in {H : Type} {enc : TypeId × Value → H} {W : World} {base fuel : Nat} {spare : Nat → Bool} {held : Bool} {x : DataW H × List MemPlace} {cs : Array Value}
    (h : DataW.trod enc Tryz.prog W base spare held fuel 56 cs.toList = some x) (hsz : cs.size = Tryz.prog.cellsOf 56) :
    ∃ (n : Pg.Prog) (la : Option Addr) (lk : Nat) (fa : Option Addr) (fk : Nat) (wa : Option Addr) (wk : Nat), cs = #[.slice la n.bn lk, .slice fa n.on fk, .slice wa n.nn wk] ∧ PgIn n la fa wa W ∧ PgLens n := by
  rw [ncellsProg] at hsz
  obtain ⟨xs, k, hk, hxy, _, hxl, hf⟩ := DataW.trod_struct Tryz.underlying56 h
  obtain ⟨l⟩ := cs
  match xs, hxl, l, hsz with
  | [y0, y1, y2], _, [v0, v1, v2], _ =>
    have g0 := hf 0 _ rfl
    have g1 := hf 1 _ rfl
    have g2 := hf 2 _ rfl
    simp [ncellsBs, ncellsIsP, ncellsPs] at g0 g1 g2
    obtain ⟨la, ln, lk, L, rfl, h1, h2, h7⟩ := blocks_in g0
    obtain ⟨fa, fn, fk, F, rfl, h3, h4⟩ := pints_in g1
    obtain ⟨wa, wn, wk, Wn, rfl, h5, h6⟩ := pairs_in g2
    exact ⟨⟨ln, L, fn, F, wn, Wn⟩, la, lk, fa, fk, wa, wk, rfl, ⟨h1, h3, h5⟩, ⟨h2, h7⟩, h4, h6⟩
end Go.Proofs.YtgkdnpnnmmpnmaaGreatDoor
