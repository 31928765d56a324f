/-
  Nets and lists of fractions that came in, as they lie in memory.
-/
import Derived.Test.YtkaokfmaecdkiaaGreatDoorNtMem
import Derived.Lib.SmallJoins
import Derived.Deep.Slices
import Derived.ProofKit
namespace Go.Proofs.YtkaokfmaecdkiaaGreatDoor
open Go Go.ChangeShapes Go.WideShapes Go.ChangeAt Go.RowKit Go.Joins Go.Deep

theorem ncellsI : Tryz.prog.cellsOf 2 = 1 := by kernel_rfl
theorem ncellsLink : Tryz.prog.cellsOf 114 = 3 := by kernel_rfl
set_option maxRecDepth 100000 in
theorem links_in {H : Type} {enc : TypeId × Value → H} {W : World} {base fuel : Nat} {spare : Nat → Bool} {held : Bool} {x : DataW H × List MemPlace} {y : Value}
    (h : DataW.trod enc Tryz.prog W base spare held fuel 41 [y] = some x) : ∃ a len cap f, y = .slice a len cap ∧ IsIn a (len * 3) f W ∧ len ≤ 9223372036854775807 := by
  rcases open_slice Tryz.underlying41 h with ⟨hcs, _⟩ | ⟨ad, len, cap, m, n, D, Pl, hcs, _, hl, hm9, hmm, _, hx⟩
  · simp at hcs
    subst hcs
    exact ⟨none, 0, 0, fun _ => 0, rfl, Or.inl rfl, by omega⟩
  · simp at hcs
    subst hcs
    refine ⟨some ad, len, cap, ?_⟩
    have hlm : len ≤ m := by rw [hmm]; split <;> omega
    have hbig : len ≤ 9223372036854775807 := by unfold maxLen at hm9; omega
    by_cases h0 : len = 0
    · exact ⟨fun _ => 0, rfl, Or.inl (by omega), hbig⟩
    obtain ⟨b, off, spot⟩ := ad
    have hsp : spot = none := by
      obtain ⟨cs', h1, _⟩ := hx 0 (by omega)
      rw [ncellsLink] at h1
      obtain ⟨_, hlen, hcell⟩ := World.cells?_some h1
      have q0 := hcell 0 (by omega)
      rw [List.getElem?_eq_getElem (by omega)] at q0
      have := World.cell?_spot q0
      simpa [Addr.add] using this
    subst hsp
    have each : ∀ i, ∃ r : Nat → Int, i < len → ∀ c, c < 3 → W.cell? ⟨b, off + (i * 3 + c), none⟩ = some (.int .i64 (r c)) := by
      intro i
      by_cases hi : i < len
      · obtain ⟨cs', h1, h2⟩ := hx i (by omega)
        rw [ncellsLink] at h1
        obtain ⟨_, hlen, hcell⟩ := World.cells?_some h1
        obtain ⟨xs, k, hk, hxy, _, hxl, hf⟩ := DataW.trod_struct Tryz.underlying114 h2
        match xs, hxl, cs', hlen with
        | [y0, y1, y2], _, [v0, v1, v2], _ =>
          have g0 := hf 0 _ rfl
          have g1 := hf 1 _ rfl
          have g2 := hf 2 _ rfl
          simp [ncellsI] at g0 g1 g2
          obtain ⟨z0, e0, _, _⟩ := DataW.trod_int Tryz.underlying2 g0
          obtain ⟨z1, e1, _, _⟩ := DataW.trod_int Tryz.underlying2 g1
          obtain ⟨z2, e2, _, _⟩ := DataW.trod_int Tryz.underlying2 g2
          simp at e0 e1 e2
          have q0 := hcell 0 (by omega)
          have q1 := hcell 1 (by omega)
          have q2 := hcell 2 (by omega)
          rw [Addr.add_add] at q0 q1 q2
          simp at q0 q1 q2
          refine ⟨fun c => [z0, z1, z2].getD c 0, fun _ c hc => ?_⟩
          have hc3 : c = 0 ∨ c = 1 ∨ c = 2 := by omega
          rcases hc3 with rfl | rfl | rfl
          · show _ = some (Value.int .i64 z0)
            rw [← e0, ← q0, Addr.add_lit]; rfl
          · show _ = some (Value.int .i64 z1)
            rw [← e1, ← q1, Addr.add_lit]
          · show _ = some (Value.int .i64 z2)
            rw [← e2, ← q2, Addr.add_lit]
      · exact ⟨fun _ => 0, fun h => absurd h hi⟩
    obtain ⟨r, hr⟩ := Classical.axiomOfChoice each
    refine ⟨fun j => r (j / 3) (j % 3), rfl, Or.inr ⟨b, off, rfl, fun j hj => ?_⟩, hbig⟩
    have := hr (j / 3) (by omega) (j % 3) (by omega)
    have e : j / 3 * 3 + j % 3 = j := by omega
    rw [e] at this
    exact this
theorem ncellsFixed : Tryz.prog.cellsOf 116 = 2 := by kernel_rfl
set_option maxRecDepth 100000 in
theorem fixeds_in {H : Type} {enc : TypeId × Value → H} {W : World} {base fuel : Nat} {spare : Nat → Bool} {held : Bool} {x : DataW H × List MemPlace} {y : Value}
    (h : DataW.trod enc Tryz.prog W base spare held fuel 42 [y] = some x) : ∃ a len cap f, y = .slice a len cap ∧ IsIn a (len * 2) f W ∧ len ≤ 9223372036854775807 := by
  rcases open_slice Tryz.underlying42 h with ⟨hcs, _⟩ | ⟨ad, len, cap, m, n, D, Pl, hcs, _, hl, hm9, hmm, _, hx⟩
  · simp at hcs
    subst hcs
    exact ⟨none, 0, 0, fun _ => 0, rfl, Or.inl rfl, by omega⟩
  · simp at hcs
    subst hcs
    refine ⟨some ad, len, cap, ?_⟩
    have hlm : len ≤ m := by rw [hmm]; split <;> omega
    have hbig : len ≤ 9223372036854775807 := by unfold maxLen at hm9; omega
    by_cases h0 : len = 0
    · exact ⟨fun _ => 0, rfl, Or.inl (by omega), hbig⟩
    obtain ⟨b, off, spot⟩ := ad
    have hsp : spot = none := by
      obtain ⟨cs', h1, _⟩ := hx 0 (by omega)
      rw [ncellsFixed] at h1
      obtain ⟨_, hlen, hcell⟩ := World.cells?_some h1
      have q0 := hcell 0 (by omega)
      rw [List.getElem?_eq_getElem (by omega)] at q0
      have := World.cell?_spot q0
      simpa [Addr.add] using this
    subst hsp
    have each : ∀ i, ∃ r : Nat → Int, i < len → ∀ c, c < 2 → W.cell? ⟨b, off + (i * 2 + c), none⟩ = some (.int .i64 (r c)) := by
      intro i
      by_cases hi : i < len
      · obtain ⟨cs', h1, h2⟩ := hx i (by omega)
        rw [ncellsFixed] at h1
        obtain ⟨_, hlen, hcell⟩ := World.cells?_some h1
        obtain ⟨xs, k, hk, hxy, _, hxl, hf⟩ := DataW.trod_struct Tryz.underlying116 h2
        match xs, hxl, cs', hlen with
        | [y0, y1], _, [v0, v1], _ =>
          have g0 := hf 0 _ rfl
          have g1 := hf 1 _ rfl
          simp [ncellsI] at g0 g1
          obtain ⟨z0, e0, _, _⟩ := DataW.trod_int Tryz.underlying2 g0
          obtain ⟨z1, e1, _, _⟩ := DataW.trod_int Tryz.underlying2 g1
          simp at e0 e1
          have q0 := hcell 0 (by omega)
          have q1 := hcell 1 (by omega)
          rw [Addr.add_add] at q0 q1
          simp at q0 q1
          refine ⟨fun c => [z0, z1].getD c 0, fun _ c hc => ?_⟩
          have hc3 : c = 0 ∨ c = 1 := by omega
          rcases hc3 with rfl | rfl
          · show _ = some (Value.int .i64 z0)
            rw [← e0, ← q0, Addr.add_lit]; rfl
          · show _ = some (Value.int .i64 z1)
            rw [← e1, ← q1, Addr.add_lit]
      · exact ⟨fun _ => 0, fun h => absurd h hi⟩
    obtain ⟨r, hr⟩ := Classical.axiomOfChoice each
    refine ⟨fun j => r (j / 2) (j % 2), rfl, Or.inr ⟨b, off, rfl, fun j hj => ?_⟩, hbig⟩
    have := hr (j / 2) (by omega) (j % 2) (by omega)
    have e : j / 2 * 2 + j % 2 = j := by omega
    rw [e] at this
    exact this
/-- All are numbers of 64 bits. -/
def NBd (f : Nat → Int) : Prop := ∀ j, -9223372036854775808 ≤ f j ∧ f j ≤ 9223372036854775807
theorem nbd0 : NBd (fun _ => 0) := fun _ => ⟨by simp, by simp⟩
theorem ncellsNet : Tryz.prog.cellsOf 44 = 4 := by kernel_rfl
theorem ncellsLs : Tryz.prog.cellsOf 41 = 1 := by kernel_rfl
theorem ncellsFs : Tryz.prog.cellsOf 42 = 1 := by kernel_rfl
theorem ncellsIs : Tryz.prog.cellsOf 25 = 1 := by kernel_rfl
set_option maxRecDepth 100000 in
theorem nints_in {H : Type} {enc : TypeId × Value → H} {W : World} {base fuel : Nat} {spare : Nat → Bool} {held : Bool} {x : DataW H × List MemPlace} {y : Value}
    (h : DataW.trod enc Tryz.prog W base spare held fuel 25 [y] = some x) : ∃ a len cap f, y = .slice a len cap ∧ IsIn a len f W ∧ len ≤ 9223372036854775807 := by
  rcases open_slice1 Tryz.underlying25 ncellsI h with ⟨hcs, _⟩ | ⟨ad, len, cap, m, n, V, D, Pl, hcs, _, hl, hm9, hmm, _, hcell⟩
  · simp at hcs
    subst hcs
    exact ⟨none, 0, 0, fun _ => 0, rfl, Or.inl rfl, by omega⟩
  · simp at hcs
    subst hcs
    refine ⟨some ad, len, cap, ?_⟩
    have hlm : len ≤ m := by rw [hmm]; split <;> omega
    have hbig : len ≤ 9223372036854775807 := by unfold maxLen at hm9; omega
    by_cases h0 : len = 0
    · exact ⟨fun _ => 0, rfl, Or.inl h0, hbig⟩
    obtain ⟨b, off, spot⟩ := ad
    have hsp : spot = none := by
      have q0 := (hcell 0 (by omega)).1
      have := World.cell?_spot q0
      simpa [Addr.add] using this
    subst hsp
    have each : ∀ i, ∃ z : Int, i < len → W.cell? ⟨b, off + i, none⟩ = some (.int .i64 z) := by
      intro i
      by_cases hi : i < len
      · obtain ⟨h1, h2⟩ := hcell i (by omega)
        obtain ⟨z, e, _, _⟩ := DataW.trod_int Tryz.underlying2 h2
        simp at e
        refine ⟨z, fun _ => ?_⟩
        rw [← e, ← h1, Addr.add_lit]
      · exact ⟨0, fun h => absurd h hi⟩
    obtain ⟨f, hf⟩ := Classical.axiomOfChoice each
    exact ⟨f, rfl, Or.inr ⟨b, off, rfl, fun i hi => hf i hi⟩, hbig⟩
/-- No list is longer than a list can be. -/
def NtLens (n : Nt.Net) : Prop := n.ln ≤ 9223372036854775807 ∧ n.fn ≤ 9223372036854775807 ∧ n.wn ≤ 9223372036854775807
set_option maxRecDepth 100000 in
theorem net_in {H : Type} {enc : TypeId × Value → H} {W : World} {base fuel : Nat} {spare : Nat → Bool} {held : Bool} {x : DataW H × List MemPlace} {cs : Array Value}
    (h : DataW.trod enc Tryz.prog W base spare held fuel 44 cs.toList = some x) (hsz : cs.size = Tryz.prog.cellsOf 44) :
    ∃ (n : Nt.Net) (la : Option Addr) (lk : Nat) (fa : Option Addr) (fk : Nat) (wa : Option Addr) (wk : Nat), cs = #[.int .i64 n.nodes, .slice la n.ln lk, .slice fa n.fn fk, .slice wa n.wn wk] ∧ NtIn n la fa wa W ∧ NtLens n := by
  rw [ncellsNet] at hsz
  obtain ⟨xs, k, hk, hxy, _, hxl, hf⟩ := DataW.trod_struct Tryz.underlying44 h
  obtain ⟨l⟩ := cs
  match xs, hxl, l, hsz with
  | [y0, y1, y2, y3], _, [v0, v1, v2, v3], _ =>
    have g0 := hf 0 _ rfl
    have g1 := hf 1 _ rfl
    have g2 := hf 2 _ rfl
    have g3 := hf 3 _ rfl
    simp [ncellsI, ncellsLs, ncellsFs, ncellsIs] at g0 g1 g2 g3
    obtain ⟨z, e, _, _⟩ := DataW.trod_int Tryz.underlying2 g0
    simp at e
    subst e
    obtain ⟨la, ln, lk, L, rfl, h1, h2⟩ := links_in g1
    obtain ⟨fa, fn, fk, F, rfl, h3, h4⟩ := fixeds_in g2
    obtain ⟨wa, wn, wk, Wn, rfl, h5, h6⟩ := nints_in g3
    exact ⟨⟨z, ln, L, fn, F, wn, Wn⟩, la, lk, fa, fk, wa, wk, rfl, ⟨h1, h3, h5⟩, h2, h4, h6⟩
end Go.Proofs.YtkaokfmaecdkiaaGreatDoor
