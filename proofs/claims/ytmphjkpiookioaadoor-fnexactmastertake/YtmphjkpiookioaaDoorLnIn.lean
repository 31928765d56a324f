/-
  Stations, masters and events that came in, as they lie in memory.
-/
import Derived.Test.YtmphjkpiookioaaDoorLnMem
import Derived.Lib.SmallJoins
import Derived.Deep.Slices
import Derived.ProofKit
namespace Go.Proofs.YtmphjkpiookioaaDoor
open Go Go.ChangeShapes Go.WideShapes Go.ChangeAt Go.RowKit Go.Joins Go.Deep

theorem ncellsI : Tryd.prog.cellsOf 2 = 1 := by kernel_rfl
theorem lnbounds {z : Int} (h : (Lit.int .i64 z).wf = true) : -9223372036854775808 ≤ z ∧ z ≤ 9223372036854775807 := by
  simp [Lit.wf, IntKind.min, IntKind.max, IntKind.signed, IntKind.bits] at h
  omega
theorem ncellsNote : Tryd.prog.cellsOf 72 = 2 := by kernel_rfl
set_option maxRecDepth 100000 in
theorem notes_in {H : Type} {enc : TypeId × Value → H} {W : World} {base fuel : Nat} {spare : Nat → Bool} {held : Bool} {x : DataW H × List MemPlace} {y : Value}
    (h : DataW.trod enc Tryd.prog W base spare held fuel 22 [y] = some x) : ∃ a len cap f, y = .slice a len cap ∧ IsIn a (len * 2) f W ∧ len ≤ 9223372036854775807 := by
  rcases open_slice Tryd.underlying22 h with ⟨hcs, _⟩ | ⟨ad, len, cap, m, n, D, Pl, hcs, _, hl, hm9, hmm, _, hx⟩
  · simp at hcs
    subst hcs
    exact ⟨none, 0, 0, fun _ => 0, rfl, Or.inl rfl, by omega⟩
  · simp at hcs
    subst hcs
    refine ⟨some ad, len, cap, ?_⟩
    have hlm : len ≤ m := by rw [hmm]; split <;> omega
    have hbig : len ≤ 9223372036854775807 := by unfold maxLen at hm9; omega
    by_cases h0 : len = 0
    · exact ⟨fun _ => 0, rfl, Or.inl (by omega), hbig⟩
    obtain ⟨b, off, spot⟩ := ad
    have hsp : spot = none := by
      obtain ⟨cs', h1, _⟩ := hx 0 (by omega)
      rw [ncellsNote] at h1
      obtain ⟨_, hlen, hcell⟩ := World.cells?_some h1
      have q0 := hcell 0 (by omega)
      rw [List.getElem?_eq_getElem (by omega)] at q0
      have := World.cell?_spot q0
      simpa [Addr.add] using this
    subst hsp
    have each : ∀ i, ∃ r : Nat → Int, i < len → ∀ c, c < 2 → W.cell? ⟨b, off + (i * 2 + c), none⟩ = some (.int .i64 (r c)) := by
      intro i
      by_cases hi : i < len
      · obtain ⟨cs', h1, h2⟩ := hx i (by omega)
        rw [ncellsNote] at h1
        obtain ⟨_, hlen, hcell⟩ := World.cells?_some h1
        obtain ⟨xs, k, hk, hxy, _, hxl, hf⟩ := DataW.trod_struct Tryd.underlying72 h2
        match xs, hxl, cs', hlen with
        | [y0, y1], _, [v0, v1], _ =>
          have g0 := hf 0 _ rfl
          have g1 := hf 1 _ rfl
          simp [ncellsI] at g0 g1
          obtain ⟨z0, e0, _, _⟩ := DataW.trod_int Tryd.underlying2 g0
          obtain ⟨z1, e1, _, _⟩ := DataW.trod_int Tryd.underlying2 g1
          simp at e0 e1
          have q0 := hcell 0 (by omega)
          have q1 := hcell 1 (by omega)
          rw [Addr.add_add] at q0 q1
          simp at q0 q1
          refine ⟨fun c => [z0, z1].getD c 0, fun _ c hc => ?_⟩
          have hc3 : c = 0 ∨ c = 1 := by omega
          rcases hc3 with rfl | rfl
          · show _ = some (Value.int .i64 z0)
            rw [← e0, ← q0, Addr.add_lit]; rfl
          · show _ = some (Value.int .i64 z1)
            rw [← e1, ← q1, Addr.add_lit]
      · exact ⟨fun _ => 0, fun h => absurd h hi⟩
    obtain ⟨r, hr⟩ := Classical.axiomOfChoice each
    refine ⟨fun j => r (j / 2) (j % 2), rfl, Or.inr ⟨b, off, rfl, fun j hj => ?_⟩, hbig⟩
    have := hr (j / 2) (by omega) (j % 2) (by omega)
    have e : j / 2 * 2 + j % 2 = j := by omega
    rw [e] at this
    exact this
theorem ncellsB : Tryd.prog.cellsOf 4 = 1 := by kernel_rfl
theorem ncellsStation1 : Tryd.prog.cellsOf 24 = 7 := by kernel_rfl
theorem ncellsStationL : Tryd.prog.cellsOf 22 = 1 := by kernel_rfl
set_option maxRecDepth 100000 in
theorem station_in {H : Type} {enc : TypeId × Value → H} {W : World} {base fuel : Nat} {spare : Nat → Bool} {held : Bool} {x : DataW H × List MemPlace} {cs : Array Value}
    (h : DataW.trod enc Tryd.prog W base spare held fuel 24 cs.toList = some x) (hsz : cs.size = Tryd.prog.cellsOf 24) :
    ∃ (s : Ln.S) (a : Option Addr) (k : Nat), cs = #[.int .i64 s.unit, .int .i64 s.band, .bool s.seen, .int .i64 s.last, .int .i64 s.next, .slice a s.wait.length k, .int .i64 s.drops] ∧ IsIn a (s.wait.length * 2) (Ln.fl s.wait) W ∧ s.wait.length ≤ 9223372036854775807 ∧ (-9223372036854775808 ≤ s.drops ∧ s.drops ≤ 9223372036854775807) ∧ (-9223372036854775808 ≤ s.next ∧ s.next ≤ 9223372036854775807) := by
  rw [ncellsStation1] at hsz
  obtain ⟨xs, k, hk, hxy, _, hxl, hf⟩ := DataW.trod_struct Tryd.underlying24 h
  obtain ⟨l⟩ := cs
  match xs, hxl, l, hsz with
  | [y0, y1, y2, y3, y4, y5, y6], _, [v0, v1, v2, v3, v4, v5, v6], _ =>
    have g0 := hf 0 _ rfl
    have g1 := hf 1 _ rfl
    have g2 := hf 2 _ rfl
    have g3 := hf 3 _ rfl
    have g4 := hf 4 _ rfl
    have g5 := hf 5 _ rfl
    have g6 := hf 6 _ rfl
    simp [ncellsI, ncellsB, ncellsStationL] at g0 g1 g2 g3 g4 g5 g6
    obtain ⟨z0, e0, _, _⟩ := DataW.trod_int Tryd.underlying2 g0
    obtain ⟨z1, e1, _, _⟩ := DataW.trod_int Tryd.underlying2 g1
    obtain ⟨z2, e2, _⟩ := DataW.trod_bool Tryd.underlying4 g2
    obtain ⟨z3, e3, _, _⟩ := DataW.trod_int Tryd.underlying2 g3
    obtain ⟨z4, e4, _, wf4⟩ := DataW.trod_int Tryd.underlying2 g4
    obtain ⟨z6, e6, _, wf6⟩ := DataW.trod_int Tryd.underlying2 g6
    simp at e0 e1 e2 e3 e4 e6
    subst e0 e1 e2 e3 e4 e6
    obtain ⟨a, n, c, f, rfl, h1, h2⟩ := notes_in g5
    exact ⟨⟨z0, z1, z2, z3, z4, Ln.nof n f, z6⟩, a, c, by simp only [Ln.nof_len], by simp only [Ln.nof_len]; exact h1.congr (fun i hi => (Ln.nof_fl n f i hi).symm), by simp only [Ln.nof_len]; exact h2, lnbounds wf6, lnbounds wf4⟩
theorem ncellsMaster1 : Tryd.prog.cellsOf 34 = 3 := by kernel_rfl
theorem ncellsMasterL : Tryd.prog.cellsOf 22 = 1 := by kernel_rfl
set_option maxRecDepth 100000 in
theorem master_in {H : Type} {enc : TypeId × Value → H} {W : World} {base fuel : Nat} {spare : Nat → Bool} {held : Bool} {x : DataW H × List MemPlace} {cs : Array Value}
    (h : DataW.trod enc Tryd.prog W base spare held fuel 34 cs.toList = some x) (hsz : cs.size = Tryd.prog.cellsOf 34) :
    ∃ (m : Ln.M) (a : Option Addr) (k : Nat), cs = #[.int .i64 m.seq, .slice a m.notes.length k, .int .i64 m.gaps] ∧ IsIn a (m.notes.length * 2) (Ln.fl m.notes) W ∧ m.notes.length ≤ 9223372036854775807 := by
  rw [ncellsMaster1] at hsz
  obtain ⟨xs, k, hk, hxy, _, hxl, hf⟩ := DataW.trod_struct Tryd.underlying34 h
  obtain ⟨l⟩ := cs
  match xs, hxl, l, hsz with
  | [y0, y1, y2], _, [v0, v1, v2], _ =>
    have g0 := hf 0 _ rfl
    have g1 := hf 1 _ rfl
    have g2 := hf 2 _ rfl
    simp [ncellsI, ncellsMasterL] at g0 g1 g2
    obtain ⟨z0, e0, _, _⟩ := DataW.trod_int Tryd.underlying2 g0
    obtain ⟨z2, e2, _, _⟩ := DataW.trod_int Tryd.underlying2 g2
    simp at e0 e2
    subst e0 e2
    obtain ⟨a, n, c, f, rfl, h1, h2⟩ := notes_in g1
    exact ⟨⟨z0, Ln.nof n f, z2⟩, a, c, by simp only [Ln.nof_len], by simp only [Ln.nof_len]; exact h1.congr (fun i hi => (Ln.nof_fl n f i hi).symm), by simp only [Ln.nof_len]; exact h2⟩
end Go.Proofs.YtmphjkpiookioaaDoor
