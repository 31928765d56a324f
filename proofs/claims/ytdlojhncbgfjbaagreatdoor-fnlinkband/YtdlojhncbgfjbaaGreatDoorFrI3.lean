/-
  The contracts of the program's scanner of frames: its start, what is left of its bytes, a frame's head.
-/
import Derived.Test.YtdlojhncbgfjbaaGreatDoorFrI2
import Derived.Test.YtdlojhncbgfjbaaGreatDoorFrRead
import Derived.Test.YtdlojhncbgfjbaaGreatDoorAsC
import Derived.Deep.OwnRows
import Derived.Deep.Heap
namespace Go.Proofs.YtdlojhncbgfjbaaGreatDoor
open Go.RowKit Go.Deep

/-- The two cells of a scanner. -/
def scn2 (g n cap i : Nat) (k : Nat) : Value := if k = 0 then .slice (some ⟨g, 0, none⟩) n cap else .int .i64 (i : Int)
/-- A scanner that has read i bytes of l. -/
def Scn (B p g cap : Nat) (l : List UInt8) (i : Nat) (W : World) : Prop :=
  B ≤ p ∧ B ≤ g ∧ p ≠ g ∧ l.length ≤ cap ∧ i ≤ l.length ∧ l.length ≤ 20000 ∧ W.rowIs p 179 2 (scn2 g l.length cap i) ∧ ∀ j (h : j < l.length), W.cell? ⟨g, j, none⟩ = some (.int .u8 l[j].toNat)

theorem scn_start (w : World) (s : ByteArray) (hs : s.size ≤ 20000) : Scn w.heap.size (Lib.bytesWorld w 5 s).heap.size w.heap.size (grownCap w s.size 0 5) s.data.toList 0 ((Lib.bytesWorld w 5 s).alloc (.cells #[.slice (some ⟨w.heap.size, 0, none⟩) s.size (grownCap w s.size 0 5), .int .i64 0] 179)) := by
  have hsz := Lib.bytesWorld_size w 5 s
  refine ⟨by omega, Nat.le_refl _, by omega, grownCap_ge _ _ _ _, Nat.zero_le _, hs, ?_, fun j hj => ?_⟩
  · exact World.rowIs_alloc (Lib.bytesWorld w 5 s) #[.slice (some ⟨w.heap.size, 0, none⟩) s.size (grownCap w s.size 0 5), .int .i64 0] 179 _ (fun i hi => by
      have hv : i = 0 ∨ i = 1 := by simp at hi; omega
      rcases hv with rfl | rfl <;> rfl)
  · rw [World.cell?_alloc_lt _ _ ⟨w.heap.size, j, none⟩ (by rw [hsz]; show w.heap.size < _; omega), Lib.bytesWorld_cell w 5 s j hj]
    rw [List.getD_eq_getElem?_getD, List.getElem?_eq_getElem hj]
    rfl

set_option maxRecDepth 100000 in
set_option maxHeartbeats 1000000 in
theorem scanner_of (s : ByteArray) (hs : s.size ≤ 20000) (w : World) :
    Calls Tryz.prog 95 #[.string s] w fun e w' => ∃ p g cap, e = .returned (.tuple #[.pointer (some ⟨p, 0, none⟩), .nilIface]) ∧ Scn w.heap.size p g cap s.data.toList 0 w' ∧ Below w.heap.size w w' := by
  have hz : ¬ (20000 : Int) < (s.size : Int) := by omega
  have hcv := fun wx => Lib.run_convert_string_bytes (P := Tryz.prog) wx 9 22 5 s Tryz.underlying9 Tryz.underlying22 Tryz.underlying5
  go_enter Tryz.func95, Tryz.ntmps95
  go_wp2_with fail
  have hsz := Lib.bytesWorld_size w 5 s
  refine bodyPost_ret (v := .tuple #[.pointer (some ⟨(Lib.bytesWorld w 5 s).heap.size, 0, none⟩), .nilIface]) (by simp [results, Tryz.results95, go_sem]) rfl ⟨_, rfl, ⟨_, _, scn_start w s hs⟩, ((Lib.bytesWorld_below _ _ _).alloc (by rw [hsz]; omega) _)⟩

set_option maxRecDepth 100000 in
set_option maxHeartbeats 1000000 in
theorem rest_any (B p g cap i : Nat) (l : List UInt8) (w : World) (h : Scn B p g cap l i w) :
    Calls Tryz.prog 106 #[.pointer (some ⟨p, 0, none⟩)] w fun e w' => (∃ o c, e = .returned (.slice (some ⟨g, o, none⟩) (l.length - i) c) ∧ l.length - i ≤ c ∧ (i < l.length → o = i)) ∧ ∃ m, w' = w.drewN m := by
  obtain ⟨h1, h2, h3, h4, h5, h6, h7, h8⟩ := h
  have c0 : w.cell? ⟨p, 0, none⟩ = some (.slice (some ⟨g, 0, none⟩) l.length cap) := h7.cell (i := 0) (by omega)
  have c1 : w.cell? ⟨p, 1, none⟩ = some (.int .i64 (i : Int)) := h7.cell (i := 1) (by omega)
  have z1 : (i : Int) ≤ (l.length : Int) := by omega
  have z2 : (l.length : Int) ≤ (cap : Int) := by omega
  clear h7 h8
  go_enter Tryz.func106, Tryz.ntmps106
  go_wp2_with fail
  go_region
  go_wp2_with fail
  · go_ret
    exact ⟨⟨_, _, rfl, by omega, fun hi => by omega⟩, 1, rfl⟩
  · go_ret
    exact ⟨⟨_, _, rfl, by omega, fun hi => rfl⟩, 1, rfl⟩

theorem Scn.below {B p g cap i : Nat} {l : List UInt8} {W W' : World} (h : Scn B p g cap l i W) (hb : Below W.heap.size W W') : Scn B p g cap l i W' := by
  obtain ⟨h1, h2, h3, h4, h5, h6, h7, h8⟩ := h
  refine ⟨h1, h2, h3, h4, h5, h6, h7.of_block (hb.block _ h7.lt), fun j hj => ?_⟩
  rw [hb.cell (World.block_lt_of_cell? _ _ (h8 j hj))]
  exact h8 j hj

set_option maxHeartbeats 1000000 in
theorem two_any (a b : Nat) (ha : a < 256) (hb : b < 256) (w : World) :
    Calls Tryz.prog 112 #[.int .u8 (a : Int), .int .u8 (b : Int)] w fun e w' => e = .returned (.int .u32 ((a : Int) * 256 + (b : Int))) ∧ w' = w := by
  have ha' : (a : Int) < 256 := by omega
  have hb' : (b : Int) < 256 := by omega
  have ho : bits .or .u32 ((a : Int) * 256) (b : Int) = (a : Int) * 256 + (b : Int) := by
    have e : (a : Int) * 256 = ((a * 256 : Nat) : Int) := by omega
    rw [e, u32_or_nat _ _ (by omega) (by omega), nat_join 8 (a * 256) b (by omega) (by omega)]
    omega
  go_enter Tryz.func112, Tryz.ntmps112
  go_wp2_with fail
  go_ret
  exact ⟨rfl, rfl⟩

/-- The zero frame and the slot of a head's answer. -/
abbrev frZ : Value := .agg #[.int .i64 0, .int .i64 0, .int .i64 0, .string ⟨#[]⟩]
abbrev frO : Obj := .cells #[.int .i64 0, .int .i64 0, .int .i64 0, .string ⟨#[]⟩] 70

/-- A new block of a frame's four cells, still as it was in a later world. -/
theorem kept4 {w w1 : World} (hb : Below (w.heap.size + 1) (w.alloc frO) w1) :
    (w1.cell? ⟨w.heap.size, 0, none⟩ = some (.int .i64 0) ∧ w1.cell? ⟨w.heap.size, 1, none⟩ = some (.int .i64 0) ∧ w1.cell? ⟨w.heap.size, 2, none⟩ = some (.int .i64 0) ∧ w1.cell? ⟨w.heap.size, 3, none⟩ = some (.string ⟨#[]⟩)) ∧ (w1.frozen? ⟨w.heap.size, 0, none⟩ = false ∧ w1.frozen? ⟨w.heap.size, 1, none⟩ = false ∧ w1.frozen? ⟨w.heap.size, 2, none⟩ = false ∧ w1.frozen? ⟨w.heap.size, 3, none⟩ = false) ∧ w.heap.size < w1.heap.size ∧ Hid (Below w.heap.size w w1) := by
  refine ⟨⟨?_, ?_, ?_, ?_⟩, ⟨?_, ?_, ?_, ?_⟩, ?_, ?_⟩
  · rw [hb.cell (by simp)]; simp
  · rw [hb.cell (by simp)]; simp
  · rw [hb.cell (by simp)]; simp
  · rw [hb.cell (by simp)]; simp
  · rw [hb.frozen (by simp)]; simp
  · rw [hb.frozen (by simp)]; simp
  · rw [hb.frozen (by simp)]; simp
  · rw [hb.frozen (by simp)]; simp
  · have := hb.size; simp at this; omega
  · exact ((Below.refl _ _).alloc (Nat.le_refl _) _).trans (hb.mono (by omega))
theorem below_set4 {w w1 : World} {B b : Nat} (h : Below B w w1) (hp : B ≤ b) (x y z q : Value) : Below B w ((((w1.setCell ⟨b, 0, none⟩ x).setCell ⟨b, 1, none⟩ y).setCell ⟨b, 2, none⟩ z).setCell ⟨b, 3, none⟩ q) :=
  (((h.setCell (p := ⟨b, 0, none⟩) hp x).setCell (p := ⟨b, 1, none⟩) hp y).setCell (p := ⟨b, 2, none⟩) hp z).setCell (p := ⟨b, 3, none⟩) hp q
theorem Scn.at {B p g cap i : Nat} {l : List UInt8} {W : World} (h : Scn B p g cap l i W) (j : Nat) (hj : i + j < l.length) : W.cell? ⟨g, i + j, none⟩ = some (.int .u8 (Fr.at8 (l.drop i) j)) := by
  rw [h.2.2.2.2.2.2.2 (i + j) hj]
  unfold Fr.at8
  rw [List.getD_eq_getElem?_getD, List.getElem?_drop, List.getElem?_eq_getElem hj]
  rfl
/-- What a walk of the head knows once it has what is left. -/
theorem head_in {B p g cap i m : Nat} {l : List UInt8} {w : World} (h : Scn B p g cap l i w) : Below (w.heap.size + 1) (w.alloc frO) ((w.alloc frO).drewN m) ∧ Scn B p g cap l i ((w.alloc frO).drewN m) :=
  ⟨below_drewN (Below.refl _ _) m, h.below (below_drewN ((Below.refl _ _).alloc (Nat.le_refl _) _) m)⟩

set_option maxRecDepth 100000 in
set_option maxHeartbeats 1000000 in
theorem head_none (B p g cap i : Nat) (l : List UInt8) (w : World) (h : Scn B p g cap l i w) (h0 : l.drop i = [] ∨ Fr.at8 (l.drop i) 0 ≠ 126) :
    Calls Tryz.prog 111 #[.pointer (some ⟨p, 0, none⟩)] w fun e w' => e = .returned (.tuple #[.agg #[.int .i64 0, .int .i64 0, .int .i64 0, .string ⟨#[]⟩], .int .i64 0, errV ⟨#[97, 32, 102, 114, 97, 109, 101, 39, 115, 32, 102, 105, 114, 115, 116, 32, 98, 121, 116, 101]⟩ 4]) ∧ Below w.heap.size w w' := by
  have HS := Lib.hid h
  have hi : i ≤ l.length := h.2.2.2.2.1
  clear h
  go_enter Tryz.func111, Tryz.ntmps111
  go_wp2_with fail
  refine (rest_any _ _ _ _ _ _ _ (HS.out.below ((Below.refl _ _).alloc (Nat.le_refl _) _))).mono ?_
  rintro e w1 ⟨⟨o, c, rfl, hc, ho⟩, m, rfl⟩
  obtain ⟨hk, hS⟩ := head_in (m := m) HS.out
  obtain ⟨⟨c0, c1, c2, c3⟩, ⟨f0, f1, f2, f3⟩, hz, HB⟩ := kept4 hk
  clear hk HS
  have HS := Lib.hid hS
  clear hS
  generalize (w.alloc frO).drewN m = W at *
  by_cases hn : l.length - i = 0
  · go_wp2_with fail
    exact bodyPost_ret (v := .tuple #[.agg #[.int .i64 0, .int .i64 0, .int .i64 0, .string ⟨#[]⟩], .int .i64 0, errV ⟨#[97, 32, 102, 114, 97, 109, 101, 39, 115, 32, 102, 105, 114, 115, 116, 32, 98, 121, 116, 101]⟩ 4]) (by simp [results, Tryz.results111, go_sem, c0, c1, c2, c3]) rfl ⟨rfl, below_set4 HB.out (Nat.le_refl _) _ _ _ _⟩
  · obtain rfl := ho (by omega)
    have x0 := HS.out.at 0 (by omega)
    rw [Nat.add_zero] at x0
    have hb : (Fr.at8 (l.drop o) 0 != 126) = true := by
      rcases h0 with h0 | h0
      · have := congrArg List.length h0
        rw [List.length_drop] at this
        exact absurd this hn
      · simp [h0]
    have hr := Fr.at8_range (l.drop o) 0
    clear h0
    generalize Fr.at8 (l.drop o) 0 = b0 at *
    have hpos : 0 < l.length - o := by omega
    have hpos2 : (0 : Int) < ((l.length - o : Nat) : Int) := by omega
    generalize l.length - o = N at *
    go_wp2_with fail
    exact bodyPost_ret (v := .tuple #[.agg #[.int .i64 0, .int .i64 0, .int .i64 0, .string ⟨#[]⟩], .int .i64 0, errV ⟨#[97, 32, 102, 114, 97, 109, 101, 39, 115, 32, 102, 105, 114, 115, 116, 32, 98, 121, 116, 101]⟩ 4]) (by simp [results, Tryz.results111, go_sem, c0, c1, c2, c3]) rfl ⟨rfl, below_set4 HB.out (Nat.le_refl _) _ _ _ _⟩

set_option maxRecDepth 100000 in
set_option maxHeartbeats 1000000 in
theorem head_short (B p g cap i : Nat) (l : List UInt8) (w : World) (h : Scn B p g cap l i w) (h0 : Fr.at8 (l.drop i) 0 = 126) (hl : i < l.length) (hl6 : l.length - i < 6) :
    Calls Tryz.prog 111 #[.pointer (some ⟨p, 0, none⟩)] w fun e w' => e = .returned (.tuple #[.agg #[.int .i64 0, .int .i64 0, .int .i64 0, .string ⟨#[]⟩], .int .i64 0, errV ⟨#[97, 32, 102, 114, 97, 109, 101, 39, 115, 32, 104, 101, 97, 100]⟩ 6]) ∧ Below w.heap.size w w' := by
  have HS := Lib.hid h
  clear h
  go_enter Tryz.func111, Tryz.ntmps111
  go_wp2_with fail
  refine (rest_any _ _ _ _ _ _ _ (HS.out.below ((Below.refl _ _).alloc (Nat.le_refl _) _))).mono ?_
  rintro e w1 ⟨⟨o, c, rfl, hc, ho⟩, m, rfl⟩
  obtain ⟨hk, hS⟩ := head_in (m := m) HS.out
  obtain ⟨⟨c0, c1, c2, c3⟩, ⟨f0, f1, f2, f3⟩, hz, HB⟩ := kept4 hk
  clear hk HS
  have HS := Lib.hid hS
  clear hS
  generalize (w.alloc frO).drewN m = W at *
  obtain rfl := ho hl
  have x0 := HS.out.at 0 (by omega)
  rw [Nat.add_zero, h0] at x0
  have hpos : 0 < l.length - o := by omega
  have hpos2 : (0 : Int) < ((l.length - o : Nat) : Int) := by omega
  have hpos3 : ((l.length - o : Nat) : Int) < 6 := by omega
  have hpos4 : (((l.length - o : Nat) : Int) == 0) = false := by simp; omega
  clear h0 hl
  generalize l.length - o = N at *
  go_wp2_with fail
  exact bodyPost_ret (v := .tuple #[.agg #[.int .i64 0, .int .i64 0, .int .i64 0, .string ⟨#[]⟩], .int .i64 0, errV ⟨#[97, 32, 102, 114, 97, 109, 101, 39, 115, 32, 104, 101, 97, 100]⟩ 6]) (by simp [results, Tryz.results111, go_sem, c0, c1, c2, c3]) rfl ⟨rfl, below_set4 HB.out (Nat.le_refl _) _ _ _ _⟩
end Go.Proofs.YtdlojhncbgfjbaaGreatDoor
