/-
  The contract of the program's answer of no step.
-/
import Derived.Test.YtokbhkcpkilcmaaDoorSwI2
namespace Go.Proofs.YtokbhkcpkilcmaaDoor
open Go.RowKit Go.Deep

/-- The three lists of an answer: blocks of their own, no two the same. -/
def OutL (B : Nat) (n : Nat) (gl gf gt : Nat) (rs : Nat → Sw.Rc) (fl tk : Nat → Int) (W : World) : Prop := (B ≤ gl ∧ B ≤ gf ∧ B ≤ gt) ∧ (gl ≠ gf ∧ gl ≠ gt ∧ gf ≠ gt) ∧ RcBlk gl n rs W ∧ InBlk gf n fl W ∧ InBlk gt n tk W
theorem OutL.same {B n gl gf gt : Nat} {rs : Nat → Sw.Rc} {fl tk : Nat → Int} {W W' : World} (h : OutL B n gl gf gt rs fl tk W) (hb : ∀ k, B ≤ k → k < W.heap.size → W'.heap[k]? = W.heap[k]?) : OutL B n gl gf gt rs fl tk W' :=
  ⟨h.1, h.2.1, h.2.2.1.block (hb _ h.1.1 h.2.2.1.lt), h.2.2.2.1.block (hb _ h.1.2.1 h.2.2.2.1.lt), h.2.2.2.2.block (hb _ h.1.2.2 h.2.2.2.2.lt)⟩
theorem OutL.below {B n gl gf gt : Nat} {rs : Nat → Sw.Rc} {fl tk : Nat → Int} {W W' : World} (h : OutL B n gl gf gt rs fl tk W) (hb : Below W.heap.size W W') : OutL B n gl gf gt rs fl tk W' := h.same (fun k _ hk => hb.block k hk)
theorem OutL.lower {B B' n gl gf gt : Nat} {rs : Nat → Sw.Rc} {fl tk : Nat → Int} {W : World} (h : OutL B n gl gf gt rs fl tk W) (hb : B' ≤ B) : OutL B' n gl gf gt rs fl tk W := ⟨⟨Nat.le_trans hb h.1.1, Nat.le_trans hb h.1.2.1, Nat.le_trans hb h.1.2.2⟩, h.2⟩
/-- The slot of an answer. -/
abbrev roO : Obj := .cells #[.slice none 0 0, .slice none 0 0, .slice none 0 0, .int .i64 0, .int .i64 0] 27

/-- The cells of an answer. -/
def ro5 (a b c : Value) (d e : Int) (i : Nat) : Value := if i = 0 then a else if i = 1 then b else if i = 2 then c else if i = 3 then .int .i64 d else .int .i64 e
theorem ro5_row (a b c : Value) (d e : Int) (i : Nat) (hi : i < (#[a, b, c, .int .i64 d, .int .i64 e] : Array Value).size) : (#[a, b, c, .int .i64 d, .int .i64 e] : Array Value)[i]? = some (ro5 a b c d e i) := by
  have hv : i = 0 ∨ i = 1 ∨ i = 2 ∨ i = 3 ∨ i = 4 := by simp at hi; omega
  rcases hv with rfl | rfl | rfl | rfl | rfl <;> rfl
/-- The slot of an answer, as it was made, and the old memory. -/
def RoSlot (w W : World) : Prop := Below (w.heap.size + 1) (w.alloc roO) W
theorem RoSlot.start (w : World) : RoSlot w (w.alloc roO) := Below.refl _ _
theorem RoSlot.next {w W W' : World} (h : RoSlot w W) (hb : Below W.heap.size W W') : RoSlot w W' := Below.trans h (hb.mono (by have := Below.size h; simp at this; omega))
theorem RoSlot.alloc {w W : World} (h : RoSlot w W) (o : Obj) : RoSlot w (W.alloc o) := h.next ((Below.refl _ _).alloc (Nat.le_refl _) _)
theorem RoSlot.drew {w W : World} (h : RoSlot w W) : RoSlot w W.drew := Below.drew h
theorem RoSlot.lt {w W : World} (h : RoSlot w W) : w.heap.size < W.heap.size := by have := Below.size h; simp at this; omega
theorem RoSlot.row {w W : World} (h : RoSlot w W) : W.rowIs w.heap.size 27 5 (ro5 (.slice none 0 0) (.slice none 0 0) (.slice none 0 0) 0 0) := by
  have r1 := World.rowIs_alloc w #[.slice none 0 0, .slice none 0 0, .slice none 0 0, .int .i64 0, .int .i64 0] 27 _ (ro5_row (.slice none 0 0) (.slice none 0 0) (.slice none 0 0) 0 0)
  exact r1.of_block (Below.block h _ (by omega))
theorem RoSlot.old {w W : World} (h : RoSlot w W) : Below w.heap.size w W := ((Below.refl _ _).alloc (Nat.le_refl _) _).trans (Below.mono h (by omega))
theorem RoSlot.kept {w W : World} (h : RoSlot w W) :
    (W.cell? ⟨w.heap.size, 0, none⟩ = some (.slice none 0 0) ∧ W.cell? ⟨w.heap.size, 1, none⟩ = some (.slice none 0 0) ∧ W.cell? ⟨w.heap.size, 2, none⟩ = some (.slice none 0 0) ∧ W.cell? ⟨w.heap.size, 3, none⟩ = some (.int .i64 0) ∧ W.cell? ⟨w.heap.size, 4, none⟩ = some (.int .i64 0)) ∧ (W.frozen? ⟨w.heap.size, 0, none⟩ = false ∧ W.frozen? ⟨w.heap.size, 1, none⟩ = false ∧ W.frozen? ⟨w.heap.size, 2, none⟩ = false ∧ W.frozen? ⟨w.heap.size, 3, none⟩ = false ∧ W.frozen? ⟨w.heap.size, 4, none⟩ = false) :=
  ⟨⟨h.row.cell (i := 0) (by omega), h.row.cell (i := 1) (by omega), h.row.cell (i := 2) (by omega), h.row.cell (i := 3) (by omega), h.row.cell (i := 4) (by omega)⟩, ⟨h.row.frozen 0, h.row.frozen 1, h.row.frozen 2, h.row.frozen 3, h.row.frozen 4⟩⟩
/-- An answer laid in its slot. -/
abbrev putRo (p : Nat) (W : World) (a b c d e : Value) : World := ((((W.setCell ⟨p, 0, none⟩ a).setCell ⟨p, 1, none⟩ b).setCell ⟨p, 2, none⟩ c).setCell ⟨p, 3, none⟩ d).setCell ⟨p, 4, none⟩ e
theorem putRo_block (p : Nat) (W : World) (a b c d e : Value) (k : Nat) (hk : k ≠ p) : (putRo p W a b c d e).heap[k]? = W.heap[k]? := by
  unfold putRo
  rw [blk_setCell_other _ _ _ _ (by show k ≠ p; exact hk), blk_setCell_other _ _ _ _ (by show k ≠ p; exact hk), blk_setCell_other _ _ _ _ (by show k ≠ p; exact hk), blk_setCell_other _ _ _ _ (by show k ≠ p; exact hk), blk_setCell_other _ _ _ _ (by show k ≠ p; exact hk)]
theorem RoSlot.fin {w W : World} (h : RoSlot w W) (a b c d e : Value) :
    ((putRo w.heap.size W a b c d e).cell? ⟨w.heap.size, 0, none⟩ = some a ∧ (putRo w.heap.size W a b c d e).cell? ⟨w.heap.size, 1, none⟩ = some b ∧ (putRo w.heap.size W a b c d e).cell? ⟨w.heap.size, 2, none⟩ = some c ∧ (putRo w.heap.size W a b c d e).cell? ⟨w.heap.size, 3, none⟩ = some d ∧ (putRo w.heap.size W a b c d e).cell? ⟨w.heap.size, 4, none⟩ = some e) ∧ Below w.heap.size w (putRo w.heap.size W a b c d e) := by
  have r := ((((h.row.set 0 a).set 1 b).set 2 c).set 3 d).set 4 e
  have hb := h.old
  refine ⟨⟨?_, ?_, ?_, ?_, ?_⟩, ?_⟩
  · have := r.cell (i := 0) (by omega); simpa using this
  · have := r.cell (i := 1) (by omega); simpa using this
  · have := r.cell (i := 2) (by omega); simpa using this
  · have := r.cell (i := 3) (by omega); simpa using this
  · have := r.cell (i := 4) (by omega); simpa using this
  · exact ((((hb.setCell (p := ⟨w.heap.size, 0, none⟩) (Nat.le_refl _) a).setCell (p := ⟨w.heap.size, 1, none⟩) (Nat.le_refl _) b).setCell (p := ⟨w.heap.size, 2, none⟩) (Nat.le_refl _) c).setCell (p := ⟨w.heap.size, 3, none⟩) (Nat.le_refl _) d).setCell (p := ⟨w.heap.size, 4, none⟩) (Nat.le_refl _) e
theorem OutL.put {w W : World} {n gl gf gt : Nat} {rs : Nat → Sw.Rc} {fl tk : Nat → Int} (h : OutL (w.heap.size + 1) n gl gf gt rs fl tk W) (a b c d e : Value) : OutL (w.heap.size + 1) n gl gf gt rs fl tk (putRo w.heap.size W a b c d e) :=
  h.same (fun k hk _ => putRo_block _ _ _ _ _ _ _ k (by omega))
theorem OutL.swap {B n gl gf gt : Nat} {rs : Nat → Sw.Rc} {f : Nat → Int} {W : World} (h : OutL B n gl gf gt rs f f W) : OutL B n gl gt gf rs f f W :=
  ⟨⟨h.1.1, h.1.2.2, h.1.2.1⟩, ⟨h.2.1.2.1, h.2.1.1, h.2.1.2.2.symm⟩, h.2.2.1, h.2.2.2.2, h.2.2.2.1⟩

/-- The copy made first, between, last. -/
theorem still_1 {w w1 : World} {g n : Nat} {rs : Nat → Sw.Rc} (hg : w.heap.size + 1 ≤ g) (hz : w.heap.size < w1.heap.size) (hk : RcBlk g n rs w1) : OutL (w.heap.size + 1) n g w1.heap.size (w1.heap.size + 1) rs (fun _ => 0) (fun _ => 0) ((w1.alloc (mkO n)).alloc (mkO n)) := by
  have hl := hk.lt
  refine ⟨⟨hg, by omega, by omega⟩, ⟨by omega, by omega, by omega⟩, (hk.alloc _).alloc _, (made_blk w1 n).alloc _, ?_⟩
  have := made_blk (w1.alloc (mkO n)) n
  rw [World.size_alloc] at this
  exact this
theorem still_2 {w w1 : World} {g n : Nat} {rs : Nat → Sw.Rc} (hg : w.heap.size + 2 ≤ g) (hk : RcBlk g n rs w1) (hb : Below ((w.alloc roO).alloc (mkO n)).heap.size ((w.alloc roO).alloc (mkO n)) w1) : OutL (w.heap.size + 1) n g (w.heap.size + 1) w1.heap.size rs (fun _ => 0) (fun _ => 0) (w1.alloc (mkO n)) := by
  have hl := hk.lt
  have hz := hb.size
  simp at hz
  refine ⟨⟨by omega, by omega, by omega⟩, ⟨by omega, by omega, by omega⟩, hk.alloc _, ?_, made_blk w1 n⟩
  have := made_blk (w.alloc roO) n
  rw [World.size_alloc] at this
  exact (this.block (hb.block _ (by simp))).alloc _
theorem still_3 {w w1 : World} {g n : Nat} {rs : Nat → Sw.Rc} (hg : w.heap.size + 3 ≤ g) (hk : RcBlk g n rs w1) (hb : Below (((w.alloc roO).alloc (mkO n)).alloc (mkO n)).heap.size (((w.alloc roO).alloc (mkO n)).alloc (mkO n)) w1) : OutL (w.heap.size + 1) n g (w.heap.size + 1) (w.heap.size + 2) rs (fun _ => 0) (fun _ => 0) w1 := by
  have h1 := made_blk (w.alloc roO) n
  have h2 := made_blk ((w.alloc roO).alloc (mkO n)) n
  simp only [World.size_alloc] at h1 h2
  refine ⟨⟨by omega, by omega, by omega⟩, ⟨by omega, by omega, by omega⟩, hk, (h1.alloc _).block (hb.block _ (by simp)), h2.block (hb.block _ (by simp))⟩

/-- What stands at the end: the answer in its slot, its lists, the old memory. -/
def StillEnd (w : World) (n : Nat) (rs : Nat → Sw.Rc) (gl gf gt c : Nat) (F : World) : Prop :=
  (F.cell? ⟨w.heap.size, 0, none⟩ = some (.slice (some ⟨gl, 0, none⟩) n c) ∧ F.cell? ⟨w.heap.size, 1, none⟩ = some (.slice (some ⟨gf, 0, none⟩) n n) ∧ F.cell? ⟨w.heap.size, 2, none⟩ = some (.slice (some ⟨gt, 0, none⟩) n n) ∧ F.cell? ⟨w.heap.size, 3, none⟩ = some (.int .i64 0) ∧ F.cell? ⟨w.heap.size, 4, none⟩ = some (.int .i64 0)) ∧ OutL w.heap.size n gl gf gt rs (fun _ => 0) (fun _ => 0) F ∧ Below w.heap.size w F
theorem StillEnd.alloc {w : World} {n : Nat} {rs : Nat → Sw.Rc} {gl gf gt c : Nat} {W W' : World} (h1 : (W.cell? ⟨w.heap.size, 0, none⟩ = some (.slice (some ⟨gl, 0, none⟩) n c) ∧ W.cell? ⟨w.heap.size, 1, none⟩ = some (.slice (some ⟨gf, 0, none⟩) n n) ∧ W.cell? ⟨w.heap.size, 2, none⟩ = some (.slice (some ⟨gt, 0, none⟩) n n) ∧ W.cell? ⟨w.heap.size, 3, none⟩ = some (.int .i64 0) ∧ W.cell? ⟨w.heap.size, 4, none⟩ = some (.int .i64 0)) ∧ Below w.heap.size w W) (hb : Below W.heap.size W W') (hl : OutL (w.heap.size + 1) n gl gf gt rs (fun _ => 0) (fun _ => 0) W') : StillEnd w n rs gl gf gt c W' := by
  obtain ⟨⟨c0, c1, c2, c3, c4⟩, hw⟩ := h1
  have hz : w.heap.size < W.heap.size := World.block_lt_of_cell? _ _ c0
  exact ⟨⟨(hb.cell (p := ⟨w.heap.size, 0, none⟩) hz).trans c0, (hb.cell (p := ⟨w.heap.size, 1, none⟩) hz).trans c1, (hb.cell (p := ⟨w.heap.size, 2, none⟩) hz).trans c2, (hb.cell (p := ⟨w.heap.size, 3, none⟩) hz).trans c3, (hb.cell (p := ⟨w.heap.size, 4, none⟩) hz).trans c4⟩, hl.lower (by omega), hw.trans (hb.mono (by omega))⟩
theorem put_rc {w W : World} {g n : Nat} {rs : Nat → Sw.Rc} (h : RcBlk g n rs W) (hg : w.heap.size + 1 ≤ g) (a b c d e : Value) : RcBlk g n rs (putRo w.heap.size W a b c d e) := h.block (putRo_block _ _ _ _ _ _ _ g (by omega))
theorem put_size (p : Nat) (W : World) (a b c d e : Value) : (putRo p W a b c d e).heap.size = W.heap.size := by unfold putRo; simp
theorem still_e1 {w w1 : World} {g n : Nat} {rs : Nat → Sw.Rc} (hs : RoSlot w w1) (hg : w.heap.size + 1 ≤ g) (hk : RcBlk g n rs w1) (c : Nat) :
    StillEnd w n rs g w1.heap.size (w1.heap.size + 1) c (((putRo w.heap.size w1 (.slice (some ⟨g, 0, none⟩) n c) (.slice (some ⟨w1.heap.size, 0, none⟩) n n) (.slice (some ⟨w1.heap.size + 1, 0, none⟩) n n) (.int .i64 0) (.int .i64 0)).alloc (mkO n)).alloc (mkO n)) ∧
    StillEnd w n rs g (w1.heap.size + 1) w1.heap.size c (((putRo w.heap.size w1 (.slice (some ⟨g, 0, none⟩) n c) (.slice (some ⟨w1.heap.size + 1, 0, none⟩) n n) (.slice (some ⟨w1.heap.size, 0, none⟩) n n) (.int .i64 0) (.int .i64 0)).alloc (mkO n)).alloc (mkO n)) := by
  refine ⟨StillEnd.alloc (hs.fin _ _ _ _ _) (((Below.refl _ _).alloc (Nat.le_refl _) _).alloc (by simp) _) ?_, StillEnd.alloc (hs.fin _ _ _ _ _) (((Below.refl _ _).alloc (Nat.le_refl _) _).alloc (by simp) _) ?_⟩
  · have := still_1 hg (by rw [put_size]; exact hs.lt) (put_rc hk hg (.slice (some ⟨g, 0, none⟩) n c) (.slice (some ⟨w1.heap.size, 0, none⟩) n n) (.slice (some ⟨w1.heap.size + 1, 0, none⟩) n n) (.int .i64 0) (.int .i64 0))
    rw [put_size] at this; exact this
  · have := still_1 hg (by rw [put_size]; exact hs.lt) (put_rc hk hg (.slice (some ⟨g, 0, none⟩) n c) (.slice (some ⟨w1.heap.size + 1, 0, none⟩) n n) (.slice (some ⟨w1.heap.size, 0, none⟩) n n) (.int .i64 0) (.int .i64 0))
    rw [put_size] at this; exact this.swap
theorem still_e2 {w w1 : World} {g n : Nat} {rs : Nat → Sw.Rc} (hs : RoSlot w w1) (hg : w.heap.size + 2 ≤ g) (hk : RcBlk g n rs w1) (hb : Below ((w.alloc roO).alloc (mkO n)).heap.size ((w.alloc roO).alloc (mkO n)) w1) (c : Nat) :
    StillEnd w n rs g (w.heap.size + 1) w1.heap.size c ((putRo w.heap.size w1 (.slice (some ⟨g, 0, none⟩) n c) (.slice (some ⟨w.heap.size + 1, 0, none⟩) n n) (.slice (some ⟨w1.heap.size, 0, none⟩) n n) (.int .i64 0) (.int .i64 0)).alloc (mkO n)) ∧
    StillEnd w n rs g w1.heap.size (w.heap.size + 1) c ((putRo w.heap.size w1 (.slice (some ⟨g, 0, none⟩) n c) (.slice (some ⟨w1.heap.size, 0, none⟩) n n) (.slice (some ⟨w.heap.size + 1, 0, none⟩) n n) (.int .i64 0) (.int .i64 0)).alloc (mkO n)) := by
  have h2 := still_2 hg hk hb
  have e : ∀ a b c d e k, w.heap.size + 1 ≤ k → k < (w1.alloc (mkO n)).heap.size → ((putRo w.heap.size w1 a b c d e).alloc (mkO n)).heap[k]? = (w1.alloc (mkO n)).heap[k]? := fun a b c d e k h1 h2 => by
    rw [World.size_alloc] at h2
    by_cases hk : k < w1.heap.size
    · rw [blk_alloc_lt _ _ _ (by rw [put_size]; exact hk), blk_alloc_lt _ _ _ hk]
      exact putRo_block _ _ _ _ _ _ _ k (by omega)
    · obtain rfl : k = w1.heap.size := by omega
      have := blk_alloc_new (putRo w.heap.size w1 a b c d e) (mkO n)
      rw [put_size] at this
      rw [this, blk_alloc_new]
  exact ⟨StillEnd.alloc (hs.fin _ _ _ _ _) ((Below.refl _ _).alloc (Nat.le_refl _) _) (h2.same (e _ _ _ _ _)), StillEnd.alloc (hs.fin _ _ _ _ _) ((Below.refl _ _).alloc (Nat.le_refl _) _) (h2.swap.same (e _ _ _ _ _))⟩
theorem still_e3 {w w1 : World} {g n : Nat} {rs : Nat → Sw.Rc} (hs : RoSlot w w1) (hg : w.heap.size + 3 ≤ g) (hk : RcBlk g n rs w1) (hb : Below (((w.alloc roO).alloc (mkO n)).alloc (mkO n)).heap.size (((w.alloc roO).alloc (mkO n)).alloc (mkO n)) w1) (c : Nat) :
    StillEnd w n rs g (w.heap.size + 1) (w.heap.size + 1 + 1) c (putRo w.heap.size w1 (.slice (some ⟨g, 0, none⟩) n c) (.slice (some ⟨w.heap.size + 1, 0, none⟩) n n) (.slice (some ⟨w.heap.size + 1 + 1, 0, none⟩) n n) (.int .i64 0) (.int .i64 0)) ∧
    StillEnd w n rs g (w.heap.size + 1 + 1) (w.heap.size + 1) c (putRo w.heap.size w1 (.slice (some ⟨g, 0, none⟩) n c) (.slice (some ⟨w.heap.size + 1 + 1, 0, none⟩) n n) (.slice (some ⟨w.heap.size + 1, 0, none⟩) n n) (.int .i64 0) (.int .i64 0)) :=
  ⟨StillEnd.alloc (hs.fin _ _ _ _ _) (Below.refl _ _) ((still_3 hg hk hb).put _ _ _ _ _), StillEnd.alloc (hs.fin _ _ _ _ _) (Below.refl _ _) ((still_3 hg hk hb).swap.put _ _ _ _ _)⟩

end Go.Proofs.YtokbhkcpkilcmaaDoor
