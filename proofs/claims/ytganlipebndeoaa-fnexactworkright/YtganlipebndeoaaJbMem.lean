/-
  Jobs and lists of them as they lie in memory.
-/
import Derived.Test.YtganlipebndeoaaNtMem
namespace Go.Proofs.Ytganlipebndeoaa
open Go.RowKit Go.Deep

/-- A job as it lies in a list: days, crew, the list of what it comes after, the list of its rows. -/
structure Je where
  dy : Int
  cw : Int
  pa : Option Addr
  an : Nat
  ak : Nat
  A : Nat → Int
  pr : Option Addr
  rn : Nat
  rk : Nat
  R : Nat → Int
/-- The value of a job. -/
abbrev jbV (x : Je) : Value := .agg #[.int .i64 x.dy, .int .i64 x.cw, .slice x.pa x.an x.ak, .slice x.pr x.rn x.rk]
/-- The same job with its lists elsewhere. -/
def Je.sameJ (x y : Je) : Prop := x.dy = y.dy ∧ x.cw = y.cw ∧ x.an = y.an ∧ x.A = y.A ∧ x.rn = y.rn ∧ x.R = y.R
def JeCells (b o : Nat) (x : Je) (w : World) : Prop := w.cell? ⟨b, o, none⟩ = some (.int .i64 x.dy) ∧ w.cell? ⟨b, o + 1, none⟩ = some (.int .i64 x.cw) ∧ w.cell? ⟨b, o + 2, none⟩ = some (.slice x.pa x.an x.ak) ∧ w.cell? ⟨b, o + 3, none⟩ = some (.slice x.pr x.rn x.rk)
theorem JeCells.lt {b o : Nat} {x : Je} {w : World} (h : JeCells b o x w) : b < w.heap.size := World.block_lt_of_cell? _ _ h.1
theorem JeCells.block {b o : Nat} {x : Je} {w w' : World} (h : JeCells b o x w) (hb : w'.heap[b]? = w.heap[b]?) : JeCells b o x w' :=
  ⟨(World.cell?_of_block (a := ⟨b, o, none⟩) hb).trans h.1, (World.cell?_of_block (a := ⟨b, o + 1, none⟩) hb).trans h.2.1, (World.cell?_of_block (a := ⟨b, o + 2, none⟩) hb).trans h.2.2.1, (World.cell?_of_block (a := ⟨b, o + 3, none⟩) hb).trans h.2.2.2⟩
/-- The lists of a job. -/
def JeL (x : Je) (w : World) : Prop := IsAt x.pa x.an x.A w ∧ IsAt x.pr x.rn x.R w
theorem JeL.below {x : Je} {w w' : World} (h : JeL x w) (hb : Below w.heap.size w w') : JeL x w' := ⟨h.1.below hb, h.2.below hb⟩
/-- A list of jobs in memory. -/
def JbsAt (a : Option Addr) (m : Nat) (bs : Nat → Je) (w : World) : Prop := m = 0 ∨ ∃ b, a = some ⟨b, 0, none⟩ ∧ ∀ i, i < m → JeCells b (i * 4) (bs i) w ∧ JeL (bs i) w
def JbsIn (a : Option Addr) (m : Nat) (bs : Nat → Je) (w : World) : Prop := m = 0 ∨ ∃ b o, a = some ⟨b, o, none⟩ ∧ ∀ i, i < m → JeCells b (o + i * 4) (bs i) w ∧ (IsIn (bs i).pa (bs i).an (bs i).A w ∧ IsIn (bs i).pr (bs i).rn (bs i).R w) ∧ (bs i).an ≤ 9223372036854775807 ∧ (bs i).rn ≤ 9223372036854775807
theorem JbsAt.below {a : Option Addr} {m : Nat} {bs : Nat → Je} {w w' : World} (h : JbsAt a m bs w) (hb : Below w.heap.size w w') : JbsAt a m bs w' := by
  rcases h with h | ⟨b, e, h⟩
  · exact Or.inl h
  · exact Or.inr ⟨b, e, fun i hi => ⟨(h i hi).1.block (hb.block _ (h i hi).1.lt), (h i hi).2.below hb⟩⟩
theorem JbsIn.below {a : Option Addr} {m : Nat} {bs : Nat → Je} {w w' : World} (h : JbsIn a m bs w) (hb : Below w.heap.size w w') : JbsIn a m bs w' := by
  rcases h with h | ⟨b, o, e, h⟩
  · exact Or.inl h
  · exact Or.inr ⟨b, o, e, fun i hi => ⟨(h i hi).1.block (hb.block _ (h i hi).1.lt), ⟨(h i hi).2.1.1.below hb, (h i hi).2.1.2.below hb⟩, (h i hi).2.2⟩⟩
theorem JbsAt.all {a : Option Addr} {m : Nat} {bs : Nat → Je} {w : World} (h : JbsAt a m bs w) (hm : 0 < m) : ∃ b, a = some ⟨b, 0, none⟩ ∧ ∀ i, i < m → JeCells b (i * 4) (bs i) w ∧ JeL (bs i) w := by
  rcases h with h | h
  · omega
  · exact h
theorem JbsAt.at_ {a : Option Addr} {m : Nat} {bs : Nat → Je} {w : World} (h : JbsAt a m bs w) {i : Nat} (hi : i < m) : ∃ b, a = some ⟨b, 0, none⟩ ∧ JeCells b (i * 4) (bs i) w ∧ JeL (bs i) w := by
  obtain ⟨b, e, h⟩ := h.all (by omega)
  exact ⟨b, e, h i hi⟩
theorem JbsAt.mem {a : Option Addr} {m : Nat} {bs : Nat → Je} {w : World} (h : JbsAt a m bs w) {i : Nat} (hi : i < m) : JeL (bs i) w := by
  obtain ⟨b, e, _, h⟩ := h.at_ hi
  exact h
theorem JbsIn.at_ {a : Option Addr} {m : Nat} {bs : Nat → Je} {w : World} (h : JbsIn a m bs w) {i : Nat} (hi : i < m) : ∃ b o, a = some ⟨b, o, none⟩ ∧ JeCells b (o + i * 4) (bs i) w ∧ (IsIn (bs i).pa (bs i).an (bs i).A w ∧ IsIn (bs i).pr (bs i).rn (bs i).R w) ∧ (bs i).an ≤ 9223372036854775807 ∧ (bs i).rn ≤ 9223372036854775807 := by
  rcases h with h | ⟨b, o, e, h⟩
  · omega
  · exact ⟨b, o, e, h i hi⟩
/-- How many numbers the first jobs have. -/
def cntJ (bs : Nat → Je) : Nat → Nat
  | 0 => 0
  | i + 1 => cntJ bs i + ((bs i).an + (bs i).rn)
theorem cntJ_le (bs : Nat → Je) {m i : Nat} (h : i ≤ m) : cntJ bs i ≤ cntJ bs m := by
  induction m with
  | zero => have : i = 0 := by omega
            subst this; exact Nat.le_refl _
  | succ m ih =>
    by_cases e : i = m + 1
    · subst e; exact Nat.le_refl _
    · have := ih (by omega)
      simp only [cntJ]; omega
theorem cntJ_at (bs : Nat → Je) {m i : Nat} (h : i < m) : (bs i).an + (bs i).rn ≤ cntJ bs m := by
  have := cntJ_le bs (show i + 1 ≤ m by omega)
  simp only [cntJ] at this; omega
/-- All lists are small. -/
def JSm (m : Nat) (bs : Nat → Je) : Prop := ∀ i, i < m → (bs i).an ≤ 1048576 ∧ (bs i).rn ≤ 1048576
/-- A list of one's own. -/
structure JxM (lo hi g m : Nat) (gs hs : Nat → Nat) (bs : Nat → Je) (W : World) : Prop where
  row : ∃ F, W.rowIs g 44 (m * 4) F ∧ ∀ i, i < m → F (i * 4) = .int .i64 (bs i).dy ∧ F (i * 4 + 1) = .int .i64 (bs i).cw ∧ F (i * 4 + 2) = .slice (some ⟨gs i, 0, none⟩) (bs i).an (bs i).an ∧ F (i * 4 + 3) = .slice (some ⟨hs i, 0, none⟩) (bs i).rn (bs i).rn
  blk : ∀ i, i < m → IsBlk 2 (gs i) (bs i).an (bs i).A W ∧ IsBlk 2 (hs i) (bs i).rn (bs i).R W
  bd : lo ≤ g ∧ g < hi
  gbd : ∀ i, i < m → g < gs i ∧ gs i < hs i ∧ hs i < hi
  up : ∀ i j, i < j → j < m → hs i < gs j
def ownJ (gs hs : Nat → Nat) (bs : Nat → Je) : Nat → Je := fun i => ⟨(bs i).dy, (bs i).cw, some ⟨gs i, 0, none⟩, (bs i).an, (bs i).an, (bs i).A, some ⟨hs i, 0, none⟩, (bs i).rn, (bs i).rn, (bs i).R⟩
theorem JxM.at_ {lo hi g m : Nat} {gs hs : Nat → Nat} {bs : Nat → Je} {W : World} (h : JxM lo hi g m gs hs bs W) : JbsAt (some ⟨g, 0, none⟩) m (ownJ gs hs bs) W := by
  refine Or.inr ⟨g, rfl, fun i hi => ?_⟩
  obtain ⟨F, h1, h2⟩ := h.row
  obtain ⟨e0, e1, e2, e3⟩ := h2 i hi
  exact ⟨⟨(h1.cell (i := i * 4) (by omega)).trans (by rw [e0]; rfl), (h1.cell (i := i * 4 + 1) (by omega)).trans (by rw [e1]; rfl), (h1.cell (i := i * 4 + 2) (by omega)).trans (by rw [e2]; rfl), (h1.cell (i := i * 4 + 3) (by omega)).trans (by rw [e3]; rfl)⟩, (h.blk i hi).1.at_, (h.blk i hi).2.at_⟩
theorem JxM.same {lo hi g m : Nat} {gs hs : Nat → Nat} {bs : Nat → Je} {W W' : World} (h : JxM lo hi g m gs hs bs W) (hb : ∀ k, lo ≤ k → k < hi → k < W.heap.size → W'.heap[k]? = W.heap[k]?) : JxM lo hi g m gs hs bs W' := by
  refine ⟨?_, fun i hi => ⟨(h.blk i hi).1.block (hb _ (by have := h.bd; have := h.gbd i hi; omega) (by have := h.gbd i hi; omega) (h.blk i hi).1.lt), (h.blk i hi).2.block (hb _ (by have := h.bd; have := h.gbd i hi; omega) (by have := h.gbd i hi; omega) (h.blk i hi).2.lt)⟩, h.bd, h.gbd, h.up⟩
  obtain ⟨F, h1, h2⟩ := h.row
  exact ⟨F, h1.of_block (hb _ h.bd.1 h.bd.2 h1.lt), h2⟩
theorem JxM.below {lo hi g m : Nat} {gs hs : Nat → Nat} {bs : Nat → Je} {W W' : World} (h : JxM lo hi g m gs hs bs W) (hb : Below W.heap.size W W') : JxM lo hi g m gs hs bs W' := h.same (fun k _ _ hl => hb.block k hl)
theorem JxM.lt {lo hi g m : Nat} {gs hs : Nat → Nat} {bs : Nat → Je} {W : World} (h : JxM lo hi g m gs hs bs W) : g < W.heap.size := by obtain ⟨F, h1, _⟩ := h.row; exact h1.lt
end Go.Proofs.Ytganlipebndeoaa
