/-
  Notices and lists of them as they lie in memory.
-/
import Derived.Test.YtjfeipgeppegcaaNtMem
namespace Go.Proofs.Ytjfeipgeppegcaa
open Go.RowKit Go.Deep

/-- A notice as it lies in a list: number, state, the list of its areas, whether it is a flush. -/
structure Ne where
  nu : Int
  st : Int
  pa : Option Addr
  an : Nat
  ak : Nat
  A : Nat → Int
  fl : Bool
/-- The value of a notice. -/
abbrev nnV (x : Ne) : Value := .agg #[.int .i64 x.nu, .int .i64 x.st, .slice x.pa x.an x.ak, .bool x.fl]
/-- The same notice with its list elsewhere. -/
def Ne.sameN (x y : Ne) : Prop := x.nu = y.nu ∧ x.st = y.st ∧ x.an = y.an ∧ x.A = y.A ∧ x.fl = y.fl
def NeCells (b o : Nat) (x : Ne) (w : World) : Prop := w.cell? ⟨b, o, none⟩ = some (.int .i64 x.nu) ∧ w.cell? ⟨b, o + 1, none⟩ = some (.int .i64 x.st) ∧ w.cell? ⟨b, o + 2, none⟩ = some (.slice x.pa x.an x.ak) ∧ w.cell? ⟨b, o + 3, none⟩ = some (.bool x.fl)
theorem NeCells.lt {b o : Nat} {x : Ne} {w : World} (h : NeCells b o x w) : b < w.heap.size := World.block_lt_of_cell? _ _ h.1
theorem NeCells.block {b o : Nat} {x : Ne} {w w' : World} (h : NeCells b o x w) (hb : w'.heap[b]? = w.heap[b]?) : NeCells b o x w' :=
  ⟨(World.cell?_of_block (a := ⟨b, o, none⟩) hb).trans h.1, (World.cell?_of_block (a := ⟨b, o + 1, none⟩) hb).trans h.2.1, (World.cell?_of_block (a := ⟨b, o + 2, none⟩) hb).trans h.2.2.1, (World.cell?_of_block (a := ⟨b, o + 3, none⟩) hb).trans h.2.2.2⟩
/-- The list of a notice. -/
def NeL (x : Ne) (w : World) : Prop := IsAt x.pa x.an x.A w
theorem NeL.below {x : Ne} {w w' : World} (h : NeL x w) (hb : Below w.heap.size w w') : NeL x w' := IsAt.below h hb
/-- A list of notices in memory. -/
def NnsAt (a : Option Addr) (m : Nat) (bs : Nat → Ne) (w : World) : Prop := m = 0 ∨ ∃ b, a = some ⟨b, 0, none⟩ ∧ ∀ i, i < m → NeCells b (i * 4) (bs i) w ∧ NeL (bs i) w
def NnsIn (a : Option Addr) (m : Nat) (bs : Nat → Ne) (w : World) : Prop := m = 0 ∨ ∃ b o, a = some ⟨b, o, none⟩ ∧ ∀ i, i < m → NeCells b (o + i * 4) (bs i) w ∧ IsIn (bs i).pa (bs i).an (bs i).A w ∧ (bs i).an ≤ 9223372036854775807
theorem NnsAt.below {a : Option Addr} {m : Nat} {bs : Nat → Ne} {w w' : World} (h : NnsAt a m bs w) (hb : Below w.heap.size w w') : NnsAt a m bs w' := by
  rcases h with h | ⟨b, e, h⟩
  · exact Or.inl h
  · exact Or.inr ⟨b, e, fun i hi => ⟨(h i hi).1.block (hb.block _ (h i hi).1.lt), (h i hi).2.below hb⟩⟩
theorem NnsIn.below {a : Option Addr} {m : Nat} {bs : Nat → Ne} {w w' : World} (h : NnsIn a m bs w) (hb : Below w.heap.size w w') : NnsIn a m bs w' := by
  rcases h with h | ⟨b, o, e, h⟩
  · exact Or.inl h
  · exact Or.inr ⟨b, o, e, fun i hi => ⟨(h i hi).1.block (hb.block _ (h i hi).1.lt), (h i hi).2.1.below hb, (h i hi).2.2⟩⟩
theorem NnsAt.all {a : Option Addr} {m : Nat} {bs : Nat → Ne} {w : World} (h : NnsAt a m bs w) (hm : 0 < m) : ∃ b, a = some ⟨b, 0, none⟩ ∧ ∀ i, i < m → NeCells b (i * 4) (bs i) w ∧ NeL (bs i) w := by
  rcases h with h | h
  · omega
  · exact h
theorem NnsAt.at_ {a : Option Addr} {m : Nat} {bs : Nat → Ne} {w : World} (h : NnsAt a m bs w) {i : Nat} (hi : i < m) : ∃ b, a = some ⟨b, 0, none⟩ ∧ NeCells b (i * 4) (bs i) w ∧ NeL (bs i) w := by
  obtain ⟨b, e, h⟩ := h.all (by omega)
  exact ⟨b, e, h i hi⟩
theorem NnsIn.at_ {a : Option Addr} {m : Nat} {bs : Nat → Ne} {w : World} (h : NnsIn a m bs w) {i : Nat} (hi : i < m) : ∃ b o, a = some ⟨b, o, none⟩ ∧ NeCells b (o + i * 4) (bs i) w ∧ IsIn (bs i).pa (bs i).an (bs i).A w ∧ (bs i).an ≤ 9223372036854775807 := by
  rcases h with h | ⟨b, o, e, h⟩
  · omega
  · exact ⟨b, o, e, h i hi⟩
/-- How many numbers the first notices have. -/
def cntN (bs : Nat → Ne) : Nat → Nat
  | 0 => 0
  | i + 1 => cntN bs i + (bs i).an
theorem cntN_le (bs : Nat → Ne) {m i : Nat} (h : i ≤ m) : cntN bs i ≤ cntN bs m := by
  induction m with
  | zero => have : i = 0 := by omega
            subst this; exact Nat.le_refl _
  | succ m ih =>
    by_cases e : i = m + 1
    · subst e; exact Nat.le_refl _
    · have := ih (by omega)
      simp only [cntN]; omega
theorem cntN_at (bs : Nat → Ne) {m i : Nat} (h : i < m) : (bs i).an ≤ cntN bs m := by
  have := cntN_le bs (show i + 1 ≤ m by omega)
  simp only [cntN] at this; omega
/-- All lists are small. -/
def NSm (m : Nat) (bs : Nat → Ne) : Prop := m ≤ 1048576 ∧ m + cntN bs m ≤ 1048576 ∧ ∀ i, i < m → (bs i).an ≤ 1048576
theorem nsm_of {m : Nat} {bs : Nat → Ne} (h : m + cntN bs m ≤ 1048576) : NSm m bs := ⟨by omega, h, fun i hi => by have := cntN_at bs hi; omega⟩
/-- A list of one's own. -/
structure NxM (lo hi g m : Nat) (gs : Nat → Nat) (bs : Nat → Ne) (W : World) : Prop where
  row : ∃ F, W.rowIs g 58 (m * 4) F ∧ ∀ i, i < m → F (i * 4) = .int .i64 (bs i).nu ∧ F (i * 4 + 1) = .int .i64 (bs i).st ∧ F (i * 4 + 2) = .slice (some ⟨gs i, 0, none⟩) (bs i).an (bs i).an ∧ F (i * 4 + 3) = .bool (bs i).fl
  blk : ∀ i, i < m → IsBlk 2 (gs i) (bs i).an (bs i).A W
  bd : lo ≤ g ∧ g < hi
  gbd : ∀ i, i < m → g < gs i ∧ gs i < hi
  up : ∀ i j, i < j → j < m → gs i < gs j
def ownN (gs : Nat → Nat) (bs : Nat → Ne) : Nat → Ne := fun i => ⟨(bs i).nu, (bs i).st, some ⟨gs i, 0, none⟩, (bs i).an, (bs i).an, (bs i).A, (bs i).fl⟩
theorem NxM.at_ {lo hi g m : Nat} {gs : Nat → Nat} {bs : Nat → Ne} {W : World} (h : NxM lo hi g m gs bs W) : NnsAt (some ⟨g, 0, none⟩) m (ownN gs bs) W := by
  refine Or.inr ⟨g, rfl, fun i hi => ?_⟩
  obtain ⟨F, h1, h2⟩ := h.row
  obtain ⟨e0, e1, e2, e3⟩ := h2 i hi
  exact ⟨⟨(h1.cell (i := i * 4) (by omega)).trans (by rw [e0]; rfl), (h1.cell (i := i * 4 + 1) (by omega)).trans (by rw [e1]; rfl), (h1.cell (i := i * 4 + 2) (by omega)).trans (by rw [e2]; rfl), (h1.cell (i := i * 4 + 3) (by omega)).trans (by rw [e3]; rfl)⟩, (h.blk i hi).at_⟩
theorem NxM.same {lo hi g m : Nat} {gs : Nat → Nat} {bs : Nat → Ne} {W W' : World} (h : NxM lo hi g m gs bs W) (hb : ∀ k, lo ≤ k → k < hi → k < W.heap.size → W'.heap[k]? = W.heap[k]?) : NxM lo hi g m gs bs W' := by
  refine ⟨?_, fun i hi => (h.blk i hi).block (hb _ (by have := h.bd; have := h.gbd i hi; omega) (by have := h.gbd i hi; omega) (h.blk i hi).lt), h.bd, h.gbd, h.up⟩
  obtain ⟨F, h1, h2⟩ := h.row
  exact ⟨F, h1.of_block (hb _ h.bd.1 h.bd.2 h1.lt), h2⟩
theorem NxM.below {lo hi g m : Nat} {gs : Nat → Nat} {bs : Nat → Ne} {W W' : World} (h : NxM lo hi g m gs bs W) (hb : Below W.heap.size W W') : NxM lo hi g m gs bs W' := h.same (fun k _ _ hl => hb.block k hl)
theorem NxM.lt {lo hi g m : Nat} {gs : Nat → Nat} {bs : Nat → Ne} {W : World} (h : NxM lo hi g m gs bs W) : g < W.heap.size := by obtain ⟨F, h1, _⟩ := h.row; exact h1.lt
theorem NxM.cells {lo hi g m : Nat} {gs : Nat → Nat} {bs : Nat → Ne} {W : World} (h : NxM lo hi g m gs bs W) : ∀ i, i < m → NeCells g (i * 4) (ownN gs bs i) W ∧ NeL (ownN gs bs i) W := by
  intro i hi
  obtain ⟨b, e, h1⟩ := h.at_.at_ hi
  have e1 : g = b := by simpa using e
  subst e1
  exact h1
end Go.Proofs.Ytjfeipgeppegcaa
