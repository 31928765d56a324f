/-
  Programs as they lie in memory: blocks of a kind, a name and two numbers; outs; nevers of two numbers.
-/
import Derived.Test.YtogfjomfhenhfaaGreatDoorPgMath
namespace Go.Proofs.YtogfjomfhenhfaaGreatDoor
open Go.RowKit Go.Deep

/-- The value of a block. -/
abbrev bkV (x : Pg.Bk) : Value := .agg #[.int .i64 x.kind, .string x.name, .int .i64 x.a, .int .i64 x.b]
/-- The cells of blocks, one by one. -/
def bkF (B : Nat → Pg.Bk) (j : Nat) : Value := match j % 4 with
  | 0 => .int .i64 (B (j / 4)).kind
  | 1 => .string (B (j / 4)).name
  | 2 => .int .i64 (B (j / 4)).a
  | _ => .int .i64 (B (j / 4)).b
theorem bkF0 (B : Nat → Pg.Bk) (i : Nat) : bkF B (i * 4) = .int .i64 (B i).kind := by
  have h1 : (i * 4) % 4 = 0 := by omega
  have h2 : (i * 4) / 4 = i := by omega
  simp [bkF, h2]
theorem bkF1 (B : Nat → Pg.Bk) (i : Nat) : bkF B (i * 4 + 1) = .string (B i).name := by
  have h1 : (i * 4 + 1) % 4 = 1 := by omega
  have h2 : (i * 4 + 1) / 4 = i := by omega
  simp [bkF, h1, h2]
theorem bkF2 (B : Nat → Pg.Bk) (i : Nat) : bkF B (i * 4 + 2) = .int .i64 (B i).a := by
  have h1 : (i * 4 + 2) % 4 = 2 := by omega
  have h2 : (i * 4 + 2) / 4 = i := by omega
  simp [bkF, h1, h2]
theorem bkF3 (B : Nat → Pg.Bk) (i : Nat) : bkF B (i * 4 + 3) = .int .i64 (B i).b := by
  have h1 : (i * 4 + 3) % 4 = 3 := by omega
  have h2 : (i * 4 + 3) / 4 = i := by omega
  simp [bkF, h1, h2]
/-- The cells of one block. -/
def BkC (b o : Nat) (x : Pg.Bk) (w : World) : Prop := w.cell? ⟨b, o, none⟩ = some (.int .i64 x.kind) ∧ w.cell? ⟨b, o + 1, none⟩ = some (.string x.name) ∧ w.cell? ⟨b, o + 2, none⟩ = some (.int .i64 x.a) ∧ w.cell? ⟨b, o + 3, none⟩ = some (.int .i64 x.b)
theorem BkC.lt {b o : Nat} {x : Pg.Bk} {w : World} (h : BkC b o x w) : b < w.heap.size := World.block_lt_of_cell? _ _ h.1
theorem BkC.block {b o : Nat} {x : Pg.Bk} {w w' : World} (h : BkC b o x w) (hb : w'.heap[b]? = w.heap[b]?) : BkC b o x w' :=
  ⟨(World.cell?_of_block (a := ⟨b, o, none⟩) hb).trans h.1, (World.cell?_of_block (a := ⟨b, o + 1, none⟩) hb).trans h.2.1, (World.cell?_of_block (a := ⟨b, o + 2, none⟩) hb).trans h.2.2.1, (World.cell?_of_block (a := ⟨b, o + 3, none⟩) hb).trans h.2.2.2⟩
theorem BkC.below {b o : Nat} {x : Pg.Bk} {w w' : World} (h : BkC b o x w) (hb : Below w.heap.size w w') : BkC b o x w' := h.block (hb.block _ h.lt)
/-- A list of blocks, from the beginning of a block of memory on; anywhere. -/
def BksAt (a : Option Addr) (n : Nat) (B : Nat → Pg.Bk) (w : World) : Prop := n = 0 ∨ ∃ b, a = some ⟨b, 0, none⟩ ∧ ∀ i, i < n → BkC b (i * 4) (B i) w
def BksIn (a : Option Addr) (n : Nat) (B : Nat → Pg.Bk) (w : World) : Prop := n = 0 ∨ ∃ b o, a = some ⟨b, o, none⟩ ∧ ∀ i, i < n → BkC b (o + i * 4) (B i) w
theorem BksAt.same {a : Option Addr} {n : Nat} {B : Nat → Pg.Bk} {w w' : World} (h : BksAt a n B w) (hb : ∀ b, a = some ⟨b, 0, none⟩ → b < w.heap.size → w'.heap[b]? = w.heap[b]?) : BksAt a n B w' := by
  rcases h with h | ⟨b, e, h⟩
  · exact Or.inl h
  · exact Or.inr ⟨b, e, fun i hi => (h i hi).block (hb b e (h i hi).lt)⟩
theorem BksAt.below {a : Option Addr} {n : Nat} {B : Nat → Pg.Bk} {w w' : World} (h : BksAt a n B w) (hb : Below w.heap.size w w') : BksAt a n B w' := h.same (fun b _ hl => hb.block b hl)
theorem BksIn.below {a : Option Addr} {n : Nat} {B : Nat → Pg.Bk} {w w' : World} (h : BksIn a n B w) (hb : Below w.heap.size w w') : BksIn a n B w' := by
  rcases h with h | ⟨b, o, e, h⟩
  · exact Or.inl h
  · exact Or.inr ⟨b, o, e, fun i hi => (h i hi).below hb⟩
theorem BksAt.pos {a : Option Addr} {n : Nat} {B : Nat → Pg.Bk} {w : World} (h : BksAt a n B w) (hn : 0 < n) : ∃ b, a = some ⟨b, 0, none⟩ ∧ ∀ i, i < n → BkC b (i * 4) (B i) w := by
  rcases h with h | h
  · omega
  · exact h
theorem BksAt.at_ {a : Option Addr} {n : Nat} {B : Nat → Pg.Bk} {w : World} (h : BksAt a n B w) {i : Nat} (hi : i < n) : ∃ b, a = some ⟨b, 0, none⟩ ∧ BkC b (i * 4) (B i) w := by
  obtain ⟨b, e, h⟩ := h.pos (by omega)
  exact ⟨b, e, h i hi⟩
theorem BksIn.at_ {a : Option Addr} {n : Nat} {B : Nat → Pg.Bk} {w : World} (h : BksIn a n B w) {i : Nat} (hi : i < n) : ∃ b o, a = some ⟨b, o, none⟩ ∧ BkC b (o + i * 4) (B i) w := by
  rcases h with h | ⟨b, o, e, h⟩
  · omega
  · exact ⟨b, o, e, h i hi⟩
/-- Cells of a block of memory of one's own. -/
def VsPart (T : TypeId) (g M N : Nat) (f : Nat → Value) (w : World) : Prop := ∃ F, w.rowIs g T M F ∧ ∀ j, j < N → F j = f j
theorem VsPart.block {T : TypeId} {g M N : Nat} {f : Nat → Value} {w w' : World} (h : VsPart T g M N f w) (e : w'.heap[g]? = w.heap[g]?) : VsPart T g M N f w' := by obtain ⟨F, h1, h2⟩ := h; exact ⟨F, h1.of_block e, h2⟩
theorem VsPart.lt {T : TypeId} {g M N : Nat} {f : Nat → Value} {w : World} (h : VsPart T g M N f w) : g < w.heap.size := by obtain ⟨F, h1, _⟩ := h; exact h1.lt
theorem VsPart.cell {T : TypeId} {g M N j : Nat} {f : Nat → Value} {w : World} (h : VsPart T g M N f w) (hj : j < M) : ∃ v, w.cell? ⟨g, j, none⟩ = some v := by obtain ⟨F, h1, _⟩ := h; exact ⟨_, h1.cell hj⟩
theorem VsPart.frozen {T : TypeId} {g M N : Nat} {f : Nat → Value} {w : World} (h : VsPart T g M N f w) (j : Nat) : w.frozen? ⟨g, j, none⟩ = false := by obtain ⟨F, h1, _⟩ := h; exact h1.frozen j
theorem VsPart.put {T : TypeId} {g M N : Nat} {f : Nat → Value} {w : World} (h : VsPart T g M N f w) (z : Value) (hz : z = f N) : VsPart T g M (N + 1) f (w.setCell ⟨g, N, none⟩ z) := by
  obtain ⟨F, h1, h2⟩ := h
  subst hz
  refine ⟨_, h1.set N _, fun j hj => ?_⟩
  by_cases e : j = N
  · subst e; simp
  · simp only [e, if_false]; exact h2 j (by omega)
def VsBlk (T : TypeId) (g N : Nat) (f : Nat → Value) (w : World) : Prop := ∃ m F, N ≤ m ∧ w.rowIs g T m F ∧ ∀ j, j < N → F j = f j
theorem VsPart.full {T : TypeId} {g M N : Nat} {f : Nat → Value} {w : World} (h : VsPart T g M N f w) (hN : N ≤ M) : VsBlk T g N f w := by obtain ⟨F, h1, h2⟩ := h; exact ⟨M, F, hN, h1, h2⟩
theorem VsBlk.lt {T : TypeId} {g N : Nat} {f : Nat → Value} {w : World} (h : VsBlk T g N f w) : g < w.heap.size := by obtain ⟨m, F, _, h, _⟩ := h; exact h.lt
theorem VsBlk.block {T : TypeId} {g N : Nat} {f : Nat → Value} {w w' : World} (h : VsBlk T g N f w) (e : w'.heap[g]? = w.heap[g]?) : VsBlk T g N f w' := by obtain ⟨m, F, h1, h2, h3⟩ := h; exact ⟨m, F, h1, h2.of_block e, h3⟩
theorem VsBlk.below {T : TypeId} {g N : Nat} {f : Nat → Value} {w w' : World} (h : VsBlk T g N f w) (hb : Below w.heap.size w w') : VsBlk T g N f w' := h.block (hb.block _ h.lt)
theorem VsBlk.cell {T : TypeId} {g N i : Nat} {f : Nat → Value} {w : World} (h : VsBlk T g N f w) (hi : i < N) : w.cell? ⟨g, i, none⟩ = some (f i) := by
  obtain ⟨m, F, h1, h2, h3⟩ := h
  rw [h2.cell (i := i) (by omega), h3 _ hi]
theorem VsBlk.frozen {T : TypeId} {g N : Nat} {f : Nat → Value} {w : World} (h : VsBlk T g N f w) (i : Nat) : w.frozen? ⟨g, i, none⟩ = false := by obtain ⟨m, F, _, h, _⟩ := h; exact h.frozen i
theorem VsBlk.bk {T : TypeId} {g n : Nat} {B : Nat → Pg.Bk} {w : World} (h : VsBlk T g (n * 4) (bkF B) w) {i : Nat} (hi : i < n) : BkC g (i * 4) (B i) w := by
  have c0 := h.cell (i := i * 4) (by omega)
  have c1 := h.cell (i := i * 4 + 1) (by omega)
  have c2 := h.cell (i := i * 4 + 2) (by omega)
  have c3 := h.cell (i := i * 4 + 3) (by omega)
  rw [bkF0] at c0
  rw [bkF1] at c1
  rw [bkF2] at c2
  rw [bkF3] at c3
  exact ⟨c0, c1, c2, c3⟩
theorem VsBlk.bks {T : TypeId} {g n : Nat} {B : Nat → Pg.Bk} {w : World} (h : VsBlk T g (n * 4) (bkF B) w) : BksAt (some ⟨g, 0, none⟩) n B w := Or.inr ⟨g, rfl, fun _ hi => h.bk hi⟩
/-- A program's value, and how it lies. -/
abbrev pgV (n : Pg.Prog) (la : Option Addr) (lk : Nat) (fa : Option Addr) (fk : Nat) (wa : Option Addr) (wk : Nat) : Value := .agg #[.slice la n.bn lk, .slice fa n.on fk, .slice wa n.nn wk]
abbrev pgL (n : Pg.Prog) (la : Option Addr) (lk : Nat) (fa : Option Addr) (fk : Nat) (wa : Option Addr) (wk : Nat) : List Value := [.slice la n.bn lk, .slice fa n.on fk, .slice wa n.nn wk]
structure PgAt (n : Pg.Prog) (la fa wa : Option Addr) (w : World) : Prop where
  l : BksAt la n.bn n.B w
  f : IsAt fa n.on n.O w
  w : IsAt wa (n.nn * 2) n.N w
theorem PgAt.below {n : Pg.Prog} {la fa wa : Option Addr} {w w' : World} (h : PgAt n la fa wa w) (hb : Below w.heap.size w w') : PgAt n la fa wa w' := ⟨h.l.below hb, h.f.below hb, h.w.below hb⟩
structure PgIn (n : Pg.Prog) (la fa wa : Option Addr) (w : World) : Prop where
  l : BksIn la n.bn n.B w
  f : IsIn fa n.on n.O w
  w : IsIn wa (n.nn * 2) n.N w
theorem PgIn.below {n : Pg.Prog} {la fa wa : Option Addr} {w w' : World} (h : PgIn n la fa wa w) (hb : Below w.heap.size w w') : PgIn n la fa wa w' := ⟨h.l.below hb, h.f.below hb, h.w.below hb⟩
/-- All lists and all names are small. -/
def PgNames (n : Nat) (B : Nat → Pg.Bk) : Prop := ∀ i, i < n → (B i).name.size ≤ 1048576
def PgSmall (n : Pg.Prog) : Prop := (n.bn ≤ 1048576 ∧ PgNames n.bn n.B) ∧ n.on ≤ 1048576 ∧ n.nn ≤ 1048576
/-- No list and no name is longer than one can be. -/
def PgLens (n : Pg.Prog) : Prop := (n.bn ≤ 9223372036854775807 ∧ ∀ i, i < n.bn → (n.B i).name.size ≤ 9223372036854775807) ∧ n.on ≤ 9223372036854775807 ∧ n.nn ≤ 9223372036854775807
/-- A program in three blocks of the call's own. -/
structure PgBlk (n : Pg.Prog) (B gl gf gw : Nat) (w : World) : Prop where
  l : VsBlk 84 gl (n.bn * 4) (bkF n.B) w
  f : IsBlk 2 gf n.on n.O w
  w : IsBlk 36 gw (n.nn * 2) n.N w
  lo : B ≤ gl ∧ B ≤ gf ∧ B ≤ gw
  ne : gl ≠ gf ∧ gl ≠ gw ∧ gf ≠ gw
theorem PgBlk.below {n : Pg.Prog} {B gl gf gw : Nat} {w w' : World} (h : PgBlk n B gl gf gw w) (hb : Below w.heap.size w w') : PgBlk n B gl gf gw w' := ⟨h.l.below hb, h.f.below hb, h.w.below hb, h.lo, h.ne⟩
theorem PgBlk.at_ {n : Pg.Prog} {B gl gf gw : Nat} {w : World} (h : PgBlk n B gl gf gw w) : PgAt n (some ⟨gl, 0, none⟩) (some ⟨gf, 0, none⟩) (some ⟨gw, 0, none⟩) w := ⟨h.l.bks, h.f.at_, h.w.at_⟩
end Go.Proofs.YtogfjomfhenhfaaGreatDoor
