/-
  What a program keeps between two cycles, as it lies in memory; lists that an answer owns.
-/
import Derived.Test.YtogfjomfhenhfaaGreatDoorNtMem
import Derived.Test.YtogfjomfhenhfaaGreatDoorMnMem
import Derived.Test.YtogfjomfhenhfaaGreatDoorCyMath
namespace Go.Proofs.YtogfjomfhenhfaaGreatDoor
open Go.RowKit Go.Deep

/-- The value of a Logic; of an answer. -/
abbrev lgV (s : Cy.Lg) (a : Option Addr) (k : Nat) (b : Option Addr) (l : Nat) : Value := .agg #[.slice a s.n k, .slice b s.m l, .bool s.fl]
abbrev lgL (s : Cy.Lg) (a : Option Addr) (k : Nat) (b : Option Addr) (l : Nat) : List Value := [.slice a s.n k, .slice b s.m l, .bool s.fl]
abbrev lgA (s : Cy.Lg) (a : Option Addr) (k : Nat) (b : Option Addr) (l : Nat) : Array Value := #[.slice a s.n k, .slice b s.m l, .bool s.fl]
abbrev coV (x : Cy.Ans) (a : Option Addr) (k : Nat) (b : Option Addr) (l : Nat) (c : Option Addr) (m : Nat) : Value := .agg #[.slice a x.s.n k, .slice b x.s.m l, .bool x.s.fl, .slice c x.n m, .int .i64 x.cd]
abbrev coL (x : Cy.Ans) (a : Option Addr) (k : Nat) (b : Option Addr) (l : Nat) (c : Option Addr) (m : Nat) : List Value := [.slice a x.s.n k, .slice b x.s.m l, .bool x.s.fl, .slice c x.n m, .int .i64 x.cd]
abbrev coA (x : Cy.Ans) (a : Option Addr) (k : Nat) (b : Option Addr) (l : Nat) (c : Option Addr) (m : Nat) : Array Value := #[.slice a x.s.n k, .slice b x.s.m l, .bool x.s.fl, .slice c x.n m, .int .i64 x.cd]
structure LgIn (s : Cy.Lg) (a b : Option Addr) (w : World) : Prop where
  t : IsIn a s.n s.T w
  c : IsIn b s.m s.C w
theorem LgIn.below {s : Cy.Lg} {a b : Option Addr} {w w' : World} (h : LgIn s a b w) (hb : Below w.heap.size w w') : LgIn s a b w' := ⟨h.t.below hb, h.c.below hb⟩
structure LgAt (s : Cy.Lg) (a b : Option Addr) (w : World) : Prop where
  t : IsAt a s.n s.T w
  c : IsAt b s.m s.C w
theorem LgAt.below {s : Cy.Lg} {a b : Option Addr} {w w' : World} (h : LgAt s a b w) (hb : Below w.heap.size w w') : LgAt s a b w' := ⟨h.t.below hb, h.c.below hb⟩
def LgSmall (s : Cy.Lg) : Prop := s.n ≤ 1048576 ∧ s.m ≤ 1048576
theorem start_small (p : Pg.Prog) : LgSmall (Cy.start p) := by
  by_cases h : Pg.Right p
  · rw [Cy.start_yes h]; have := h.n; exact ⟨by show p.bn ≤ _; omega, by show p.bn ≤ _; omega⟩
  · rw [Cy.start_no h]; exact ⟨Nat.zero_le _, Nat.zero_le _⟩
def LgLens (s : Cy.Lg) : Prop := s.n ≤ 9223372036854775807 ∧ s.m ≤ 9223372036854775807
/-- A list of numbers that is owned, or none. -/
def CyO (T : TypeId) (B N : Nat) (a : Option Addr) (c : Nat) (f : Nat → Int) (W : World) : Prop := (a = none ∧ N = 0 ∧ c = 0) ∨ ∃ g, a = some ⟨g, 0, none⟩ ∧ B ≤ g ∧ IsBlk T g N f W
section
variable {T : TypeId} {B N c : Nat} {a : Option Addr} {f : Nat → Int} {W W' : World}
theorem CyO.keep (h : CyO T B N a c f W) (hb : ∀ k, a = some ⟨k, 0, none⟩ → B ≤ k → k < W.heap.size → W'.heap[k]? = W.heap[k]?) : CyO T B N a c f W' := by
  rcases h with h | ⟨g, e, h1, h2⟩
  · exact Or.inl h
  · exact Or.inr ⟨g, e, h1, h2.block (hb g e h1 h2.lt)⟩
theorem CyO.below (h : CyO T B N a c f W) (hb : Below W.heap.size W W') : CyO T B N a c f W' := h.keep (fun k _ _ hk => hb.block k hk)
theorem CyO.at_ (h : CyO T B N a c f W) : IsAt a N f W := by
  rcases h with h | ⟨g, e, h1, h2⟩
  · exact Or.inl h.2.1
  · rw [e]; exact h2.at_
theorem CyO.low {B' : Nat} (h : CyO T B N a c f W) (hb : B' ≤ B) : CyO T B' N a c f W := by
  rcases h with h | ⟨g, e, h1, h2⟩
  · exact Or.inl h
  · exact Or.inr ⟨g, e, Nat.le_trans hb h1, h2⟩
theorem CyO.lt (h : CyO T B N a c f W) {k : Nat} (e : a = some ⟨k, 0, none⟩) : B ≤ k ∧ k < W.heap.size := by
  rcases h with h | ⟨g, e', h1, h2⟩
  · rw [h.1] at e; cases e
  · rw [e'] at e; cases e; exact ⟨h1, h2.lt⟩
theorem CyO.congr {f' : Nat → Int} (h : CyO T B N a c f W) (e : ∀ j, j < N → f j = f' j) : CyO T B N a c f' W := by
  rcases h with h | ⟨g, e', h1, h2⟩
  · exact Or.inl h
  · exact Or.inr ⟨g, e', h1, h2.congr e⟩
theorem CyO.nil : CyO T B 0 none 0 f W := Or.inl ⟨rfl, rfl, rfl⟩
theorem CyO.ne (h : CyO T B N a c f W) {g n : Nat} {S : TypeId} {F : Nat → Value} (hr : W.rowIs g S n F) (hT : T ≠ S) : a ≠ some ⟨g, 0, Option.none⟩ := by
  rintro rfl
  rcases h with h | ⟨g', e, _, m, F', _, h2, _⟩
  · cases h.1
  · cases e
    obtain ⟨c1, q1, _⟩ := hr
    obtain ⟨c2, q2, _⟩ := h2
    rw [q1] at q2
    simp at q2
    exact hT q2.2.symm
end
/-- Two lists are apart. -/
def Apart (a b : Option Addr) : Prop := ∀ k, a = some ⟨k, 0, none⟩ → b ≠ some ⟨k, 0, none⟩
theorem Apart.symm {a b : Option Addr} (h : Apart a b) : Apart b a := fun k e e' => h k e' e
theorem Apart.none (b : Option Addr) : Apart Option.none b := fun _ e => by cases e
theorem Apart.none' (b : Option Addr) : Apart b Option.none := fun _ _ e => by cases e
/-- What may have changed: the blocks of some lists. -/
structure OnlyA (l : List (Option Addr)) (w w' : World) : Prop where
  os : w'.os = w.os
  tape : w'.tape = w.tape
  output : w'.output = w.output
  size : w.heap.size ≤ w'.heap.size
  block : ∀ k, k < w.heap.size → (∀ a, a ∈ l → a ≠ some ⟨k, 0, none⟩) → w'.heap[k]? = w.heap[k]?
theorem OnlyA.trans {l : List (Option Addr)} {w w1 w2 : World} (h : OnlyA l w w1) (h2 : OnlyA l w1 w2) : OnlyA l w w2 :=
  ⟨h2.os.trans h.os, h2.tape.trans h.tape, h2.output.trans h.output, Nat.le_trans h.size h2.size, fun k hk hne => (h2.block k (Nat.lt_of_lt_of_le hk h.size) hne).trans (h.block k hk hne)⟩
theorem OnlyA.wide {l l' : List (Option Addr)} {w w1 : World} (h : OnlyA l w w1) (hl : ∀ a, a ∈ l → a ∈ l') : OnlyA l' w w1 :=
  ⟨h.os, h.tape, h.output, h.size, fun k hk hne => h.block k hk (fun a ha => hne a (hl a ha))⟩
theorem OnlyA.of_below {l : List (Option Addr)} {w w1 : World} (h : Below w.heap.size w w1) : OnlyA l w w1 := ⟨h.os, h.tape, h.output, h.size, fun k hk _ => h.block k hk⟩
theorem OnlyA.below {l : List (Option Addr)} {w w1 : World} (h : OnlyA l w w1) {B : Nat} (hB : B ≤ w.heap.size) (hl : ∀ k a, k < B → a ∈ l → a ≠ some ⟨k, 0, none⟩) : Below B w w1 :=
  ⟨h.os, h.tape, h.output, h.size, fun k hk => h.block k (Nat.lt_of_lt_of_le hk hB) (fun a ha => hl k a hk ha)⟩
/-- The two lists of a Logic. -/
structure LgO (T : TypeId) (B n k m l : Nat) (a b : Option Addr) (f g : Nat → Int) (W : World) : Prop where
  t : CyO T B n a k f W
  c : CyO T B m b l g W
  ne : Apart a b
theorem LgO.below {T : TypeId} {B n k m l : Nat} {a b : Option Addr} {f g : Nat → Int} {W W' : World} (h : LgO T B n k m l a b f g W) (hb : Below W.heap.size W W') : LgO T B n k m l a b f g W' := ⟨h.t.below hb, h.c.below hb, h.ne⟩
theorem LgO.low {T : TypeId} {B B' n k m l : Nat} {a b : Option Addr} {f g : Nat → Int} {W : World} (h : LgO T B n k m l a b f g W) (hb : B' ≤ B) : LgO T B' n k m l a b f g W := ⟨h.t.low hb, h.c.low hb, h.ne⟩
theorem LgO.keep {T : TypeId} {B n k m l : Nat} {a b : Option Addr} {f g : Nat → Int} {W W' : World} (h : LgO T B n k m l a b f g W) (hb : ∀ j, a = some ⟨j, 0, none⟩ ∨ b = some ⟨j, 0, none⟩ → B ≤ j → j < W.heap.size → W'.heap[j]? = W.heap[j]?) : LgO T B n k m l a b f g W' := ⟨h.t.keep (fun j e => hb j (Or.inl e)), h.c.keep (fun j e => hb j (Or.inr e)), h.ne⟩
theorem LgO.lt {T : TypeId} {B n k m l : Nat} {a b : Option Addr} {f g : Nat → Int} {W : World} (h : LgO T B n k m l a b f g W) {j : Nat} (e : a = some ⟨j, 0, none⟩ ∨ b = some ⟨j, 0, none⟩) : B ≤ j ∧ j < W.heap.size := by
  rcases e with e | e
  · exact h.t.lt e
  · exact h.c.lt e
theorem LgO.ls {T : TypeId} {B k l : Nat} {s : Cy.Lg} {a b : Option Addr} {W : World} (h : LgO T B s.n k s.m l a b s.T s.C W) : LgAt s a b W := ⟨h.t.at_, h.c.at_⟩
/-- What a call comes to that tells a Logic. -/
def LgEnd (B : Nat) (T : TypeId) (s : Cy.Lg) (e : Ending) (W : World) : Prop := ∃ a k b l, e = .returned (lgV s a k b l) ∧ LgO T B s.n k s.m l a b s.T s.C W
theorem LgEnd.nil {B : Nat} {T : TypeId} {W : World} : LgEnd B T Cy.z0 (.returned (lgV Cy.z0 none 0 none 0)) W := ⟨none, 0, none, 0, rfl, ⟨CyO.nil, CyO.nil, Apart.none _⟩⟩
theorem LgEnd.below {B : Nat} {T : TypeId} {s : Cy.Lg} {e : Ending} {W W' : World} (h : LgEnd B T s e W) (hb : Below W.heap.size W W') : LgEnd B T s e W' := by
  obtain ⟨a, k, b, l, he, h⟩ := h
  exact ⟨a, k, b, l, he, h.below hb⟩
theorem LgEnd.low {B B' : Nat} {T : TypeId} {s : Cy.Lg} {e : Ending} {W : World} (h : LgEnd B T s e W) (hb : B' ≤ B) : LgEnd B' T s e W := by
  obtain ⟨a, k, b, l, he, h⟩ := h
  exact ⟨a, k, b, l, he, h.low hb⟩
/-- The three lists of an answer. -/
structure CoO (T : TypeId) (B n k m l p q : Nat) (a b c : Option Addr) (f g h : Nat → Int) (W : World) : Prop where
  s : LgO T B n k m l a b f g W
  o : CyO T B p c q h W
  ne : Apart a c ∧ Apart b c
theorem CoO.below {T : TypeId} {B n k m l p q : Nat} {a b c : Option Addr} {f g h : Nat → Int} {W W' : World} (x : CoO T B n k m l p q a b c f g h W) (hb : Below W.heap.size W W') : CoO T B n k m l p q a b c f g h W' := ⟨x.s.below hb, x.o.below hb, x.ne⟩
theorem CoO.low {T : TypeId} {B B' n k m l p q : Nat} {a b c : Option Addr} {f g h : Nat → Int} {W : World} (x : CoO T B n k m l p q a b c f g h W) (hb : B' ≤ B) : CoO T B' n k m l p q a b c f g h W := ⟨x.s.low hb, x.o.low hb, x.ne⟩
theorem CoO.lt {T : TypeId} {B n k m l p q : Nat} {a b c : Option Addr} {f g h : Nat → Int} {W : World} (x : CoO T B n k m l p q a b c f g h W) {j : Nat} (e : a = some ⟨j, 0, none⟩ ∨ b = some ⟨j, 0, none⟩ ∨ c = some ⟨j, 0, none⟩) : B ≤ j ∧ j < W.heap.size := by
  rcases e with e | e | e
  · exact x.s.t.lt e
  · exact x.s.c.lt e
  · exact x.o.lt e
theorem CoO.keep {T : TypeId} {B n k m l p q : Nat} {a b c : Option Addr} {f g h : Nat → Int} {W W' : World} (x : CoO T B n k m l p q a b c f g h W) (hb : ∀ j, a = some ⟨j, 0, none⟩ ∨ b = some ⟨j, 0, none⟩ ∨ c = some ⟨j, 0, none⟩ → B ≤ j → j < W.heap.size → W'.heap[j]? = W.heap[j]?) : CoO T B n k m l p q a b c f g h W' :=
  ⟨x.s.keep (fun j e => hb j (e.elim Or.inl (fun e => Or.inr (Or.inl e)))), x.o.keep (fun j e => hb j (Or.inr (Or.inr e))), x.ne⟩
/-- What a call of a cycle comes to. -/
def CoEnd (B : Nat) (T : TypeId) (x : Cy.Ans) (e : Ending) (W : World) : Prop := ∃ a k b l c q, e = .returned (coV x a k b l c q) ∧ CoO T B x.s.n k x.s.m l x.n q a b c x.s.T x.s.C x.O W
theorem CoEnd.no {B : Nat} {T : TypeId} {W : World} (cd : Int) : CoEnd B T (Cy.no cd) (.returned (coV (Cy.no cd) none 0 none 0 none 0)) W := ⟨none, 0, none, 0, none, 0, rfl, ⟨⟨CyO.nil, CyO.nil, Apart.none _⟩, CyO.nil, Apart.none _, Apart.none _⟩⟩
theorem CoEnd.below {B : Nat} {T : TypeId} {x : Cy.Ans} {e : Ending} {W W' : World} (h : CoEnd B T x e W) (hb : Below W.heap.size W W') : CoEnd B T x e W' := by
  obtain ⟨a, k, b, l, c, q, he, h⟩ := h
  exact ⟨a, k, b, l, c, q, he, h.below hb⟩
end Go.Proofs.YtogfjomfhenhfaaGreatDoor
