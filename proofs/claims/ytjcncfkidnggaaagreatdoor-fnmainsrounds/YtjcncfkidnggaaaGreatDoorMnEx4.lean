/-
  The laws' comparisons and marks of answers of mains.
-/
import Derived.Test.YtjcncfkidnggaaaGreatDoorMnEx3
import Derived.Test.YtjcncfkidnggaaaGreatDoorMnOw
namespace Go.Proofs.YtjcncfkidnggaaaGreatDoor
open Go.RowKit Go.Deep

abbrev moV (fa : Option Addr) (fn fc : Nat) (ha : Option Addr) (hn hc : Nat) (rest rounds at_ code : Int) : Value := .agg #[.slice fa fn fc, .slice ha hn hc, .int .i64 rest, .int .i64 rounds, .int .i64 at_, .int .i64 code]
abbrev moL (fa : Option Addr) (fn fc : Nat) (ha : Option Addr) (hn hc : Nat) (rest rounds at_ code : Int) : List Value := [.slice fa fn fc, .slice ha hn hc, .int .i64 rest, .int .i64 rounds, .int .i64 at_, .int .i64 code]
abbrev moA (fa : Option Addr) (fn fc : Nat) (ha : Option Addr) (hn hc : Nat) (rest rounds at_ code : Int) : Array Value := #[.slice fa fn fc, .slice ha hn hc, .int .i64 rest, .int .i64 rounds, .int .i64 at_, .int .i64 code]
/-- What may have changed: the block of one list. -/
structure OnlyO (a : Option Addr) (w w' : World) : Prop where
  os : w'.os = w.os
  tape : w'.tape = w.tape
  output : w'.output = w.output
  size : w.heap.size ≤ w'.heap.size
  block : ∀ k, k < w.heap.size → a ≠ some ⟨k, 0, none⟩ → w'.heap[k]? = w.heap[k]?
theorem OwL.keep {T : TypeId} {B N c : Nat} {a : Option Addr} {f : Nat → Int} {W W' : World} (h : OwL T B N a c f W) (hb : ∀ k, a = some ⟨k, 0, none⟩ → k < W.heap.size → W'.heap[k]? = W.heap[k]?) : OwL T B N a c f W' := by
  rcases h with h | ⟨g, e, h1, h2⟩
  · exact Or.inl h
  · exact Or.inr ⟨g, e, h1, h2.block (hb g e h2.lt)⟩
theorem OwL.lt {T : TypeId} {B N c : Nat} {a : Option Addr} {f : Nat → Int} {W : World} (h : OwL T B N a c f W) {k : Nat} (e : a = some ⟨k, 0, none⟩) : B ≤ k ∧ k < W.heap.size := by
  rcases h with h | ⟨g, e', h1, h2⟩
  · rw [h.1] at e; cases e
  · rw [e'] at e; cases e; exact ⟨h1, h2.lt⟩
/-- The two lists of an answer, which are apart. -/
structure Ow2 (B N c M d : Nat) (a p : Option Addr) (f g : Nat → Int) (W : World) : Prop where
  f : OwL 2 B N a c f W
  g : OwL 2 B M p d g W
  ne : ∀ k, a = some ⟨k, 0, none⟩ → p ≠ some ⟨k, 0, none⟩
theorem Ow2.below {B N c M d : Nat} {a p : Option Addr} {f g : Nat → Int} {W W' : World} (h : Ow2 B N c M d a p f g W) (hb : Below W.heap.size W W') : Ow2 B N c M d a p f g W' := ⟨h.f.below hb, h.g.below hb, h.ne⟩
end Go.Proofs.YtjcncfkidnggaaaGreatDoor
