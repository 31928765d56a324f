/-
  The laws' comparisons and marks of answers of mains.
-/
import Derived.Test.YtngofpjjiadegaaMnEx3
import Derived.Test.YtngofpjjiadegaaMnOw
namespace Go.Proofs.Ytngofpjjiadegaa
open Go.RowKit Go.Deep

abbrev moV (fa : Option Addr) (fn fc : Nat) (ha : Option Addr) (hn hc : Nat) (rest rounds at_ code : Int) : Value := .agg #[.slice fa fn fc, .slice ha hn hc, .int .i64 rest, .int .i64 rounds, .int .i64 at_, .int .i64 code]
abbrev moL (fa : Option Addr) (fn fc : Nat) (ha : Option Addr) (hn hc : Nat) (rest rounds at_ code : Int) : List Value := [.slice fa fn fc, .slice ha hn hc, .int .i64 rest, .int .i64 rounds, .int .i64 at_, .int .i64 code]
abbrev moA (fa : Option Addr) (fn fc : Nat) (ha : Option Addr) (hn hc : Nat) (rest rounds at_ code : Int) : Array Value := #[.slice fa fn fc, .slice ha hn hc, .int .i64 rest, .int .i64 rounds, .int .i64 at_, .int .i64 code]
/-- What may have changed: the block of one list. -/
structure OnlyO (a : Option Addr) (w w' : World) : Prop where
  os : w'.os = w.os
  tape : w'.tape = w.tape
  output : w'.output = w.output
  size : w.heap.size ≤ w'.heap.size
  block : ∀ k, k < w.heap.size → a ≠ some ⟨k, 0, none⟩ → w'.heap[k]? = w.heap[k]?
theorem OwL.keep {T : TypeId} {B N c : Nat} {a : Option Addr} {f : Nat → Int} {W W' : World} (h : OwL T B N a c f W) (hb : ∀ k, a = some ⟨k, 0, none⟩ → k < W.heap.size → W'.heap[k]? = W.heap[k]?) : OwL T B N a c f W' := by
  rcases h with h | ⟨g, e, h1, h2⟩
  · exact Or.inl h
  · exact Or.inr ⟨g, e, h1, h2.block (hb g e h2.lt)⟩
theorem OwL.lt {T : TypeId} {B N c : Nat} {a : Option Addr} {f : Nat → Int} {W : World} (h : OwL T B N a c f W) {k : Nat} (e : a = some ⟨k, 0, none⟩) : B ≤ k ∧ k < W.heap.size := by
  rcases h with h | ⟨g, e', h1, h2⟩
  · rw [h.1] at e; cases e
  · rw [e'] at e; cases e; exact ⟨h1, h2.lt⟩
theorem markOw_any (B N c k : Nat) (a : Option Addr) (f : Nat → Int) (w : World) (h : OwL 2 B N a c f w) (hn : N ≤ 1048576) (hk : k ≤ 16777216) :
    Calls Try.prog 15 #[.slice a N c, .int .i64 k] w fun e w' => e = .returned (.int .i64 ((k + N : Nat) : Int)) ∧ OwL 2 B N a c (mk1 k) w' ∧ OnlyO a w w' := by
  rcases h with ⟨rfl, rfl, rfl⟩ | ⟨g, rfl, h1, h2⟩
  · exact (nmarkInt64S_nil k w).mono (fun e w' ⟨he, hw⟩ => ⟨he, Or.inl ⟨rfl, rfl, rfl⟩, by rw [hw]; exact ⟨rfl, rfl, rfl, Nat.le_refl _, fun _ _ _ => rfl⟩⟩)
  · exact (nmarkInt64S_any g N c k f w h2 hn hk).mono (fun e w' ⟨he, hi, ho⟩ => ⟨he, Or.inr ⟨g, rfl, h1, hi⟩, ho.os, ho.tape, ho.output, ho.size, fun j hj hne => ho.block j hj (fun e => hne (by rw [e]))⟩)
theorem heldOw_any (B N c k : Nat) (a : Option Addr) (w : World) (h : OwL 2 B N a c (mk1 k) w) (hn : N ≤ 1048576) (hk : k ≤ 16777216) :
    Calls Try.prog 16 #[.slice a N c, .int .i64 k] w fun e w' => e = .returned (.int .i64 ((k + N : Nat) : Int)) ∧ w' = w := by
  rcases h with ⟨rfl, rfl, rfl⟩ | ⟨g, rfl, h1, h2⟩
  · exact nheldInt64S_nil k w
  · exact nheldInt64S_any g N c k w h2 hn hk
end Go.Proofs.Ytngofpjjiadegaa
