/-
  Answers of meters: compared, marked, found again.
-/
import Derived.Test.YtmejmpdljckfgaaDoorMtEx2
import Derived.Test.YtmejmpdljckfgaaDoorMtR3
namespace Go.Proofs.YtmejmpdljckfgaaDoor
open Go.RowKit Go.Deep

theorem UsOwn.same {B N c : Nat} {a : Option Addr} {f : Nat → Int} {W W' : World} (h : UsOwn B N a c f W) (hb : ∀ k, a = some ⟨k, 0, none⟩ → k < W.heap.size → W'.heap[k]? = W.heap[k]?) : UsOwn B N a c f W' := by
  rcases h with h | ⟨g, e, h1, h2⟩
  · exact Or.inl h
  · exact Or.inr ⟨g, e, h1, h2.block (hb g e h2.lt)⟩
theorem UsOwn.below {B N c : Nat} {a : Option Addr} {f : Nat → Int} {W W' : World} (h : UsOwn B N a c f W) (hb : Below W.heap.size W W') : UsOwn B N a c f W' := h.same (fun k _ hk => hb.block k hk)
theorem UsOwn.at_ {B N c : Nat} {a : Option Addr} {f : Nat → Int} {W : World} (h : UsOwn B N a c f W) : IsAt a (N * 4) f W := by
  rcases h with h | ⟨g, e, h1, h2⟩
  · exact Or.inl (by omega)
  · rw [e]; exact h2.at_
theorem UsOwn.low {B B' N c : Nat} {a : Option Addr} {f : Nat → Int} {W : World} (h : UsOwn B N a c f W) (hb : B' ≤ B) : UsOwn B' N a c f W := by
  rcases h with h | ⟨g, e, h1, h2⟩
  · exact Or.inl h
  · exact Or.inr ⟨g, e, Nat.le_trans hb h1, h2⟩
theorem UsOwn.lt {B N c : Nat} {a : Option Addr} {f : Nat → Int} {W : World} (h : UsOwn B N a c f W) {k : Nat} (e : a = some ⟨k, 0, none⟩) : B ≤ k ∧ k < W.heap.size := by
  rcases h with h | ⟨g, e', h1, h2⟩
  · rw [h.1] at e; cases e
  · rw [e'] at e; cases e; exact ⟨h1, h2.lt⟩
/-- A list of uses and an answer's variable are two blocks. -/
theorem UsOwn.ne {B N c n : Nat} {a : Option Addr} {f : Nat → Int} {W : World} {x : Nat} {F : Nat → Value} (h : UsOwn B N a c f W) (hr : W.rowIs x 30 n F) {k : Nat} (e : a = some ⟨k, 0, none⟩) : k ≠ x := by
  rcases h with h | ⟨g, e', h1, h2⟩
  · rw [h.1] at e; cases e
  · rw [e'] at e
    cases e
    rintro rfl
    obtain ⟨m, G, _, h3, _⟩ := h2
    obtain ⟨c1, q1, _⟩ := h3
    obtain ⟨c2, q2, _⟩ := hr
    rw [q1] at q2
    simp at q2
namespace Mt
/-- What an answer holds. -/
noncomputable def ansM (ok : Prop) (X : M) : M := if dB ok = true then X else none
noncomputable def ansN (ok : Prop) (n : Nat) : Nat := if dB ok = true then n else 0
noncomputable def ansC (ok : Prop) (x : Int) : Int := if dB ok = true then 0 else x
end Mt
theorem MuEnd.tell {B : Nat} {ok : Prop} {x : Int} {X : Mt.M} {n : Nat} {U : Nat → Int} {e : Ending} {W : World} (h : MuEnd B ok x X n U e W) :
    ∃ a c, e = .returned (muV (Mt.ansM ok X) a (Mt.ansN ok n) c (Mt.ansC ok x)) ∧ UsOwn B (Mt.ansN ok n) a c U W := by
  unfold Mt.ansM Mt.ansN Mt.ansC
  rcases h with ⟨h, e⟩ | ⟨h, a, c, e, k⟩
  · rw [Mt.dB_ff h]; exact ⟨none, 0, by simpa using e, Or.inl ⟨rfl, rfl, rfl⟩⟩
  · rw [Mt.dB_tt h]; exact ⟨a, c, by simpa using e, by simpa using k⟩
/-- It lasts while nothing below a bound turns. -/
def Stb (h : Nat) (A : World → Prop) : Prop := ∀ W W' : World, (∀ k, k < h → k < W.heap.size → W'.heap[k]? = W.heap[k]?) → A W → A W'
/-- What stands once an answer lies in a variable. -/
structure PrM (V0 : World) (X : Mt.M) (n : Nat) (x : Int) (U : Nat → Int) (xb : Nat) (a : Option Addr) (c : Nat) (W : World) : Prop where
  bel : Below V0.heap.size V0 W
  row : W.rowIs xb 30 6 (rowN (muL X a n c x))
  own : UsOwn V0.heap.size n a c U W
  lo : V0.heap.size ≤ xb
/-- What stands in the law between its calls. -/
structure Lm (s h6 : Nat) (A : World → Prop) (X : Mt.M) (n : Nat) (x : Int) (s5 : Nat) (a5 : Option Addr) (c5 s6 : Nat) (a6 : Option Addr) (c6 : Nat) (U V : Nat → Int) (w W : World) : Prop where
  a : A W
  r5 : W.rowIs s5 30 6 (rowN (muL X a5 n c5 x))
  t5 : UsOwn s n a5 c5 U W
  r6 : W.rowIs s6 30 6 (rowN (muL X a6 n c6 x))
  t6 : UsOwn h6 n a6 c6 V W
  o5 : s ≤ s5 ∧ s5 < h6 ∧ h6 ≤ s6 ∧ ∀ k, a5 = some ⟨k, 0, none⟩ → k < h6
  bel : Below s w W
section
variable {s h6 : Nat} {A : World → Prop} {X : Mt.M} {n : Nat} {x : Int} {s5 : Nat} {a5 : Option Addr} {c5 s6 : Nat} {a6 : Option Addr} {c6 : Nat} {U V V' : Nat → Int} {w W W' : World}
theorem Lm.below (h : Lm s h6 A X n x s5 a5 c5 s6 a6 c6 U V w W) (hA : Stb h6 A) (hb : Below W.heap.size W W') : Lm s h6 A X n x s5 a5 c5 s6 a6 c6 U V w W' :=
  ⟨hA _ _ (fun k _ hk => hb.block k hk) h.a, nrow_below h.r5 hb, h.t5.below hb, nrow_below h.r6 hb, h.t6.below hb, h.o5, h.bel.trans (hb.mono (Nat.le_trans h.o5.1 (Nat.le_of_lt h.r5.lt)))⟩
theorem Lm.mark (h : Lm s h6 A X n x s5 a5 c5 s6 a6 c6 U V w W) (hA : Stb h6 A) (ht : UsOwn h6 n a6 c6 V' W') (hk : ∀ k, k < W.heap.size → a6 ≠ some ⟨k, 0, none⟩ → W'.heap[k]? = W.heap[k]?) (hm : W'.os = W.os ∧ W'.tape = W.tape ∧ W'.output = W.output ∧ W.heap.size ≤ W'.heap.size) : Lm s h6 A X n x s5 a5 c5 s6 a6 c6 U V' w W' := by
  have o := h.o5
  have lt : ∀ k, a6 = some ⟨k, 0, none⟩ → h6 ≤ k := fun k e => (h.t6.lt e).1
  exact ⟨hA _ _ (fun k h1 h2 => hk k h2 (fun e => by have := lt k e; omega)) h.a, h.r5.of_block (hk _ h.r5.lt (fun e => by have := lt _ e; omega)), h.t5.same (fun k e h2 => hk k h2 (fun e2 => by have := lt k e2; have := o.2.2.2 k e; omega)), h.r6.of_block (hk _ h.r6.lt (fun e => h.t6.ne h.r6 e rfl)), ht, o, h.bel.trans ⟨hm.1, hm.2.1, hm.2.2.1, hm.2.2.2, fun k hk2 => hk k (by have := h.r5.lt; omega) (fun e => by have := lt k e; omega)⟩⟩
end
end Go.Proofs.YtmejmpdljckfgaaDoor
