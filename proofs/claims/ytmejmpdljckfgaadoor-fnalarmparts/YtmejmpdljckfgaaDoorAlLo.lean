/-
  Answers of AlarmRun: compared, marked, found again.
-/
import Derived.Test.YtmejmpdljckfgaaDoorAlEx1
import Derived.Test.YtmejmpdljckfgaaDoorAlEx2
import Derived.Test.YtmejmpdljckfgaaDoorMtMath
namespace Go.Proofs.YtmejmpdljckfgaaDoor
open Go.RowKit Go.Deep

/-- A list of rings that an answer is: its own memory, or none. -/
def RgOwn (B N : Nat) (a : Option Addr) (c : Nat) (f : Nat → Int) (W : World) : Prop := (a = none ∧ N = 0 ∧ c = 0) ∨ ∃ g, a = some ⟨g, 0, none⟩ ∧ B ≤ g ∧ IsBlk 52 g (N * 2) f W
/-- How an answer is told. -/
def AoEnd (B : Nat) (ok : Prop) (x : Int) (X : Al.A) (n : Nat) (U : Nat → Int) (e : Ending) (W : World) : Prop :=
  (¬ ok ∧ e = .returned (aoV Al.none none 0 0 x)) ∨ (ok ∧ ∃ a c, e = .returned (aoV X a n c 0) ∧ RgOwn B n a c U W)
theorem RgOwn.same {B N c : Nat} {a : Option Addr} {f : Nat → Int} {W W' : World} (h : RgOwn B N a c f W) (hb : ∀ k, a = some ⟨k, 0, none⟩ → k < W.heap.size → W'.heap[k]? = W.heap[k]?) : RgOwn B N a c f W' := by
  rcases h with h | ⟨g, e, h1, h2⟩
  · exact Or.inl h
  · exact Or.inr ⟨g, e, h1, h2.block (hb g e h2.lt)⟩
theorem RgOwn.below {B N c : Nat} {a : Option Addr} {f : Nat → Int} {W W' : World} (h : RgOwn B N a c f W) (hb : Below W.heap.size W W') : RgOwn B N a c f W' := h.same (fun k _ hk => hb.block k hk)
theorem RgOwn.at_ {B N c : Nat} {a : Option Addr} {f : Nat → Int} {W : World} (h : RgOwn B N a c f W) : IsAt a (N * 2) f W := by
  rcases h with h | ⟨g, e, h1, h2⟩
  · exact Or.inl (by omega)
  · rw [e]; exact h2.at_
theorem RgOwn.low {B B' N c : Nat} {a : Option Addr} {f : Nat → Int} {W : World} (h : RgOwn B N a c f W) (hb : B' ≤ B) : RgOwn B' N a c f W := by
  rcases h with h | ⟨g, e, h1, h2⟩
  · exact Or.inl h
  · exact Or.inr ⟨g, e, Nat.le_trans hb h1, h2⟩
theorem RgOwn.lt {B N c : Nat} {a : Option Addr} {f : Nat → Int} {W : World} (h : RgOwn B N a c f W) {k : Nat} (e : a = some ⟨k, 0, none⟩) : B ≤ k ∧ k < W.heap.size := by
  rcases h with h | ⟨g, e', h1, h2⟩
  · rw [h.1] at e; cases e
  · rw [e'] at e; cases e; exact ⟨h1, h2.lt⟩
/-- A list of uses and an answer's variable are two blocks. -/
theorem RgOwn.ne {B N c n : Nat} {a : Option Addr} {f : Nat → Int} {W : World} {x : Nat} {F : Nat → Value} (h : RgOwn B N a c f W) (hr : W.rowIs x 46 n F) {k : Nat} (e : a = some ⟨k, 0, none⟩) : k ≠ x := by
  rcases h with h | ⟨g, e', h1, h2⟩
  · rw [h.1] at e; cases e
  · rw [e'] at e
    cases e
    rintro rfl
    obtain ⟨m, G, _, h3, _⟩ := h2
    obtain ⟨c1, q1, _⟩ := h3
    obtain ⟨c2, q2, _⟩ := hr
    rw [q1] at q2
    simp at q2
namespace Al
/-- What an answer holds. -/
noncomputable def ansM (ok : Prop) (X : A) : A := if Mt.dB ok = true then X else none
noncomputable def ansN (ok : Prop) (n : Nat) : Nat := if Mt.dB ok = true then n else 0
noncomputable def ansC (ok : Prop) (x : Int) : Int := if Mt.dB ok = true then 0 else x
end Al
theorem AoEnd.tell {B : Nat} {ok : Prop} {x : Int} {X : Al.A} {n : Nat} {U : Nat → Int} {e : Ending} {W : World} (h : AoEnd B ok x X n U e W) :
    ∃ a c, e = .returned (aoV (Al.ansM ok X) a (Al.ansN ok n) c (Al.ansC ok x)) ∧ RgOwn B (Al.ansN ok n) a c U W := by
  unfold Al.ansM Al.ansN Al.ansC
  rcases h with ⟨h, e⟩ | ⟨h, a, c, e, k⟩
  · rw [Mt.dB_ff h]; exact ⟨none, 0, by simpa using e, Or.inl ⟨rfl, rfl, rfl⟩⟩
  · rw [Mt.dB_tt h]; exact ⟨a, c, by simpa using e, by simpa using k⟩
end Go.Proofs.YtmejmpdljckfgaaDoor
