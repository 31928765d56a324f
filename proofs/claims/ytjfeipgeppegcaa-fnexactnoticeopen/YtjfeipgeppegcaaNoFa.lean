/-
  Facts of ranges for homes, notices and numbers.
-/
import Derived.Test.YtjfeipgeppegcaaFa
import Derived.Test.YtjfeipgeppegcaaCyMem
import Derived.Test.YtjfeipgeppegcaaNtEx1
import Derived.Test.YtjfeipgeppegcaaNoEx1
import Derived.Test.YtjfeipgeppegcaaNoIn
namespace Go.Proofs.Ytjfeipgeppegcaa
open Go.RowKit Go.Deep

theorem stab_cyo {T : TypeId} {B N c lo hi : Nat} {a : Option Addr} {f : Nat → Int} (hl : lo ≤ B) (hh : ∀ k, a = some ⟨k, 0, none⟩ → k < hi) : Stab lo hi (fun V => CyO T B N a c f V) := fun _ _ h hk => h.keep (fun k e h1 h2 => hk k (Nat.le_trans hl h1) (hh k e) h2)
theorem fact_cyo {T : TypeId} {B N c lo : Nat} {a : Option Addr} {f : Nat → Int} {W : World} (h : CyO T B N a c f W) (hl : lo ≤ B) (hs : lo ≤ W.heap.size) : Fact lo W.heap.size (fun V => CyO T B N a c f V) W := ⟨h, stab_cyo hl (fun _ e => (h.lt e).2), hs, Nat.le_refl _⟩
theorem rng_a {l : List (Option Addr)} {lo hi : Nat} {V W' : World} (ho : OnlyA l V W') (h : ∀ a j, a ∈ l → a = some ⟨j, 0, none⟩ → lo ≤ j ∧ j < hi) : Rng lo hi V W' :=
  ⟨ho.os, ho.tape, ho.output, ho.size, fun k hk hn => ho.block k hk (fun a ha e => hn (h a k ha e))⟩
theorem row_a {l : List (Option Addr)} {V W' : World} {s n : Nat} {T : TypeId} {F : Nat → Value} (ho : OnlyA l V W') (hr : V.rowIs s T n F) (hne : ∀ a, a ∈ l → a ≠ some ⟨s, 0, none⟩) : W'.rowIs s T n F := hr.of_block (ho.block _ hr.lt hne)
theorem markInts_any {B N c k : Nat} {a : Option Addr} {f : Nat → Int} (w : World) (h : CyO 2 B N a c f w) (hn : N ≤ 1048576) (hk : k ≤ 1073741824) :
    Calls Try.prog 15 #[.slice a N c, .int .i64 (k : Nat)] w fun e w' => e = .returned (.int .i64 ((k + N : Nat) : Int)) ∧ CyO 2 B N a c (mk1 k) w' ∧ OnlyA [a] w w' := by
  rcases h with ⟨rfl, h0, rfl⟩ | ⟨g, rfl, h1, h2⟩
  · obtain rfl : N = 0 := by omega
    exact (nmarkInt64S_nil k w).mono (fun e w' ⟨he, hw⟩ => ⟨he, Or.inl ⟨rfl, rfl, rfl⟩, by rw [hw]; exact ⟨rfl, rfl, rfl, Nat.le_refl _, fun _ _ _ => rfl⟩⟩)
  · exact (nmarkInt64S_any g N c k f w h2 hn hk).mono (fun e w' ⟨he, hi, ho⟩ => ⟨he, Or.inr ⟨g, rfl, h1, hi⟩, ho.os, ho.tape, ho.output, ho.size, fun j hj hne => ho.block j hj (fun e => hne (some ⟨g, 0, none⟩) (by simp) (by rw [e]))⟩)
theorem heldInts_any {B N c k : Nat} {a : Option Addr} (w : World) (h : CyO 2 B N a c (mk1 k) w) (hn : N ≤ 1048576) (hk : k ≤ 1073741824) :
    Calls Try.prog 16 #[.slice a N c, .int .i64 (k : Nat)] w fun e w' => e = .returned (.int .i64 ((k + N : Nat) : Int)) ∧ w' = w := by
  rcases h with ⟨rfl, h0, rfl⟩ | ⟨g, rfl, h1, h2⟩
  · obtain rfl : N = 0 := by omega
    exact nheldInt64S_nil k w
  · exact nheldInt64S_any g N c k w h2 hn hk
/-- Homes that are small. -/
def HoSm (n : Nat) (B : Nat → No.Ho) : Prop := n ≤ 1048576 ∧ HoNames 1048576 n B
def HoLn (n : Nat) (B : Nat → No.Ho) : Prop := n ≤ 9223372036854775807 ∧ HoNames 9223372036854775807 n B
theorem homes_sz (a : Option Addr) (n cap : Nat) (B : Nat → No.Ho) (w : World) (h : HosIn a n B w) (hl : HoLn n B) :
    Calls Try.prog 6 #[.slice a n cap, .int .i64 1048576] w fun e w' => (∃ z : Int, e = .returned (.int .i64 z) ∧ (z < 0 ∨ ((0 ≤ z ∧ z ≤ 1048576) ∧ HoSm n B))) ∧ Below w.heap.size w w' :=
  (nszHomes_any a n cap B 1048576 w h hl.2 hl.1 (Nat.le_refl _)).mono (fun _ _ ⟨h1, h2⟩ => by
    refine ⟨?_, h2⟩
    rcases h1 with ⟨z, e, hz⟩ | ⟨m, e, hm, hn, hk⟩
    · exact ⟨z, e, Or.inl hz⟩
    · exact ⟨m, e, Or.inr ⟨by omega, hn, hk⟩⟩)
theorem homes_conv (a : Option Addr) (n cap : Nat) (B : Nat → No.Ho) (w : World) (h : HosIn a n B w) (hn : HoSm n B) :
    Calls Try.prog 8 #[.slice a n cap] w fun e w' => (∃ g, e = .returned (.slice (some ⟨g, 0, none⟩) n n) ∧ w.heap.size ≤ g ∧ VsBlk 46 g (n * 2) (hoF B) w') ∧ Below w.heap.size w w' :=
  (ntoHomeS_any a n cap B w h hn.1).mono (fun _ _ ⟨⟨h1, h2⟩, h3⟩ => ⟨⟨_, h1, Nat.le_refl _, h2⟩, h3⟩)
theorem stab_vs {T : TypeId} {g N lo hi : Nat} {f : Nat → Value} (h : lo ≤ g ∧ g < hi) : Stab lo hi (fun V => VsBlk T g N f V) := fun _ _ a hk => a.block (hk _ h.1 h.2 a.lt)
theorem fact_vs {W : World} {lo g N : Nat} {T : TypeId} {f : Nat → Value} (h : VsBlk T g N f W) (hl : lo ≤ g) : Fact lo W.heap.size (fun V => VsBlk T g N f V) W := ⟨h, stab_vs ⟨hl, h.lt⟩, Nat.le_trans hl (Nat.le_of_lt h.lt), Nat.le_refl _⟩
end Go.Proofs.Ytjfeipgeppegcaa
