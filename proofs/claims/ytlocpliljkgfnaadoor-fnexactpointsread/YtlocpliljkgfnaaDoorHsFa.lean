/-
  Facts of ranges for points and numbers.
-/
import Derived.Test.YtlocpliljkgfnaaDoorFa
import Derived.Test.YtlocpliljkgfnaaDoorCyMem
import Derived.Test.YtlocpliljkgfnaaDoorHsEx1
import Derived.Test.YtlocpliljkgfnaaDoorNtEx1
namespace Go.Proofs.YtlocpliljkgfnaaDoor
open Go.RowKit Go.Deep

theorem stab_cyo {T : TypeId} {B N c lo hi : Nat} {a : Option Addr} {f : Nat → Int} (hl : lo ≤ B) (hh : ∀ k, a = some ⟨k, 0, none⟩ → k < hi) : Stab lo hi (fun V => CyO T B N a c f V) := fun _ _ h hk => h.keep (fun k e h1 h2 => hk k (Nat.le_trans hl h1) (hh k e) h2)
theorem fact_cyo {T : TypeId} {B N c lo : Nat} {a : Option Addr} {f : Nat → Int} {W : World} (h : CyO T B N a c f W) (hl : lo ≤ B) (hs : lo ≤ W.heap.size) : Fact lo W.heap.size (fun V => CyO T B N a c f V) W := ⟨h, stab_cyo hl (fun _ e => (h.lt e).2), hs, Nat.le_refl _⟩
theorem rng_a {l : List (Option Addr)} {lo hi : Nat} {V W' : World} (ho : OnlyA l V W') (h : ∀ a j, a ∈ l → a = some ⟨j, 0, none⟩ → lo ≤ j ∧ j < hi) : Rng lo hi V W' :=
  ⟨ho.os, ho.tape, ho.output, ho.size, fun k hk hn => ho.block k hk (fun a ha e => hn (h a k ha e))⟩
theorem row_a {l : List (Option Addr)} {V W' : World} {s n : Nat} {T : TypeId} {F : Nat → Value} (ho : OnlyA l V W') (hr : V.rowIs s T n F) (hne : ∀ a, a ∈ l → a ≠ some ⟨s, 0, none⟩) : W'.rowIs s T n F := hr.of_block (ho.block _ hr.lt hne)
theorem markPts_any {B N c k : Nat} {a : Option Addr} {f : Nat → Int} (w : World) (h : CyO 38 B (N * 2) a c f w) (hn : N ≤ 1048576) (hk : k ≤ 1073741824) :
    Calls Tryd.prog 19 #[.slice a N c, .int .i64 (k : Nat)] w fun e w' => e = .returned (.int .i64 ((k + N * 2 : Nat) : Int)) ∧ CyO 38 B (N * 2) a c (mk1 k) w' ∧ OnlyA [a] w w' := by
  rcases h with ⟨rfl, h0, rfl⟩ | ⟨g, rfl, h1, h2⟩
  · obtain rfl : N = 0 := by omega
    exact (nmarkPointS_nil k w).mono (fun e w' ⟨he, hw⟩ => ⟨he, Or.inl ⟨rfl, rfl, rfl⟩, by rw [hw]; exact ⟨rfl, rfl, rfl, Nat.le_refl _, fun _ _ _ => rfl⟩⟩)
  · exact (nmarkPointS_any g N c k f w h2 hn hk).mono (fun e w' ⟨he, hi, ho⟩ => ⟨he, Or.inr ⟨g, rfl, h1, hi⟩, ho.os, ho.tape, ho.output, ho.size, fun j hj hne => ho.block j hj (fun e => hne (some ⟨g, 0, none⟩) (by simp) (by rw [e]))⟩)
theorem heldPts_any {B N c k : Nat} {a : Option Addr} (w : World) (h : CyO 38 B (N * 2) a c (mk1 k) w) (hn : N ≤ 1048576) (hk : k ≤ 1073741824) :
    Calls Tryd.prog 20 #[.slice a N c, .int .i64 (k : Nat)] w fun e w' => e = .returned (.int .i64 ((k + N * 2 : Nat) : Int)) ∧ w' = w := by
  rcases h with ⟨rfl, h0, rfl⟩ | ⟨g, rfl, h1, h2⟩
  · obtain rfl : N = 0 := by omega
    exact nheldPointS_nil k w
  · exact nheldPointS_any g N c k w h2 hn hk
end Go.Proofs.YtlocpliljkgfnaaDoor
