/-
  The contract of the draw of a list of floats out of bytes.
-/
import Derived.Test.YtemmmhkjjcmcmaaFList
import Derived.Test.YtemmmhkjjcmcmaaSource
namespace Go.Proofs.Ytemmmhkjjcmcmaa
open Go.RowKit

theorem Own.mono {B B' : Nat} {v : Value} {zs : List Nat} {W : World} (h : Own B v zs W) (hB : B' ≤ B) : Own B' v zs W := by
  obtain ⟨⟨h1, h2⟩, hn⟩ := h
  refine ⟨⟨h1, ?_⟩, hn⟩
  rcases h2 with h2 | ⟨g, cap, cur, e1, e2, e3⟩
  · exact Or.inl h2
  · exact Or.inr ⟨g, cap, cur, e1, by omega, e3⟩

set_option maxRecDepth 100000 in
set_option maxHeartbeats 2000000 in
theorem drawSum_any (a : Option Addr) (len cap : Nat) (w : World) (h : Bytes a len w) (hl : len ≤ 1048576) :
    Calls Try.prog 4 #[.slice a len cap] w fun e w' => ∃ v, e = .returned v ∧ ∃ zs : List Nat, zs.length ≤ 1000 ∧ Own w.heap.size v zs w' ∧ Below w.heap.size w w' := by
  have H : Hid (Bytes a len w) := h
  clear h
  go_enter Try.func4, Try.ntmps4
  go_wp2_with fail
  refine (source_any a len cap _ H.out hl).mono ?_
  rintro e w1 ⟨rfl, hS1, hB1⟩
  have D1 : Hid (Src w.heap.size w1 ∧ Below w.heap.size w w1) := ⟨hS1, hB1⟩
  clear hS1 hB1 H
  go_wp2_with fail
  refine (one_any _ _ _ D1.out.1 (by omega)).mono ?_
  rintro e w2 ⟨⟨b, rfl⟩, hD⟩
  have D2 : Hid (Src w.heap.size w2 ∧ Below w.heap.size w w2) := ⟨hD.1, D1.out.2.trans (hD.2.below (Nat.le_refl _) D1.out.2.size)⟩
  clear hD D1
  cases b
  · obtain ⟨a2, len2, cap2, at2, mix2, size2, hS, q1, q2, q3, q4, q5, _⟩ := D2.out.1
    have c3 := hS.2.2.2.1
    clear hS q1 q2 q3
    go_wp2_with fail
    refine (n_any _ (8 + size2) _ D2.out.1 (by omega)).mono ?_
    rintro e w3 ⟨⟨u, rfl, u0, u1, u2⟩, hD⟩
    have u3 : u < 8 + size2 := u1 (by omega)
    have D3 : Hid (Src w.heap.size w3 ∧ Below w.heap.size w w3) := ⟨hD.1, D2.out.2.trans (hD.2.below (Nat.le_refl _) D2.out.2.size)⟩
    clear hD u1 u2 c3 D2
    go_wp2_with fail
    refine (floats_any _ u u0 (by omega) _ D3.out.1).mono ?_
    rintro e w4 ⟨v, rfl, zs, hz, hF⟩
    have HF : Hid (zs.length ≤ 1000 ∧ Own w.heap.size v zs w4 ∧ Below w.heap.size w w4) := ⟨by omega, hF.1.mono D3.out.2.size, D3.out.2.trans (hF.2.1.2.below (Nat.le_refl _) D3.out.2.size)⟩
    clear hz hF D3
    go_wp2_with fail
    go_ret
    exact ⟨_, rfl, zs, HF.out⟩
  · go_wp2_with fail
    refine (n_any _ 3 _ D2.out.1 (by omega)).mono ?_
    rintro e w3 ⟨⟨u, rfl, u0, u1, u2⟩, hD⟩
    have u3 : u < 3 := u1 (by omega)
    have D3 : Hid (Src w.heap.size w3 ∧ Below w.heap.size w w3) := ⟨hD.1, D2.out.2.trans (hD.2.below (Nat.le_refl _) D2.out.2.size)⟩
    clear hD u1 u2 D2
    go_wp2_with fail
    refine (floats_any _ (399 + u) (by omega) (by omega) _ D3.out.1).mono ?_
    rintro e w4 ⟨v, rfl, zs, hz, hF⟩
    have HF : Hid (zs.length ≤ 1000 ∧ Own w.heap.size v zs w4 ∧ Below w.heap.size w w4) := ⟨by omega, hF.1.mono D3.out.2.size, D3.out.2.trans (hF.2.1.2.below (Nat.le_refl _) D3.out.2.size)⟩
    clear hz hF D3
    go_wp2_with fail
    go_ret
    exact ⟨_, rfl, zs, HF.out⟩
end Go.Proofs.Ytemmmhkjjcmcmaa
