/-
  The contracts of the draws of a fraction and of a fraction's text out of bytes.
-/
import Derived.Test.YtemmmhkjjcmcmaaDoorSDraw
import Derived.Test.YtemmmhkjjcmcmaaDoorSource
import Derived.Test.YtemmmhkjjcmcmaaDoorTwo
import Derived.Test.YtemmmhkjjcmcmaaDoorReadImpl
namespace Go.Proofs.YtemmmhkjjcmcmaaDoor
open Go.RowKit

theorem Slot.draw {w W W' : World} {sb : Nat} (h : Slot w W) (hd : Drew sb W W') (hsb : w.heap.size + 1 ≤ sb) : Slot w W' := Below.trans h (hd.2.below hsb h.size)

set_option maxRecDepth 100000 in
set_option maxHeartbeats 1000000 in
theorem drawText_any (a : Option Addr) (len cap : Nat) (w : World) (h : Bytes a len w) (hl : len ≤ 1048576) :
    Calls Tryd.prog 15 #[.slice a len cap] w fun e w' => (∃ n d, e = .returned (.agg #[.int .i64 n, .int .i64 d]) ∧ In64 n ∧ In64 d) ∧ Below w.heap.size w w' := by
  have H : Hid (Bytes a len w) := h
  clear h
  go_enter Tryd.func15, Tryd.ntmps15
  go_wp2_with fail
  have S0 := Slot.start w
  refine (source_any a len cap _ (H.out.below S0.below) hl).mono ?_
  rintro e w1 ⟨rfl, hS1, hB1⟩
  have e2 : (w.alloc (.cells #[.int .i64 0, .int .i64 0] 24)).heap.size = w.heap.size + 1 := by simp
  have S1 : Hid (Slot w w1) := S0.next hB1
  rw [e2] at hS1 ⊢
  clear e2
  have HS1 := Lib.hid hS1
  clear hS1 hB1 S0
  go_wp2_with fail
  refine (frac_any _ _ HS1.out).mono ?_
  rintro e w2 ⟨⟨n, d, rfl, k1, k2, k3, k4⟩, hD⟩
  have S2 : Hid (Slot w w2) := S1.out.draw hD (Nat.le_refl _)
  clear hD S1 HS1
  obtain ⟨s0, s1, f0, f1, hz2⟩ := kept2 S2.out
  have HB : Hid (Below w.heap.size w w2) := S2.out.below
  clear S2
  go_wp2_with fail
  exact bodyPost_ret (v := .agg #[.int .i64 n, .int .i64 d]) (by simp [results, Tryd.results15, go_sem, s0, s1]) rfl ⟨⟨n, d, rfl, ⟨k1, k2⟩, ⟨k3, k4⟩⟩, below_set2 HB.out (Nat.le_refl _) _ _⟩

theorem M.textL_len (n d : Int) : (M.textL n d).length ≤ 8589934592 := by
  unfold M.textL
  cases hr : M.rightB n d
  · simp
  · have b := M.right_bd hr
    have h1 := M.itoa_len n b.1 b.2.1
    have h2 := M.itoa_len d b.2.2.1 b.2.2.2
    rw [if_pos rfl]
    split
    · omega
    · simp; omega

/-- A source in the first new block, and nothing old changed. -/
def DS (w W : World) : Prop := Src w.heap.size W ∧ Below w.heap.size w W
theorem DS.draw {w W W' : World} (h : DS w W) (hd : Drew w.heap.size W W') : DS w W' := ⟨hd.1, h.2.trans (hd.2.below (Nat.le_refl _) h.2.size)⟩
theorem DS.below {w W W' : World} (h : DS w W) (hb : Below W.heap.size W W') : DS w W' := ⟨h.1.below hb, h.2.trans (hb.mono h.2.size)⟩

def strs : Array Value := #[.string ⟨#[]⟩, .string ⟨#[45]⟩, .string ⟨#[48, 47, 49]⟩, .string ⟨#[50, 47, 52]⟩, .string ⟨#[45, 48]⟩, .string ⟨#[49, 47, 48]⟩, .string ⟨#[48, 49]⟩, .string ⟨#[49, 47, 45, 50]⟩, .string ⟨#[50, 49, 52, 55, 52, 56, 51, 54, 52, 56]⟩, .string ⟨#[49, 47, 50, 49, 52, 55, 52, 56, 51, 54, 52, 56]⟩, .string ⟨#[50, 49, 52, 55, 52, 56, 51, 54, 52, 55, 47, 50, 49, 52, 55, 52, 56, 51, 54, 52, 54]⟩, .string ⟨#[57, 57, 57, 57, 57, 57, 57, 57, 57, 57, 57]⟩]
theorem strs_at (i : Nat) (h : i < 12) : ∃ s, strs[i]? = some (.string s) := by
  have hv : i = 0 ∨ i = 1 ∨ i = 2 ∨ i = 3 ∨ i = 4 ∨ i = 5 ∨ i = 6 ∨ i = 7 ∨ i = 8 ∨ i = 9 ∨ i = 10 ∨ i = 11 := by omega
  rcases hv with h | h | h | h | h | h | h | h | h | h | h | h <;> (subst h; exact ⟨_, rfl⟩)

set_option maxRecDepth 100000 in
set_option maxHeartbeats 2000000 in
theorem drawRead_any (a : Option Addr) (len cap : Nat) (w : World) (h : Bytes a len w) (hl : len ≤ 1048576) :
    Calls Tryd.prog 18 #[.slice a len cap] w fun e w' => (∃ s, e = .returned (.string s)) ∧ Below w.heap.size w w' := by
  have H : Hid (Bytes a len w) := h
  clear h
  go_enter Tryd.func18, Tryd.ntmps18
  go_wp2_with fail
  refine (source_any a len cap _ H.out hl).mono ?_
  rintro e w1 ⟨rfl, hS1, hB1⟩
  have D1 : Hid (DS w w1) := ⟨hS1, hB1⟩
  clear hS1 hB1 H
  go_wp2_with fail
  refine (frac_any _ _ D1.out.1).mono ?_
  rintro e w2 ⟨⟨n, d, rfl, k1, k2, k3, k4⟩, hD⟩
  have D2 : Hid (DS w w2) := D1.out.draw hD
  clear hD D1
  go_wp2_with fail
  refine (specText_any n d _).mono ?_
  rintro e w3 ⟨rfl, hb⟩
  have D3 : Hid (DS w w3) := D2.out.below hb
  clear hb D2
  obtain ⟨T, hT⟩ : ∃ T : ByteArray, T = ⟨(M.textL n d).toArray⟩ := ⟨_, rfl⟩
  have hTs : T.size ≤ 8589934592 := by rw [hT]; show (M.textL n d).toArray.size ≤ _; have := M.textL_len n d; simpa using this
  rw [← hT]
  clear hT
  go_wp2_with fail
  refine (one_any _ _ _ D3.out.1 (by omega)).mono ?_
  rintro e w4 ⟨⟨b, rfl⟩, hD⟩
  have D4 : Hid (DS w w4) := D3.out.draw hD
  clear hD D3
  cases b
  · skip
    go_wp2_with fail
    refine (one_any _ _ _ D4.out.1 (by omega)).mono ?_
    rintro e w5 ⟨⟨b, rfl⟩, hD⟩
    have D5 : Hid (DS w w5) := D4.out.draw hD
    clear hD D4
    cases b
    · go_wp2_with fail
      go_ret
      exact ⟨⟨_, rfl⟩, D5.out.2⟩
    · have D6 : Hid (DS w (w5.alloc (.cells strs 9))) := D5.out.below ((Below.refl _ _).alloc (Nat.le_refl _) _)
      have hne : w5.heap.size ≠ w.heap.size := by have := D5.out.1.lt; omega
      have hcs : ∀ i, i < 12 → ∃ s, (w5.alloc (.cells strs 9)).cell? ⟨w5.heap.size, i, none⟩ = some (.string s) := fun i hi => by
        obtain ⟨s, hs⟩ := strs_at i hi
        exact ⟨s, by simpa using hs⟩
      have HCS := Lib.hid hcs
      have Hne := Lib.hid hne
      clear hcs hne D5
      go_wp2_with fail
      refine (pick_any _ _ 12 _ (by omega) (by omega) _ D6.out.1 Hne.out HCS.out).mono ?_
      rintro e w7 ⟨⟨s, rfl⟩, hD⟩
      have D7 : Hid (DS w w7) := D6.out.draw hD
      clear hD D6 HCS
      go_wp2_with fail
      go_ret
      exact ⟨⟨_, rfl⟩, D7.out.2⟩
  · go_wp2_with fail
    refine (spoil_any _ T hTs _ D4.out.1).mono ?_
    rintro e w8 ⟨⟨T2, rfl⟩, hD⟩
    have D8 : Hid (DS w w8) := D4.out.draw hD
    clear hD D4 hTs
    go_wp2_with fail
    refine (one_any _ _ _ D8.out.1 (by omega)).mono ?_
    rintro e w5 ⟨⟨b, rfl⟩, hD⟩
    have D5 : Hid (DS w w5) := D8.out.draw hD
    clear hD D8
    cases b
    · go_wp2_with fail
      go_ret
      exact ⟨⟨_, rfl⟩, D5.out.2⟩
    · have D6 : Hid (DS w (w5.alloc (.cells strs 9))) := D5.out.below ((Below.refl _ _).alloc (Nat.le_refl _) _)
      have hne : w5.heap.size ≠ w.heap.size := by have := D5.out.1.lt; omega
      have hcs : ∀ i, i < 12 → ∃ s, (w5.alloc (.cells strs 9)).cell? ⟨w5.heap.size, i, none⟩ = some (.string s) := fun i hi => by
        obtain ⟨s, hs⟩ := strs_at i hi
        exact ⟨s, by simpa using hs⟩
      have HCS := Lib.hid hcs
      have Hne := Lib.hid hne
      clear hcs hne D5
      go_wp2_with fail
      refine (pick_any _ _ 12 _ (by omega) (by omega) _ D6.out.1 Hne.out HCS.out).mono ?_
      rintro e w7 ⟨⟨s, rfl⟩, hD⟩
      have D7 : Hid (DS w w7) := D6.out.draw hD
      clear hD D6 HCS
      go_wp2_with fail
      go_ret
      exact ⟨⟨_, rfl⟩, D7.out.2⟩
end Go.Proofs.YtemmmhkjjcmcmaaDoor
