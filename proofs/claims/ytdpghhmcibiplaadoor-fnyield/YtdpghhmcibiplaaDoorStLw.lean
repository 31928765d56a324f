/-
  The laws' copies and sums of lists of numbers.
-/
import Derived.Test.YtdpghhmcibiplaaDoorStDr
namespace Go.Proofs.YtdpghhmcibiplaaDoor
open Go.RowKit Go.Deep

def inVsS (f : Nat → Int) (n : Nat) : List Value := (listOf f n).map (Value.int .i64)
set_option maxRecDepth 100000 in
set_option maxHeartbeats 2000000 in
theorem lwCopyS_any (b n cap : Nat) (f : Nat → Int) (w : World) (h : InBlk b n f w) (hn2 : n ≤ 1000) :
    Calls Tryd.prog 28 #[.slice (some ⟨b, 0, none⟩) n cap] w fun e w' => (∃ a c, e = .returned (.slice a n c) ∧ IntsAt a n f w') ∧ Below w.heap.size w w' := by
  obtain ⟨i0, hi, hz0, hz1, hz2⟩ := info_parts dinfo_i64
  have H := Lib.hid h
  clear h
  go_enter Tryd.func28, Tryd.ntmps28
  go_wp2_with (at_builtin; refine wpList_append_own _ rfl _ _ 23 rfl w.heap.size 2 i0 (.int .i64 0) 1 8 Tryd.underlying23 hi hz0 hz1 hz2 rfl (by decide) _ _ _ rfl (World.ownsRow_made w #[] 0 (Nat.le_refl _) (Nat.zero_le _) rfl) ⟨b, 0, none⟩ n cap (inVsS f n) rfl ?qc1 ?qc2 ?qc3 ?qc4 ?qc5 ?qc6 ?_)
  case qc1 => simp [inVsS, listOf_len]
  case qc2 =>
    intro j u hj
    have hjn : j < n := by
      have := (List.getElem?_eq_some_iff.1 hj).1
      simpa [inVsS, listOf_len] using this
    rw [Addr.add_lit]
    refine Lib.cell?_alloc_some _ ?_
    rw [Nat.zero_add, H.out.cell hjn, ← hj]
    simp [inVsS, listOf, hjn]
  case qc3 =>
    intro u hu
    unfold inVsS at hu
    obtain ⟨x, _, rfl⟩ := List.mem_map.1 hu
    rfl
  case qc4 => unfold maxLen; omega
  case qc5 => omega
  case qc6 => simp
  intro v' w1 hown hgrow hnil
  have HB : Hid (Below w.heap.size w w1) := ((Below.refl _ w).alloc (Nat.le_refl _) _).grown hgrow (by simp) (by intro k hk; simp [Value.ownBlock] at hk; omega)
  have hown' : w1.ownsRow w.heap.size 2 1 v' n (inVsS f n) := by simpa using hown
  have h' : w1.ownsRow w.heap.size 2 1 v' (listOf f n).length ((listOf f n).map (Value.int .i64)) := by rw [listOf_len]; exact hown'
  have hres : ∃ a c, v' = .slice a n c ∧ IntsAt a n f w1 := by
    rcases own_ints h' with ⟨e1, e2⟩ | ⟨g, c, e1, hg, hblk⟩
    · have hn : n = 0 := by have := congrArg List.length e2; simpa [listOf_len] using this
      exact ⟨none, 0, by rw [e1, hn], Or.inl hn⟩
    · rw [listOf_len] at e1 hblk
      exact ⟨_, c, e1, (hblk.congr (fun j hj => inList_of f hj)).at_⟩
  obtain ⟨a, c, rfl, hia⟩ := hres
  have HIA := Lib.hid hia
  clear hown hown' h' hgrow hnil hia
  go_wp2_with fail
  go_ret
  exact ⟨⟨a, c, rfl, HIA.out⟩, HB.out⟩
set_option maxRecDepth 100000 in
set_option maxHeartbeats 2000000 in
theorem lwCopyNil_any (w : World) :
    Calls Tryd.prog 28 #[.slice none 0 0] w fun e w' => (∃ a c, e = .returned (.slice a 0 c)) ∧ Below w.heap.size w w' := by
  go_enter Tryd.func28, Tryd.ntmps28
  go_wp2_with fail
  go_ret
  exact ⟨⟨_, _, rfl⟩, (Below.refl _ _).alloc (Nat.le_refl _) _⟩
set_option maxRecDepth 100000 in
set_option maxHeartbeats 2000000 in
theorem lwSumS_any (a : Option Addr) (n cap : Nat) (f : Nat → Int) (w : World) (h : IntsAt a n f w) (hn : n ≤ 400) (hf : St.FlowsOk n f) :
    Calls Tryd.prog 37 #[.slice a n cap] w fun e w' => e = .returned (.int .i64 (St.sumTo f n)) ∧ w' = w := by
  have H := Lib.hid h
  have HF := Lib.hid hf
  clear h hf
  go_enter Tryd.func37, Tryd.ntmps37
  go_wp2_with fail
  go_loopw [3, 4] (fun sv iv wr => ∃ (i : Nat), i ≤ n ∧ iv = .int .i64 i ∧ sv = .int .i64 (St.sumTo f i) ∧ Hid (wr = w)) (fun _ iv _ => n - (intOf iv).toNat)
  case atStart => exact ⟨0, Nat.zero_le _, rfl, rfl, rfl⟩
  case round =>
    obtain ⟨i, hi, rfl, rfl, hW⟩ := hrel
    obtain rfl := hW.out
    clear hW
    by_cases hlt : i < n
    · have hltz : (i : Int) < (n : Int) := by omega
      obtain ⟨b, rfl, c0⟩ := H.out.at_ hlt
      have hs := St.sumTo_bounds HF.out i (by omega)
      have hx := HF.out i hlt
      unfold St.FlowOk at hx
      obtain ⟨s, hse⟩ : ∃ s, s = St.sumTo f i := ⟨_, rfl⟩
      rw [← hse] at hs ⊢
      have HS : Hid (s + f i = St.sumTo f (i + 1)) := by show _ = _; rw [hse]; rfl
      have hs0 := hs.1
      have hs1 : s ≤ 400000000 := by omega
      have hx0 := hx.1
      have hx1 := hx.2
      clear hse hs hx
      go_wp2_with fail
      go_roundw
      case rel => exact ⟨i + 1, by omega, by go_num, by rw [HS.out], by first | exact rfl | exact (trivial : True)⟩
      case measure => simp [intOf]; omega
    · obtain rfl : i = n := by omega
      go_wp2_with fail
      go_ret
      exact ⟨rfl, rfl⟩
end Go.Proofs.YtdpghhmcibiplaaDoor
