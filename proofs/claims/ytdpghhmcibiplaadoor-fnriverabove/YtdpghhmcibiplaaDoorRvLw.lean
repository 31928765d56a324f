/-
  The contracts of the laws' small functions on lists of numbers.
-/
import Derived.Test.YtdpghhmcibiplaaDoorRvOwn
namespace Go.Proofs.YtdpghhmcibiplaaDoor
open Go.RowKit Go.Deep

set_option maxRecDepth 100000 in
set_option maxHeartbeats 2000000 in
theorem lwCopy_any (b n cap : Nat) (f : Nat → Int) (w : World) (h : InBlk b n f w) (hn : 1 ≤ n) (hn2 : n ≤ 1000) :
    Calls Tryd.prog 28 #[.slice (some ⟨b, 0, none⟩) n cap] w fun e w' => (∃ g c, e = .returned (.slice (some ⟨g, 0, none⟩) n c) ∧ w.heap.size ≤ g ∧ InBlk g n f w') ∧ Below w.heap.size w w' := by
  obtain ⟨i0, hi, hz0, hz1, hz2⟩ := info_parts info_i64
  have H := Lib.hid h
  clear h
  go_enter Tryd.func28, Tryd.ntmps28
  go_wp2_with (at_builtin; refine wpList_append_own _ rfl _ _ 23 rfl w.heap.size 2 i0 (.int .i64 0) 1 8 Tryd.underlying23 hi hz0 hz1 hz2 rfl (by decide) _ _ _ rfl (World.ownsRow_made w #[] 0 (Nat.le_refl _) (Nat.zero_le _) rfl) ⟨b, 0, none⟩ n cap (inVs f n) rfl ?qc1 ?qc2 ?qc3 ?qc4 ?qc5 ?qc6 ?_)
  case qc1 => simp [inVs, listOf_len]
  case qc2 =>
    intro j u hj
    have hjn : j < n := by
      have := (List.getElem?_eq_some_iff.1 hj).1
      simpa [inVs, listOf_len] using this
    rw [Addr.add_lit]
    refine Lib.cell?_alloc_some _ ?_
    rw [Nat.zero_add, H.out.cell hjn, ← hj]
    simp [inVs, listOf, hjn]
  case qc3 =>
    intro u hu
    unfold inVs at hu
    obtain ⟨x, _, rfl⟩ := List.mem_map.1 hu
    rfl
  case qc4 => unfold maxLen; omega
  case qc5 => omega
  case qc6 => simp
  intro v' w1 hown hgrow hnil
  have HB : Hid (Below w.heap.size w w1) := ((Below.refl _ w).alloc (Nat.le_refl _) _).grown hgrow (by simp) (by intro k hk; simp [Value.ownBlock] at hk; omega)
  have hown' : w1.ownsRow w.heap.size 2 1 v' n (inVs f n) := by simpa using hown
  have h' : w1.ownsRow w.heap.size 2 1 v' (listOf f n).length ((listOf f n).map (Value.int .i64)) := by rw [listOf_len]; exact hown'
  rcases own_ints h' with ⟨e1, _⟩ | ⟨g, c, rfl, hg, hblk⟩
  · exact absurd e1 (by simpa using hnil)
  · rw [listOf_len] at *
    have HBK : Hid (InBlk g n f w1) := hblk.congr (fun j hj => inList_of f hj)
    clear hown hown' h' hgrow hnil hblk
    go_wp2_with fail
    go_ret
    exact ⟨⟨g, c, rfl, hg, HBK.out⟩, HB.out⟩

set_option maxRecDepth 100000 in
set_option maxHeartbeats 2000000 in
theorem lwHas_any (a : Option Addr) (n cap : Nat) (f : Nat → Int) (x : Int) (w : World) (h : IntsAt a n f w) (hn : n ≤ 1048576) (b : Bool) (hb : b = true ↔ ∃ j, j < n ∧ f j = x) :
    Calls Tryd.prog 29 #[.slice a n cap, .int .i64 x] w fun e w' => e = .returned (.bool b) ∧ w' = w := by
  have H := Lib.hid h
  have HB := Lib.hid hb
  clear h hb
  go_enter Tryd.func29, Tryd.ntmps29
  go_wp2_with fail
  go_loopw [5] (fun iv wr => ∃ (i : Nat), i ≤ n ∧ iv = .int .i64 i ∧ Hid (wr = w) ∧ Hid (∀ j, j < i → f j ≠ x)) (fun iv _ => n - (intOf iv).toNat)
  case atStart => exact ⟨0, Nat.zero_le _, rfl, rfl, fun j hj => absurd hj (Nat.not_lt_zero _)⟩
  case round =>
    obtain ⟨i, hi, rfl, hW, hP⟩ := hrel
    obtain rfl := hW.out
    clear hW
    by_cases hlt : i < n
    · have hltz : (i : Int) < (n : Int) := by omega
      obtain ⟨g, rfl, c0⟩ := H.out.at_ hlt
      by_cases e : f i = x
      · have e1 : (f i == x) = true := by simp [e]
        have HT : Hid (b = true) := HB.out.2 ⟨i, hlt, e⟩
        clear e
        go_wp2_with fail
        go_ret
        exact ⟨by rw [HT.out]; rfl, rfl⟩
      · have e1 : (f i == x) = false := by simp [e]
        have HE : Hid (f i ≠ x) := e
        clear e
        go_wp2_with fail
        go_roundw
        case rel =>
          refine ⟨i + 1, by omega, by go_num, by first | exact rfl | exact (trivial : True), fun j hj => ?_⟩
          by_cases e2 : j = i
          · subst e2; exact HE.out
          · exact hP.out j (by omega)
        case measure => simp [intOf]; omega
    · obtain rfl : i = n := by omega
      have HF : Hid (b = false) := by
        cases b with
        | false => exact rfl
        | true => obtain ⟨j, h1, h2⟩ := HB.out.1 rfl; exact absurd h2 (hP.out j h1)
      go_wp2_with fail
      go_ret
      exact ⟨by rw [HF.out]; rfl, rfl⟩
end Go.Proofs.YtdpghhmcibiplaaDoor
