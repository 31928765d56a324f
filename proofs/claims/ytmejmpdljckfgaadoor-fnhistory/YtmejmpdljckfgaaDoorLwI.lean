/-
  The laws' own small functions over lists of numbers and of points.
-/
import Derived.Test.YtmejmpdljckfgaaDoorNtMem
import Derived.Test.YtmejmpdljckfgaaDoorLnMem
import Derived.Test.YtmejmpdljckfgaaDoorReg
import Derived.Maps.AppendAt
import Derived.Deep.DeepCutAuto
import Derived.Deep.QuietTactic
import Derived.BigQuiet
namespace Go.Proofs.YtmejmpdljckfgaaDoor
open Go Go.RowKit Go.Deep

theorem lwinfo_i64 : (Tryd.prog.info? 2).map (fun i => (i.zero, i.size, i.bytes)) = some (some (.int .i64 0), 1, 8) := by kernel_rfl
set_option maxRecDepth 100000 in
set_option maxHeartbeats 2000000 in
theorem nsame_same (a b : Option Addr) (n ca cb : Nat) (f : Nat → Int) (w : World) (h1 : IsAt a n f w) (h2 : IsAt b n f w) (hn : n ≤ 1048576) :
    Calls Tryd.prog 26 #[.slice a n ca, .slice b n cb] w fun e w' => e = .returned (.bool true) ∧ Below w.heap.size w w' := by
  have H1 := Lib.hid h1
  have H2 := Lib.hid h2
  clear h1 h2
  go_enter Tryd.func26, Tryd.ntmps26
  go_wp2_with fail
  go_loopw [5] (fun iv wr => ∃ (i : Nat), i ≤ n ∧ iv = .int .i64 i ∧ Hid (Below w.heap.size w wr)) (fun iv _ => n - (intOf iv).toNat)
  case atStart => exact ⟨0, Nat.zero_le _, rfl, Below.refl _ _⟩
  case round =>
    obtain ⟨i, hi, rfl, hB⟩ := hrel
    by_cases hlt : i < n
    · have hltz : (i : Int) < (n : Int) := by omega
      obtain ⟨b1, rfl, k1⟩ := (H1.out.below hB.out).at1 hlt
      obtain ⟨b2, rfl, k2⟩ := (H2.out.below hB.out).at1 hlt
      go_wp2_with fail
      go_region
      go_wp2_with fail
      go_roundw
      case rel => exact ⟨i + 1, by omega, by go_num, hB.out.drew⟩
      case measure => simp [intOf]; omega
    · obtain rfl : i = n := by omega
      go_wp2_with fail
      go_ret
      exact ⟨rfl, hB.out⟩
set_option maxRecDepth 100000 in
set_option maxHeartbeats 2000000 in
theorem ncopy_any (a : Option Addr) (m cap : Nat) (f : Nat → Int) (w : World) (h : IsAt a m f w) (hm : m ≤ 1000) (ha : a = none → cap = 0) :
    Calls Tryd.prog 20 #[.slice a m cap] w fun e w' => (∃ g c, e = .returned (.slice (some ⟨g, 0, none⟩) m c) ∧ w.heap.size ≤ g ∧ IsAt (some ⟨g, 0, none⟩) m f w') ∧ Below w.heap.size w w' := by
  obtain ⟨i0, hi, hz0, hz1, hz2⟩ := info_parts lwinfo_i64
  have H := Lib.hid h
  clear h
  obtain ⟨ab, hab⟩ : ∃ ab : Addr, (a = some ab ∨ (a = none ∧ m = 0)) ∧ ∀ j, j < m → w.cell? (ab.add j) = some (.int .i64 (f j)) := by
    by_cases hm0 : m = 0
    · subst hm0
      cases a with
      | none => exact ⟨⟨0, 0, none⟩, Or.inr ⟨rfl, rfl⟩, fun j hj => absurd hj (Nat.not_lt_zero _)⟩
      | some b => exact ⟨b, Or.inl rfl, fun j hj => absurd hj (Nat.not_lt_zero _)⟩
    · obtain ⟨b, e, _⟩ := H.out.at1 (show 0 < m by omega)
      refine ⟨_, Or.inl e, fun j hj => ?_⟩
      obtain ⟨b', e', c'⟩ := H.out.at1 hj
      rw [e] at e'
      cases e'
      rw [Addr.add_lit]
      simpa using c'
  obtain ⟨ho, hcl⟩ := hab
  rcases ho with rfl | ⟨rfl, rfl⟩
  case inr =>
    obtain rfl := ha rfl
    go_enter Tryd.func20, Tryd.ntmps20
    go_wp2_with fail
    go_ret
    exact ⟨⟨w.heap.size, ⟨0, rfl⟩, Nat.le_refl _, Or.inl rfl⟩, (Below.refl _ _).alloc (Nat.le_refl _) _⟩
  have HC := Lib.hid hcl
  clear hcl
  go_enter Tryd.func20, Tryd.ntmps20
  go_wp2_with (at_builtin; refine wpList_append_own _ rfl _ _ 56 rfl w.heap.size 2 i0 (.int .i64 0) 1 8 Tryd.underlying56 hi hz0 hz1 hz2 rfl (by decide) _ _ _ rfl (World.ownsRow_made w #[] 0 (Nat.le_refl _) (Nat.zero_le _) rfl) ab m cap ((List.range m).map fun j => Value.int .i64 (f j)) rfl ?qc1 ?qc2 ?qc3 ?qc4 ?qc5 ?qc6 ?_)
  case qc1 => simp
  case qc2 =>
    intro j u hj
    have hjn : j < m := by
      have := (List.getElem?_eq_some_iff.1 hj).1
      simpa using this
    refine Lib.cell?_alloc_some _ ?_
    rw [HC.out j hjn, ← hj]
    simp [hjn]
  case qc3 =>
    intro u hu
    obtain ⟨x, _, rfl⟩ := List.mem_map.1 hu
    rfl
  case qc4 => unfold maxLen; omega
  case qc5 => omega
  case qc6 => simp
  intro v' w1 hown hgrow hnil
  have HB : Hid (Below w.heap.size w w1) := ((Below.refl _ w).alloc (Nat.le_refl _) _).grown hgrow (by simp) (by intro k hk; simp [Value.ownBlock] at hk; omega)
  rcases hown.2 with ⟨e1, _⟩ | ⟨g, c, cur, e1, h2, h3, _, _, h6, h7⟩
  · exact absurd e1 (by simpa using hnil)
  · subst e1
    have HAT : Hid (IsAt (some ⟨g, 0, none⟩) m f w1) := Or.inr ⟨g, rfl, fun j hj => by
      have e2 : (cur.toList.take (m * 1))[j]? = some (.int .i64 (f j)) := by
        rw [h7]
        simp [hj]
      rw [List.getElem?_take_of_lt (by omega), Array.getElem?_toList] at e2
      rw [cell_of_row w1 g j cur _ (0, 0) h3, e2]⟩
    clear hown hgrow hnil h3 h6 h7
    go_wp2_with fail
    go_ret
    exact ⟨⟨g, c, rfl, h2, HAT.out⟩, HB.out⟩
set_option maxRecDepth 100000 in
set_option maxHeartbeats 4000000 in
theorem lwPts_same (a b : Option Addr) (n ca cb : Nat) (f : Nat → Int) (w : World) (h1 : IsAt a (n * 2) f w) (h2 : IsAt b (n * 2) f w) (hn : n ≤ 1048576) :
    Calls Tryd.prog 25 #[.slice a n ca, .slice b n cb] w fun e w' => e = .returned (.bool true) ∧ Below w.heap.size w w' := by
  have H1 := Lib.hid h1
  have H2 := Lib.hid h2
  clear h1 h2
  have hnn : ((n : Int) != (n : Int)) = false := by simp
  go_enter Tryd.func25, Tryd.ntmps25
  go_wp2_with fail
  go_loopw [5] (fun iv wr => ∃ (i : Nat), i ≤ n ∧ iv = .int .i64 i ∧ Hid (Below w.heap.size w wr)) (fun iv _ => n - (intOf iv).toNat)
  case atStart => exact ⟨0, Nat.zero_le _, rfl, Below.refl _ _⟩
  case round =>
    obtain ⟨i, hi, rfl, hB⟩ := hrel
    by_cases hlt : i < n
    · have hltz : (i : Int) < (n : Int) := by omega
      obtain ⟨b1, rfl, k0, k1⟩ := (H1.out.below hB.out).at2 hlt
      obtain ⟨b2, rfl, m0, m1⟩ := (H2.out.below hB.out).at2 hlt
      obtain ⟨x, hx⟩ : ∃ x, x = f (i * 2) := ⟨_, rfl⟩
      obtain ⟨y, hy⟩ : ∃ x, x = f (i * 2 + 1) := ⟨_, rfl⟩
      rw [← hx] at k0 m0
      rw [← hy] at k1 m1
      have HDR : Hid (∀ q : Nat, Below w.heap.size w (wr.drewN q)) := fun q => hB.out.trans ⟨rfl, rfl, rfl, Nat.le_refl _, fun _ _ => rfl⟩
      clear hx hy
      go_wp2_with fail
      go_quiet (fail)
      go_wp2_with fail
      go_roundw
      case rel => exact ⟨i + 1, by omega, by go_num, HDR.out _⟩
      case measure => simp [intOf]; omega
    · obtain rfl : i = n := by omega
      go_wp2_with fail
      go_ret
      exact ⟨rfl, hB.out⟩
end Go.Proofs.YtmejmpdljckfgaaDoor
