/-
  The law FnExactRenewTableRight.
-/
import Derived.Test.YtbkpedcabbppbaaRnT6
import Derived.Test.YtbkpedcabbppbaaRnSt
namespace Go.Proofs.Ytbkpedcabbppbaa
open Go.RowKit Go.Deep

set_option maxRecDepth 100000 in
set_option maxHeartbeats 8000000 in
theorem renewTableRight_law (w : World) (a : Option Addr) (n k : Nat) (f : Nat → Int) (h : IsIn a (n * 2) f w) (hn9 : n ≤ 9223372036854775807) (z : Int) (ta : Option Addr) (m tc : Nat) (LN : Nat → Nat) (L : Nat → Nat → Int) (ht : LsIn ta m LN L w) (hm9 : m ≤ 9223372036854775807) (hl9 : ∀ i, i < m → LN i ≤ 9223372036854775807) :
    Calls Try.prog 5 #[.slice a n k, .int .i64 z, .slice ta m tc] w fun e w' => e = .returned (.bool true) ∧ Below w.heap.size w w' := by
  by_cases hn : n ≤ 1048576
  case neg =>
    clear h ht hl9
    go_enter Try.func5, Try.ntmps5
    go_wp2_with fail
    refine (nszAsset_over a n k 1048576 _ (by omega) (by omega) hn9).mono ?_
    rintro e w1 ⟨rfl, rfl⟩
    go_wp2_with fail
    go_ret
    exact ⟨rfl, Below.refl _ _⟩
  have H := Lib.hid h
  have HT := Lib.hid ht
  have HL9 := Lib.hid hl9
  have HB : Hid (Below w.heap.size w w) := Below.refl _ _
  clear h hn9 ht hl9
  go_enter Try.func5, Try.ntmps5
  go_wp2_with fail
  refine (nszAsset_in a n k 1048576 _ hn (by omega)).mono ?_
  rintro e w1 ⟨rfl, hw⟩
  subst w1
  obtain ⟨left, hleft⟩ : ∃ left : Nat, left = 1048576 - n := ⟨_, rfl⟩
  rw [← hleft]
  have hleftz : ¬ (left : Int) < 0 := by omega
  have hleft1 : left ≤ 1048576 := by omega
  clear hleft
  go_wp2_with fail
  refine (mszSS_any ta m tc LN L left _ HT.out hm9 hleft1 HL9.out).mono ?_
  rintro e w1 ⟨⟨z2, rfl, hz2⟩, hw⟩
  subst w1
  rcases hz2 with hz2 | ⟨hz2, hz3⟩
  · go_wp2_with fail
    go_ret
    exact ⟨rfl, HB.out⟩
  have hz20 : ¬ z2 < 0 := by omega
  have hm : m ≤ 1048576 := by omega
  have HL : Hid (∀ i, i < m → LN i ≤ 1048576) := fun i hi => by have := Mn.le_tot LN hi; omega
  clear hz2 hz3 HL9 hm9 hleftz
  go_wp2_with fail
  refine (ntoAssetS_any a n k f _ (H.out.below HB.out) hn).mono ?_
  rintro e w2 ⟨⟨rfl, hx⟩, hb⟩
  replace HB : Hid (Below w.heap.size w w2) := HB.out.trans (hb.mono HB.out.size)
  have HX := Lib.hid hx
  clear hb
  clear hx
  go_wp2_with fail
  refine (mtoSS_any ta m tc LN L _ (HT.out.below HB.out) hm HL.out).mono ?_
  rintro e w3 ⟨⟨rfl, hx⟩, hb⟩
  replace HB : Hid (Below w.heap.size w w3) := HB.out.trans (hb.mono HB.out.size)
  replace HX := Lib.hid (HX.out.below hb)
  have HY := Lib.hid hx
  clear hb
  clear hx
  go_wp2_with fail
  refine (specTR_any _ n n f z _ m m LN L _ HX.out.at_ hn HY.out.at_ hm HL.out).mono ?_
  rintro e w4 ⟨rfl, hb⟩
  replace HB : Hid (Below w.heap.size w w4) := HB.out.trans (hb.mono HB.out.size)
  clear HX
  clear HY
  clear hb
  obtain ⟨bb, hbb⟩ : ∃ bb, bb = dB (Rn.TbOk n f z m LN L) := ⟨_, rfl⟩
  have HBB := Lib.hid hbb
  rw [← hbb]
  clear hbb
  go_wp2_with fail
  refine (ntoAssetS_any a n k f _ (H.out.below HB.out) hn).mono ?_
  rintro e w5 ⟨⟨rfl, hx⟩, hb⟩
  replace HB : Hid (Below w.heap.size w w5) := HB.out.trans (hb.mono HB.out.size)
  have HX := Lib.hid hx
  clear hb
  clear hx
  go_wp2_with fail
  refine (mtoSS_any ta m tc LN L _ (HT.out.below HB.out) hm HL.out).mono ?_
  rintro e w6 ⟨⟨rfl, hx⟩, hb⟩
  replace HB : Hid (Below w.heap.size w w6) := HB.out.trans (hb.mono HB.out.size)
  replace HX := Lib.hid (HX.out.below hb)
  have HY := Lib.hid hx
  clear hb
  clear hx
  go_wp2_with fail
  refine (implTR_any _ n n f z _ m m LN L _ HX.out.at_ hn HY.out.at_ hm HL.out).mono ?_
  rintro e w7 ⟨rfl, hb⟩
  replace HB : Hid (Below w.heap.size w w7) := HB.out.trans (hb.mono HB.out.size)
  replace HX := Lib.hid (HX.out.below hb)
  replace HY := Lib.hid (HY.out.below hb)
  clear hb
  rw [← HBB.out]
  cases bb
  · go_wp2_with fail
    refine (ntoAssetS_any a n k f _ (H.out.below HB.out) hn).mono ?_
    rintro e w8 ⟨⟨rfl, hx⟩, hb⟩
    replace HB : Hid (Below w.heap.size w w8) := HB.out.trans (hb.mono HB.out.size)
    replace HX := Lib.hid (HX.out.below hb)
    replace HY := Lib.hid (HY.out.below hb)
    have HX2 := Lib.hid hx
    clear hb
    clear hx
    go_wp2_with fail
    refine (neqAssetS_same _ _ n n n f _ HX.out.at_ HX2.out.at_ hn).mono ?_
    rintro e w9 ⟨rfl, hb⟩
    replace HB : Hid (Below w.heap.size w w9) := HB.out.trans (hb.mono HB.out.size)
    clear HX
    clear HX2
    replace HY := Lib.hid (HY.out.below hb)
    clear hb
    go_wp2_with fail
    refine (mtoSS_any ta m tc LN L _ (HT.out.below HB.out) hm HL.out).mono ?_
    rintro e wa ⟨⟨rfl, hx⟩, hb⟩
    replace HB : Hid (Below w.heap.size w wa) := HB.out.trans (hb.mono HB.out.size)
    replace HY := Lib.hid (HY.out.below hb)
    have HY2 := Lib.hid hx
    clear hb
    clear hx
    go_wp2_with fail
    refine (meqSS_same _ _ m m m LN L _ HY.out.at_ HY2.out.at_ hm HL.out).mono ?_
    rintro e wb ⟨rfl, hb⟩
    replace HB : Hid (Below w.heap.size w wb) := HB.out.trans (hb.mono HB.out.size)
    clear HY
    clear HY2
    clear hb
    go_wp2_with fail
    go_ret
    exact ⟨rfl, HB.out⟩
  · go_wp2_with fail
    refine (ntoAssetS_any a n k f _ (H.out.below HB.out) hn).mono ?_
    rintro e w8 ⟨⟨rfl, hx⟩, hb⟩
    replace HB : Hid (Below w.heap.size w w8) := HB.out.trans (hb.mono HB.out.size)
    replace HX := Lib.hid (HX.out.below hb)
    replace HY := Lib.hid (HY.out.below hb)
    have HX2 := Lib.hid hx
    clear hb
    clear hx
    go_wp2_with fail
    refine (neqAssetS_same _ _ n n n f _ HX.out.at_ HX2.out.at_ hn).mono ?_
    rintro e w9 ⟨rfl, hb⟩
    replace HB : Hid (Below w.heap.size w w9) := HB.out.trans (hb.mono HB.out.size)
    clear HX
    clear HX2
    replace HY := Lib.hid (HY.out.below hb)
    clear hb
    go_wp2_with fail
    refine (mtoSS_any ta m tc LN L _ (HT.out.below HB.out) hm HL.out).mono ?_
    rintro e wa ⟨⟨rfl, hx⟩, hb⟩
    replace HB : Hid (Below w.heap.size w wa) := HB.out.trans (hb.mono HB.out.size)
    replace HY := Lib.hid (HY.out.below hb)
    have HY2 := Lib.hid hx
    clear hb
    clear hx
    go_wp2_with fail
    refine (meqSS_same _ _ m m m LN L _ HY.out.at_ HY2.out.at_ hm HL.out).mono ?_
    rintro e wb ⟨rfl, hb⟩
    replace HB : Hid (Below w.heap.size w wb) := HB.out.trans (hb.mono HB.out.size)
    clear HY
    clear HY2
    clear hb
    go_wp2_with fail
    go_ret
    exact ⟨rfl, HB.out⟩
end Go.Proofs.Ytbkpedcabbppbaa
