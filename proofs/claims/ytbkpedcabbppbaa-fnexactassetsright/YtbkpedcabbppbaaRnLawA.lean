/-
  The law FnExactAssetsRight.
-/
import Derived.Test.YtbkpedcabbppbaaRnEx
import Derived.Test.YtbkpedcabbppbaaRnI1
namespace Go.Proofs.Ytbkpedcabbppbaa
open Go.RowKit Go.Deep

set_option maxRecDepth 100000 in
set_option maxHeartbeats 4000000 in
theorem assetsRight_law (w : World) (a : Option Addr) (n k : Nat) (f : Nat → Int) (h : IsIn a (n * 2) f w) (hn9 : n ≤ 9223372036854775807) :
    Calls Try.prog 3 #[.slice a n k] w fun e w' => e = .returned (.bool true) ∧ Below w.heap.size w w' := by
  by_cases hn : n ≤ 1048576
  case neg =>
    clear h
    go_enter Try.func3, Try.ntmps3
    go_wp2_with fail
    refine (nszAsset_over a n k 1048576 _ (by omega) (by omega) hn9).mono ?_
    rintro e w1 ⟨rfl, rfl⟩
    go_wp2_with fail
    go_ret
    exact ⟨rfl, Below.refl _ _⟩
  have H := Lib.hid h
  have HB : Hid (Below w.heap.size w w) := Below.refl _ _
  clear h hn9
  go_enter Try.func3, Try.ntmps3
  go_wp2_with fail
  refine (nszAsset_in a n k 1048576 _ hn (by omega)).mono ?_
  rintro e w1 ⟨rfl, hw⟩
  subst w1
  obtain ⟨left, hleft⟩ : ∃ left : Nat, left = 1048576 - n := ⟨_, rfl⟩
  rw [← hleft]
  have hleftz : ¬ (left : Int) < 0 := by omega
  clear hleft
  go_wp2_with fail
  refine (ntoAssetS_any a n k f _ (H.out.below HB.out) hn).mono ?_
  rintro e w2 ⟨⟨rfl, hx⟩, hb⟩
  replace HB : Hid (Below w.heap.size w w2) := HB.out.trans (hb.mono HB.out.size)
  have HX := Lib.hid hx
  clear hb
  clear hx
  go_wp2_with fail
  refine (specAssets_any _ n n f _ HX.out.at_ hn).mono ?_
  rintro e w3 ⟨rfl, hb⟩
  replace HB : Hid (Below w.heap.size w w3) := HB.out.trans (hb.mono HB.out.size)
  clear HX
  clear hb
  obtain ⟨bb, hbb⟩ : ∃ bb, bb = dB (Rn.Right n f) := ⟨_, rfl⟩
  have HBB := Lib.hid hbb
  rw [← hbb]
  clear hbb
  go_wp2_with fail
  refine (ntoAssetS_any a n k f _ (H.out.below HB.out) hn).mono ?_
  rintro e w4 ⟨⟨rfl, hx⟩, hb⟩
  replace HB : Hid (Below w.heap.size w w4) := HB.out.trans (hb.mono HB.out.size)
  have HX := Lib.hid hx
  clear hb
  clear hx
  go_wp2_with fail
  refine (implAssets_any _ n n f _ HX.out.at_ hn).mono ?_
  rintro e w5 ⟨rfl, hb⟩
  replace HB : Hid (Below w.heap.size w w5) := HB.out.trans (hb.mono HB.out.size)
  replace HX := Lib.hid (HX.out.below hb)
  clear hb
  rw [← HBB.out]
  cases bb
  · go_wp2_with fail
    refine (ntoAssetS_any a n k f _ (H.out.below HB.out) hn).mono ?_
    rintro e w6 ⟨⟨rfl, hx⟩, hb⟩
    replace HB : Hid (Below w.heap.size w w6) := HB.out.trans (hb.mono HB.out.size)
    replace HX := Lib.hid (HX.out.below hb)
    have HX2 := Lib.hid hx
    clear hb
    clear hx
    go_wp2_with fail
    refine (neqAssetS_same _ _ n n n f _ HX.out.at_ HX2.out.at_ hn).mono ?_
    rintro e w7 ⟨rfl, hb⟩
    replace HB : Hid (Below w.heap.size w w7) := HB.out.trans (hb.mono HB.out.size)
    replace HX := Lib.hid (HX.out.below hb)
    replace HX2 := Lib.hid (HX2.out.below hb)
    clear hb
    go_wp2_with fail
    go_ret
    exact ⟨rfl, HB.out⟩
  · go_wp2_with fail
    refine (ntoAssetS_any a n k f _ (H.out.below HB.out) hn).mono ?_
    rintro e w6 ⟨⟨rfl, hx⟩, hb⟩
    replace HB : Hid (Below w.heap.size w w6) := HB.out.trans (hb.mono HB.out.size)
    replace HX := Lib.hid (HX.out.below hb)
    have HX2 := Lib.hid hx
    clear hb
    clear hx
    go_wp2_with fail
    refine (neqAssetS_same _ _ n n n f _ HX.out.at_ HX2.out.at_ hn).mono ?_
    rintro e w7 ⟨rfl, hb⟩
    replace HB : Hid (Below w.heap.size w w7) := HB.out.trans (hb.mono HB.out.size)
    replace HX := Lib.hid (HX.out.below hb)
    replace HX2 := Lib.hid (HX2.out.below hb)
    clear hb
    go_wp2_with fail
    go_ret
    exact ⟨rfl, HB.out⟩
end Go.Proofs.Ytbkpedcabbppbaa
