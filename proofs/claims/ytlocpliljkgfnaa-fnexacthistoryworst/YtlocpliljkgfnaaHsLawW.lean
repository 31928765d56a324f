/-
  The law FnExactHistoryWorst.
-/
import Derived.Test.YtlocpliljkgfnaaHsFa
import Derived.Test.YtlocpliljkgfnaaHsIn
import Derived.Test.YtlocpliljkgfnaaHsWo
namespace Go.Proofs.Ytlocpliljkgfnaa
open Go.RowKit Go.Deep

set_option maxRecDepth 100000 in
set_option maxHeartbeats 8000000 in
theorem historyWorst_law (w : World) (va : Option Addr) (m vc : Nat) (V : Nat → Int) (hv : IsIn va m V w) (hlv : m ≤ 9223372036854775807) (la : Option Addr) (n cap : Nat) (U : Nat → Int) (h : IsIn la (n * 2) U w) (hl : n ≤ 9223372036854775807) :
    Calls Try.prog 7 #[.slice va m vc, .slice la n cap] w fun e w' => e = .returned (.bool true) ∧ Below w.heap.size w w' := by
  by_cases bigv : (1048576 : Int) < (m : Int)
  · go_enter Try.func7, Try.ntmps7
    go_wp2_with fail
    go_ret
    exact ⟨rfl, Below.refl _ _⟩
  by_cases hbig : 1048576 < n
  · go_enter Try.func7, Try.ntmps7
    go_wp2_with fail
    refine (nszPoint_over la n cap 1048576 _ hbig (by omega) hl).mono ?_
    rintro e w1 ⟨rfl, rfl⟩
    go_wp2_with fail
    go_ret
    exact ⟨rfl, Below.refl _ _⟩
  have hn : n ≤ 1048576 := by omega
  have hm : m ≤ 1048576 := by omega
  have H := Lib.hid h
  have HV := Lib.hid hv
  clear h hv hbig
  have hz : ¬ ((1048576 - n : Nat) : Int) < 0 := by omega
  go_enter Try.func7, Try.ntmps7
  go_wp2_with fail
  refine (nszPoint_in la n cap 1048576 _ hn (by omega)).mono ?_
  rintro e w1 ⟨rfl, rfl⟩
  obtain ⟨x, hx⟩ : ∃ x, x = Hs.off V m U n := ⟨_, rfl⟩
  have HX := Lib.hid hx
  clear hx
  go_wp2_with fail
  refine (ints_conv va m vc V _ HV.out hm).mono ?_
  rintro e w2 ⟨⟨ga, rfl, hlo, hk⟩, hb⟩
  have B2 := Lib.hid hb
  have K0 := Lib.hid hk
  clear hb hk hlo
  go_wp2_with fail
  refine (points_conv la n cap U _ (H.out.below B2.out) hn).mono ?_
  rintro e w3 ⟨⟨gb, rfl, hlo, hk⟩, hb⟩
  have B3 := Lib.hid (B2.out.trans (hb.mono B2.out.size))
  have K1 := Lib.hid (K0.out.below hb)
  have K2 := Lib.hid hk
  clear hb hk hlo B2 K0
  go_wp2_with fail
  refine (specWorst_any _ m m V _ n n U _ K1.out.at_ hm K2.out.at_ hn).mono ?_
  rintro e w4 ⟨rfl, hb⟩
  rw [← HX.out]
  have B4 := Lib.hid (B3.out.trans (hb.mono B3.out.size))
  clear hb B3 K1 K2
  go_wp2_with fail
  refine (ints_conv va m vc V _ (HV.out.below B4.out) hm).mono ?_
  rintro e w5 ⟨⟨g1, rfl, hlo, hk⟩, hb⟩
  have B5 := Lib.hid (B4.out.trans (hb.mono B4.out.size))
  have K1 := Lib.hid hk
  clear hb hk hlo B4
  go_wp2_with fail
  refine (points_conv la n cap U _ (H.out.below B5.out) hn).mono ?_
  rintro e w6 ⟨⟨g2, rfl, hlo, hk⟩, hb⟩
  have B6 := Lib.hid (B5.out.trans (hb.mono B5.out.size))
  have K3 := Lib.hid (K1.out.below hb)
  have K2 := Lib.hid hk
  clear hb hk hlo B5 K1
  go_wp2_with fail
  refine (implWorst_any _ m m V _ n n U _ K3.out.at_ hm K2.out.at_ hn).mono ?_
  rintro e w7 ⟨rfl, hb⟩
  rw [← HX.out]
  have B7 := Lib.hid (B6.out.trans (hb.mono B6.out.size))
  have K4 := Lib.hid (K3.out.below hb)
  have K5 := Lib.hid (K2.out.below hb)
  clear hb B6 K3 K2
  have hxx : (x != x) = false := by simp
  go_wp2_with fail
  refine (ints_conv va m vc V _ (HV.out.below B7.out) hm).mono ?_
  rintro e w8 ⟨⟨g3, rfl, hlo, hk⟩, hb⟩
  have B8 := Lib.hid (B7.out.trans (hb.mono B7.out.size))
  have K6 := Lib.hid hk
  have K7 := Lib.hid (K4.out.below hb)
  have K8 := Lib.hid (K5.out.below hb)
  clear hb hk hlo B7 K4 K5
  go_wp2_with fail
  refine (neqInt64S_same _ _ m m m V _ K7.out.at_ K6.out.at_ hm).mono ?_
  rintro e w9 ⟨rfl, hb⟩
  have B9 := Lib.hid (B8.out.trans (hb.mono B8.out.size))
  have K9 := Lib.hid (K8.out.below hb)
  clear hb B8 K6 K7 K8
  go_wp2_with fail
  refine (points_conv la n cap U _ (H.out.below B9.out) hn).mono ?_
  rintro e w10 ⟨⟨g4, rfl, hlo, hk⟩, hb⟩
  have B10 := Lib.hid (B9.out.trans (hb.mono B9.out.size))
  have K2 := Lib.hid hk
  have K1 := Lib.hid (K9.out.below hb)
  clear hb hk hlo B9 K9
  go_wp2_with fail
  refine (neqPointS_same _ _ n n n U _ K1.out.at_ K2.out.at_ hn).mono ?_
  rintro e w11 ⟨rfl, hb⟩
  have B11 := Lib.hid (B10.out.trans (hb.mono B10.out.size))
  clear hb B10 K1 K2
  go_wp2_with fail
  go_ret
  exact ⟨rfl, B11.out⟩
end Go.Proofs.Ytlocpliljkgfnaa
