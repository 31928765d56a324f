/-
  The law FnExactPointsText.
-/
import Derived.Test.YtlocpliljkgfnaaHsFa
import Derived.Test.YtlocpliljkgfnaaHsIn
import Derived.Test.YtlocpliljkgfnaaHsTi
namespace Go.Proofs.Ytlocpliljkgfnaa
open Go.RowKit Go.Deep

set_option maxRecDepth 100000 in
set_option maxHeartbeats 8000000 in
theorem pointsText_law (w : World) (la : Option Addr) (n cap : Nat) (U : Nat → Int) (h : IsIn la (n * 2) U w) (hl : n ≤ 9223372036854775807) :
    Calls Try.prog 8 #[.slice la n cap] w fun e w' => e = .returned (.bool true) ∧ Below w.heap.size w w' := by
  by_cases hbig : 1048576 < n
  · go_enter Try.func8, Try.ntmps8
    go_wp2_with fail
    refine (nszPoint_over la n cap 1048576 _ hbig (by omega) hl).mono ?_
    rintro e w1 ⟨rfl, rfl⟩
    go_wp2_with fail
    go_ret
    exact ⟨rfl, Below.refl _ _⟩
  have hn : n ≤ 1048576 := by omega
  have H := Lib.hid h
  clear h hbig
  have hz : ¬ ((1048576 - n : Nat) : Int) < 0 := by omega
  go_enter Try.func8, Try.ntmps8
  go_wp2_with fail
  refine (nszPoint_in la n cap 1048576 _ hn (by omega)).mono ?_
  rintro e w1 ⟨rfl, rfl⟩
  obtain ⟨S, hS⟩ : ∃ S : ByteArray, S = ⟨(Hs.text U n).toArray⟩ := ⟨_, rfl⟩
  have HS := Lib.hid hS
  clear hS
  go_wp2_with fail
  refine (points_conv la n cap U _ H.out hn).mono ?_
  rintro e w3 ⟨⟨gb, rfl, hlo, hk⟩, hb⟩
  have B3 := Lib.hid hb
  have K2 := Lib.hid hk
  clear hb hk hlo
  go_wp2_with fail
  refine (specTx_any _ n n U _ K2.out.at_ hn).mono ?_
  rintro e w4 ⟨rfl, hb⟩
  rw [← HS.out]
  have B4 := Lib.hid (B3.out.trans (hb.mono B3.out.size))
  clear hb B3 K2
  go_wp2_with fail
  refine (points_conv la n cap U _ (H.out.below B4.out) hn).mono ?_
  rintro e w6 ⟨⟨g2, rfl, hlo, hk⟩, hb⟩
  have B6 := Lib.hid (B4.out.trans (hb.mono B4.out.size))
  have K2 := Lib.hid hk
  clear hb hk hlo B4
  go_wp2_with fail
  refine (implTx_any _ n n U _ K2.out.at_ hn).mono ?_
  rintro e w7 ⟨rfl, hb⟩
  rw [← HS.out]
  have B7 := Lib.hid (B6.out.trans (hb.mono B6.out.size))
  have K5 := Lib.hid (K2.out.below hb)
  clear hb B6 K2
  have hxy2 : (S.toList == S.toList) = true := beq_self_eq_true _
  have hxy : (S.toList != S.toList) = false := by simp [bne]
  go_wp2_with fail
  refine (points_conv la n cap U _ (H.out.below B7.out) hn).mono ?_
  rintro e w10 ⟨⟨g4, rfl, hlo, hk⟩, hb⟩
  have B10 := Lib.hid (B7.out.trans (hb.mono B7.out.size))
  have K2 := Lib.hid hk
  have K1 := Lib.hid (K5.out.below hb)
  clear hb hk hlo B7 K5
  go_wp2_with fail
  refine (neqPointS_same _ _ n n n U _ K1.out.at_ K2.out.at_ hn).mono ?_
  rintro e w11 ⟨rfl, hb⟩
  have B11 := Lib.hid (B10.out.trans (hb.mono B10.out.size))
  clear hb B10 K1 K2
  go_wp2_with fail
  go_ret
  exact ⟨rfl, B11.out⟩
end Go.Proofs.Ytlocpliljkgfnaa
