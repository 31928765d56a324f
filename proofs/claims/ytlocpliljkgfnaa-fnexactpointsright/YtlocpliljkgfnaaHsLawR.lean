/-
  The law FnExactPointsRight.
-/
import Derived.Test.YtlocpliljkgfnaaHsEx1
import Derived.Test.YtlocpliljkgfnaaHsI1
import Derived.Test.YtlocpliljkgfnaaHsS1
namespace Go.Proofs.Ytlocpliljkgfnaa
open Go.RowKit Go.Deep

set_option maxRecDepth 100000 in
set_option maxHeartbeats 4000000 in
theorem pointsRight_law (w : World) (la : Option Addr) (n cap : Nat) (R : Nat → Int) (h : IsIn la (n * 2) R w) (hl : n ≤ 9223372036854775807) :
    Calls Try.prog 3 #[.slice la n cap] w fun e w' => e = .returned (.bool true) ∧ Below w.heap.size w w' := by
  have H := Lib.hid h
  clear h
  by_cases hbig : 1048576 < n
  · go_enter Try.func3, Try.ntmps3
    go_wp2_with fail
    refine (nszPoint_over la n cap 1048576 _ hbig (by omega) hl).mono ?_
    rintro e w1 ⟨rfl, rfl⟩
    go_wp2_with fail
    go_ret
    exact ⟨rfl, Below.refl _ _⟩
  have hn : n ≤ 1048576 := by omega
  have hz : ¬ ((1048576 - n : Nat) : Int) < 0 := by omega
  have HN := Lib.hid hn
  obtain ⟨bb, hbe⟩ : ∃ bb, bb = Mt.dB (Hs.Right R n) := ⟨_, rfl⟩
  have HBE := Lib.hid hbe
  have hbb : (bb != bb) = false := by simp
  clear hbe
  go_enter Try.func3, Try.ntmps3
  go_wp2_with fail
  refine (nszPoint_in la n cap 1048576 _ hn (by omega)).mono ?_
  rintro e w1 ⟨rfl, hw1⟩
  subst hw1
  go_wp2_with fail
  refine (ntoPointS_any la n cap R _ H.out HN.out).mono ?_
  rintro e w2 ⟨⟨rfl, hk⟩, hb⟩
  have B2 := Lib.hid hb
  have K2 := Lib.hid hk
  clear hb hk hz
  go_wp2_with fail
  refine (specPR_any _ n n R _ K2.out.at_ HN.out).mono ?_
  rintro e w3 ⟨rfl, hb⟩
  rw [← HBE.out]
  have B3 : Hid (Below w1.heap.size w1 w3) := B2.out.trans (hb.bel.mono B2.out.size)
  clear hb B2 K2
  go_wp2_with fail
  refine (ntoPointS_any la n cap R _ (H.out.below B3.out) HN.out).mono ?_
  rintro e w4 ⟨⟨rfl, hk⟩, hb⟩
  have B4 : Hid (Below w1.heap.size w1 w4) := B3.out.trans (hb.mono B3.out.size)
  have K4 := Lib.hid hk
  clear hb hk B3
  go_wp2_with fail
  refine (implPR_any _ n n R _ K4.out.at_ HN.out).mono ?_
  rintro e w5 ⟨rfl, hb⟩
  rw [← HBE.out]
  have B5 : Hid (Below w1.heap.size w1 w5) := B4.out.trans (hb.mono B4.out.size)
  have K5 := Lib.hid (K4.out.below hb)
  clear hb B4 K4
  go_wp2_with fail
  refine (ntoPointS_any la n cap R _ (H.out.below B5.out) HN.out).mono ?_
  rintro e w6 ⟨⟨rfl, hk⟩, hb⟩
  have B6 : Hid (Below w1.heap.size w1 w6) := B5.out.trans (hb.mono B5.out.size)
  have K6 := Lib.hid (K5.out.below hb)
  have Q6 := Lib.hid hk
  clear hb hk B5 K5
  go_wp2_with fail
  refine (neqPointS_same _ _ n n n R _ K6.out.at_ Q6.out.at_ HN.out).mono ?_
  rintro e w7 ⟨rfl, hb⟩
  have B7 : Hid (Below w1.heap.size w1 w7) := B6.out.trans (hb.mono B6.out.size)
  clear hb B6 K6 Q6
  go_wp2_with fail
  go_ret
  exact ⟨rfl, B7.out⟩
end Go.Proofs.Ytlocpliljkgfnaa
