/-
  The law FnExactHistoryAt.
-/
import Derived.Test.YtlocpliljkgfnaaHsEx1
import Derived.Test.YtlocpliljkgfnaaHsI2
import Derived.Test.YtlocpliljkgfnaaHsS1
namespace Go.Proofs.Ytlocpliljkgfnaa
open Go.RowKit Go.Deep

set_option maxRecDepth 100000 in
set_option maxHeartbeats 4000000 in
theorem historyAt_law (w : World) (la : Option Addr) (n cap : Nat) (U : Nat → Int) (h : IsIn la (n * 2) U w) (hl : n ≤ 9223372036854775807) (a : Int) :
    Calls Try.prog 5 #[.slice la n cap, .int .i64 a] w fun e w' => e = .returned (.bool true) ∧ Below w.heap.size w w' := by
  by_cases hbig : 1048576 < n
  · go_enter Try.func5, Try.ntmps5
    go_wp2_with fail
    refine (nszPoint_over la n cap 1048576 _ hbig (by omega) hl).mono ?_
    rintro e w1 ⟨rfl, rfl⟩
    go_wp2_with fail
    go_ret
    exact ⟨rfl, Below.refl _ _⟩
  have hn : n ≤ 1048576 := by omega
  have H := Lib.hid h
  clear h hbig
  have hz : ¬ ((1048576 - n : Nat) : Int) < 0 := by omega
  go_enter Try.func5, Try.ntmps5
  go_wp2_with fail
  refine (nszPoint_in la n cap 1048576 _ hn (by omega)).mono ?_
  rintro e w1 ⟨rfl, rfl⟩
  go_wp2_with fail
  refine (ntoPointS_any la n cap U _ H.out hn).mono ?_
  rintro e w2 ⟨⟨rfl, hk⟩, hb⟩
  have B2 := Lib.hid hb
  have K2 := Lib.hid hk
  clear hb hk
  go_wp2_with fail
  refine (specHA_any _ n n U a _ K2.out.at_ hn).mono ?_
  rintro e w3 ⟨rfl, hb⟩
  obtain ⟨x, hx⟩ : ∃ x, x = Hs.ask U n a := ⟨_, rfl⟩
  have HX := Lib.hid hx
  rw [← hx]
  have B3 := Lib.hid (B2.out.trans (hb.bel.mono B2.out.size))
  clear hx hb B2 K2
  go_wp2_with fail
  refine (ntoPointS_any la n cap U _ (H.out.below B3.out) hn).mono ?_
  rintro e w4 ⟨⟨rfl, hk⟩, hb⟩
  have B4 := Lib.hid (B3.out.trans (hb.mono B3.out.size))
  have K4 := Lib.hid hk
  clear hb hk B3
  go_wp2_with fail
  refine (implHA_any _ n n U a _ K4.out.at_ hn).mono ?_
  rintro e w5 ⟨rfl, hb⟩
  rw [← HX.out]
  have B5 := Lib.hid (B4.out.trans (hb.mono B4.out.size))
  have K5 := Lib.hid (K4.out.below hb)
  clear hb B4 K4
  have hxx : (x != x) = false := by simp
  go_wp2_with fail
  refine (ntoPointS_any la n cap U _ (H.out.below B5.out) hn).mono ?_
  rintro e w6 ⟨⟨rfl, hk⟩, hb⟩
  have B6 := Lib.hid (B5.out.trans (hb.mono B5.out.size))
  have K6 := Lib.hid hk
  have L6 := Lib.hid (K5.out.below hb)
  clear hb hk B5 K5
  go_wp2_with fail
  refine (neqPointS_same _ _ n n n U _ L6.out.at_ K6.out.at_ hn).mono ?_
  rintro e w7 ⟨rfl, hb⟩
  have B7 := Lib.hid (B6.out.trans (hb.mono B6.out.size))
  clear hb B6 K6 L6
  go_wp2_with fail
  go_ret
  exact ⟨rfl, B7.out⟩
end Go.Proofs.Ytlocpliljkgfnaa
