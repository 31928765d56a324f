/-
  The law FnExactSewersRight.
-/
import Derived.Test.YtokbhkcpkilcmaaSwEx2
import Derived.Test.YtokbhkcpkilcmaaSwS1
namespace Go.Proofs.Ytokbhkcpkilcmaa
open Go.RowKit Go.Deep

set_option maxRecDepth 100000 in
set_option maxHeartbeats 4000000 in
theorem right_over (a : Option Addr) (n cap : Nat) (w : World) (hn : 1048576 < n) (hm : n ≤ 9223372036854775807) :
    Calls Try.prog 3 #[.slice a n cap] w fun e w' => e = .returned (.bool true) ∧ Below w.heap.size w w' := by
  go_enter Try.func3, Try.ntmps3
  go_wp2_with fail
  refine (sz_over a n cap _ hn hm).mono ?_
  rintro e w1 ⟨rfl, rfl⟩
  go_wp2_with fail
  go_ret
  exact ⟨rfl, Below.refl _ _⟩
set_option maxRecDepth 100000 in
set_option maxHeartbeats 4000000 in
theorem right_law (a : Option Addr) (n cap : Nat) (rs : Nat → Sw.Rc) (w : World) (h : RcsIn a n rs w) (hn : n ≤ 1048576) :
    Calls Try.prog 3 #[.slice a n cap] w fun e w' => e = .returned (.bool true) ∧ Below w.heap.size w w' := by
  have H := Lib.hid h
  have hz : ¬ ((1048576 - n : Nat) : Int) < 0 := by omega
  clear h
  go_enter Try.func3, Try.ntmps3
  go_wp2_with fail
  refine (sz_in a n cap _ hn).mono ?_
  rintro e w1 ⟨rfl, rfl⟩
  go_wp2_with fail
  refine (toReachS_any a n cap rs _ H.out hn).mono ?_
  rintro e w2 ⟨⟨rfl, hblk⟩, hb⟩
  have HB2 := Lib.hid hb
  have HK2 := Lib.hid hblk
  clear hb hblk
  go_wp2_with fail
  refine (specRight_any _ n n rs _ HK2.out.at_).mono ?_
  rintro e w3 ⟨⟨b1, rfl, hb1⟩, hb⟩
  have HB3 : Hid (Below w1.heap.size w1 w3) := HB2.out.trans (hb.mono HB2.out.size)
  have HB1 := Lib.hid hb1
  clear hb hb1 HB2 HK2
  go_wp2_with fail
  refine (toReachS_any a n cap rs _ (H.out.below HB3.out) hn).mono ?_
  rintro e w4 ⟨⟨rfl, hblk⟩, hb⟩
  have HB4 : Hid (Below w1.heap.size w1 w4) := HB3.out.trans (hb.mono HB3.out.size)
  have HK4 := Lib.hid hblk
  clear hb hblk HB3
  go_wp2_with fail
  refine (implRight_any _ n n rs _ HK4.out.at_).mono ?_
  rintro e w5 ⟨⟨b2, rfl, hb2⟩, hb⟩
  obtain rfl : b1 = b2 := by
    have h1 := HB1.out
    cases b1 <;> cases b2 <;> simp_all
  have HB5 : Hid (Below w1.heap.size w1 w5) := HB4.out.trans (hb.mono HB4.out.size)
  have HK5 : Hid (RcBlk w3.heap.size n rs w5) := HK4.out.block (hb.block _ HK4.out.lt)
  clear hb hb2 HB4 HK4 HB1
  go_wp2_with fail
  refine (toReachS_any a n cap rs _ (H.out.below HB5.out) hn).mono ?_
  rintro e w6 ⟨⟨rfl, hblk⟩, hb⟩
  have HB6 : Hid (Below w1.heap.size w1 w6) := HB5.out.trans (hb.mono HB5.out.size)
  have HK6 : Hid (RcBlk w3.heap.size n rs w6) := HK5.out.block (hb.block _ HK5.out.lt)
  have HL6 := Lib.hid hblk
  clear hb hblk HB5 HK5
  go_wp2_with fail
  refine (eqReachS_same _ _ n n n rs _ HK6.out.at_ HL6.out.at_ hn).mono ?_
  rintro e w7 ⟨rfl, hb⟩
  have HB7 : Hid (Below w1.heap.size w1 w7) := HB6.out.trans (hb.mono HB6.out.size)
  clear hb HB6 HK6 HL6
  go_wp2_with fail
  go_ret
  exact ⟨rfl, HB7.out⟩
theorem right_all (w : World) (a : Option Addr) (n cap : Nat) (rs : Nat → Sw.Rc) (h : RcsIn a n rs w) (hm : n ≤ 9223372036854775807) :
    Calls Try.prog 3 #[.slice a n cap] w fun e w' => e = .returned (.bool true) ∧ Below w.heap.size w w' := by
  by_cases hn : n ≤ 1048576
  · exact right_law a n cap rs w h hn
  · exact right_over a n cap w (by omega) hm
end Go.Proofs.Ytokbhkcpkilcmaa
