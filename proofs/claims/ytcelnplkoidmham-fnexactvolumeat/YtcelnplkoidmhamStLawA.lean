/-
  The laws FnExactLevelAt and FnExactVolumeAt.
-/
import Derived.Test.YtcelnplkoidmhamStEx1
import Derived.Test.YtcelnplkoidmhamStS2
import Derived.Test.YtcelnplkoidmhamStA1
namespace Go.Proofs.Ytcelnplkoidmham
open Go.RowKit Go.Deep
theorem along_same {P : Prop} {z1 z2 x : Int} (h1 : (P → z1 = x) ∧ (¬ P → z1 = 0)) (h2 : (P → z2 = x) ∧ (¬ P → z2 = 0)) : z1 = z2 := by
  by_cases h : P
  · rw [h1.1 h, h2.1 h]
  · rw [h1.2 h, h2.2 h]

set_option maxRecDepth 100000 in
set_option maxHeartbeats 4000000 in
theorem stLevelAt_law (w : World) (a : Option Addr) (n cap : Nat) (c : Nat → St.Pr) (h : PrsIn a n c w) (hm : n ≤ 9223372036854775807) (x : Int) :
    Calls Try.prog 5 #[.slice a n cap, .int .i64 x] w fun e w' => e = .returned (.bool true) ∧ Below w.heap.size w w' := by
  have H := Lib.hid h
  clear h
  by_cases hn : n ≤ 1048576
  case neg =>
    go_enter Try.func5, Try.ntmps5
    go_wp2_with fail
    refine (szMark_over a n cap 1048576 _ (by omega) (by omega) hm).mono ?_
    rintro e w1 ⟨rfl, rfl⟩
    go_wp2_with fail
    go_ret
    exact ⟨rfl, Below.refl _ _⟩
  have hz : ¬ ((1048576 - n : Nat) : Int) < 0 := by omega
  have N := Lib.hid hn
  go_enter Try.func5, Try.ntmps5
  go_wp2_with fail
  refine (szMark_in a n cap 1048576 _ hn (by omega)).mono ?_
  rintro e w1 ⟨rfl, rfl⟩
  go_wp2_with fail
  refine (toMarkS_any a n cap c _ H.out N.out).mono ?_
  rintro e w2 ⟨⟨rfl, hk⟩, hb⟩
  have HB2 := Lib.hid hb
  have HK2 := Lib.hid hk
  clear hb hk
  go_wp2_with fail
  refine (sLevelAt_any _ n n c x _ HK2.out.at_).mono ?_
  rintro e w3 ⟨⟨z1, rfl, q1, q2⟩, hG⟩
  have HQ1 := Lib.hid (And.intro q1 q2)
  have HB3 : Hid (Below w1.heap.size w1 w3) := HB2.out.trans (hG.bel.mono HB2.out.size)
  clear hG q1 q2 HB2 HK2
  go_wp2_with fail
  refine (toMarkS_any a n cap c _ (H.out.below HB3.out) N.out).mono ?_
  rintro e w4 ⟨⟨rfl, hk⟩, hb⟩
  have HB4 : Hid (Below w1.heap.size w1 w4) := HB3.out.trans (hb.mono HB3.out.size)
  have HK4 := Lib.hid hk
  clear hb hk HB3
  go_wp2_with fail
  refine (implLevel_any _ n n c x _ HK4.out.at_).mono ?_
  rintro e w5 ⟨⟨z2, rfl, q1, q2⟩, hG⟩
  obtain rfl : z1 = z2 := along_same HQ1.out ⟨q1, q2⟩
  have HB5 : Hid (Below w1.heap.size w1 w5) := HB4.out.trans (hG.bel.mono HB4.out.size)
  have HK5 := Lib.hid (HK4.out.below hG.bel)
  clear hG q1 q2 HB4 HK4 HQ1
  go_wp2_with fail
  refine (toMarkS_any a n cap c _ (H.out.below HB5.out) N.out).mono ?_
  rintro e w6 ⟨⟨rfl, hk⟩, hb⟩
  have HB6 : Hid (Below w1.heap.size w1 w6) := HB5.out.trans (hb.mono HB5.out.size)
  have HK6 := Lib.hid (HK5.out.below hb)
  have HL6 := Lib.hid hk
  clear hb hk HB5 HK5
  go_wp2_with fail
  refine (eqMarkS_same _ _ n n n c _ HK6.out.at_ HL6.out.at_ N.out).mono ?_
  rintro e w7 ⟨rfl, hb⟩
  have HB7 : Hid (Below w1.heap.size w1 w7) := HB6.out.trans (hb.mono HB6.out.size)
  clear hb HB6 HK6 HL6
  go_wp2_with fail
  go_ret
  exact ⟨rfl, HB7.out⟩

set_option maxRecDepth 100000 in
set_option maxHeartbeats 4000000 in
theorem stVolumeAt_law (w : World) (a : Option Addr) (n cap : Nat) (c : Nat → St.Pr) (h : PrsIn a n c w) (hm : n ≤ 9223372036854775807) (x : Int) :
    Calls Try.prog 6 #[.slice a n cap, .int .i64 x] w fun e w' => e = .returned (.bool true) ∧ Below w.heap.size w w' := by
  have H := Lib.hid h
  clear h
  by_cases hn : n ≤ 1048576
  case neg =>
    go_enter Try.func6, Try.ntmps6
    go_wp2_with fail
    refine (szMark_over a n cap 1048576 _ (by omega) (by omega) hm).mono ?_
    rintro e w1 ⟨rfl, rfl⟩
    go_wp2_with fail
    go_ret
    exact ⟨rfl, Below.refl _ _⟩
  have hz : ¬ ((1048576 - n : Nat) : Int) < 0 := by omega
  have N := Lib.hid hn
  go_enter Try.func6, Try.ntmps6
  go_wp2_with fail
  refine (szMark_in a n cap 1048576 _ hn (by omega)).mono ?_
  rintro e w1 ⟨rfl, rfl⟩
  go_wp2_with fail
  refine (toMarkS_any a n cap c _ H.out N.out).mono ?_
  rintro e w2 ⟨⟨rfl, hk⟩, hb⟩
  have HB2 := Lib.hid hb
  have HK2 := Lib.hid hk
  clear hb hk
  go_wp2_with fail
  refine (sVolumeAt_any _ n n c x _ HK2.out.at_).mono ?_
  rintro e w3 ⟨⟨z1, rfl, q1, q2⟩, hG⟩
  have HQ1 := Lib.hid (And.intro q1 q2)
  have HB3 : Hid (Below w1.heap.size w1 w3) := HB2.out.trans (hG.bel.mono HB2.out.size)
  clear hG q1 q2 HB2 HK2
  go_wp2_with fail
  refine (toMarkS_any a n cap c _ (H.out.below HB3.out) N.out).mono ?_
  rintro e w4 ⟨⟨rfl, hk⟩, hb⟩
  have HB4 : Hid (Below w1.heap.size w1 w4) := HB3.out.trans (hb.mono HB3.out.size)
  have HK4 := Lib.hid hk
  clear hb hk HB3
  go_wp2_with fail
  refine (implVolume_any _ n n c x _ HK4.out.at_).mono ?_
  rintro e w5 ⟨⟨z2, rfl, q1, q2⟩, hG⟩
  obtain rfl : z1 = z2 := along_same HQ1.out ⟨q1, q2⟩
  have HB5 : Hid (Below w1.heap.size w1 w5) := HB4.out.trans (hG.bel.mono HB4.out.size)
  have HK5 := Lib.hid (HK4.out.below hG.bel)
  clear hG q1 q2 HB4 HK4 HQ1
  go_wp2_with fail
  refine (toMarkS_any a n cap c _ (H.out.below HB5.out) N.out).mono ?_
  rintro e w6 ⟨⟨rfl, hk⟩, hb⟩
  have HB6 : Hid (Below w1.heap.size w1 w6) := HB5.out.trans (hb.mono HB5.out.size)
  have HK6 := Lib.hid (HK5.out.below hb)
  have HL6 := Lib.hid hk
  clear hb hk HB5 HK5
  go_wp2_with fail
  refine (eqMarkS_same _ _ n n n c _ HK6.out.at_ HL6.out.at_ N.out).mono ?_
  rintro e w7 ⟨rfl, hb⟩
  have HB7 : Hid (Below w1.heap.size w1 w7) := HB6.out.trans (hb.mono HB6.out.size)
  clear hb HB6 HK6 HL6
  go_wp2_with fail
  go_ret
  exact ⟨rfl, HB7.out⟩
end Go.Proofs.Ytcelnplkoidmham
