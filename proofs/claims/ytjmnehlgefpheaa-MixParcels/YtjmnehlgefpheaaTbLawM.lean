/-
  The law FnExactMixParcels.
-/
import Derived.Test.YtjmnehlgefpheaaTbEx
import Derived.Test.YtjmnehlgefpheaaTbMx
namespace Go.Proofs.Ytjmnehlgefpheaa
open Go.RowKit Go.Deep

set_option maxRecDepth 100000 in
set_option maxHeartbeats 8000000 in
theorem tMix_law (w : World) (a : Option Addr) (n k : Nat) (f : Nat → Int) (h1 : IsIn a (n * 3) f w) (hm1 : n ≤ 9223372036854775807) :
    Calls Try.prog 6 #[.slice a n k] w fun e w' => e = .returned (.bool true) ∧ Below w.heap.size w w' := by
  obtain ⟨l, rfl, hl⟩ := isIn_list h1
  have H1 := Lib.hid hl
  have HM1 := Lib.hid hm1
  clear h1 hl hm1
  by_cases hn : l.length ≤ 1048576
  case neg =>
    go_enter Try.func6, Try.ntmps6
    go_wp2_with fail
    refine (nszParcel_over a l.length k 1048576 _ (by omega) (by omega) HM1.out).mono ?_
    rintro e w1 ⟨rfl, e1⟩
    subst w1
    go_wp2_with fail
    go_ret
    exact ⟨rfl, Below.refl _ _⟩
  have hz : ¬ ((1048576 - l.length : Nat) : Int) < 0 := by omega
  have NL := Lib.hid hn
  go_enter Try.func6, Try.ntmps6
  go_wp2_with fail
  refine (nszParcel_in a l.length k 1048576 _ NL.out (by omega)).mono ?_
  rintro e w1 ⟨rfl, e1⟩
  subst w1
  go_wp2_with fail
  refine (ntoParcelS_any a l.length k (Tb.fl l) _ H1.out NL.out).mono ?_
  rintro e w2 ⟨⟨rfl, hk2⟩, hb2⟩
  have HB2 := Lib.hid hb2
  have HK2 := Lib.hid hk2
  clear hb2 hk2
  go_wp2_with fail
  refine (sMix_any _ l l.length _ HK2.out.at_ NL.out).mono ?_
  rintro e w3 ⟨rfl, hb3⟩
  obtain ⟨W3, hW3⟩ : ∃ W3, W3 = w3.alloc (.cells #[.int .i64 (Tb.mixOf l).w, .int .i64 (Tb.mixOf l).g, .int .i64 (Tb.mixOf l).b] 39) := ⟨_, rfl⟩
  have hb3' : Below w.heap.size w w3 := HB2.out.trans (hb3.mono HB2.out.size)
  have HB3 : Hid (Below w.heap.size w W3) := by show Below _ _ _; rw [hW3]; exact hb3'.trans ((nbel_alloc _ _).mono hb3'.size)
  have HR3 : Hid (W3.rowIs w3.heap.size 39 3 (rowN (pcL (Tb.mixOf l)))) := by show W3.rowIs _ _ _ _; rw [hW3]; exact rowN_alloc w3 _ _
  have HW3 := Lib.hid hW3
  clear hb3 hb3' hW3
  go_wp2_with fail
  rw [← HW3.out]
  clear HW3
  refine (ntoParcelS_any a l.length k (Tb.fl l) _ (H1.out.below HB3.out) NL.out).mono ?_
  rintro e w4 ⟨⟨rfl, hk4⟩, hb4⟩
  have HB4 : Hid (Below w.heap.size w w4) := HB3.out.trans (hb4.mono HB3.out.size)
  have HK4 := Lib.hid hk4
  have HR4 := Lib.hid (nrow_below HR3.out hb4)
  clear hb4 hk4
  go_wp2_with fail
  refine (implMix_any _ l l.length _ HK4.out.at_ NL.out).mono ?_
  rintro e w5 ⟨rfl, hb5⟩
  obtain ⟨W5, hW5⟩ : ∃ W5, W5 = w5.alloc (.cells #[.int .i64 (Tb.mixOf l).w, .int .i64 (Tb.mixOf l).g, .int .i64 (Tb.mixOf l).b] 39) := ⟨_, rfl⟩
  have hb5' : Below w.heap.size w w5 := HB4.out.trans (hb5.mono HB4.out.size)
  have HB5 : Hid (Below w.heap.size w W5) := by show Below _ _ _; rw [hW5]; exact hb5'.trans ((nbel_alloc _ _).mono hb5'.size)
  have HX5 : Hid (W5.rowIs w5.heap.size 39 3 (rowN (pcL (Tb.mixOf l)))) := by show W5.rowIs _ _ _ _; rw [hW5]; exact rowN_alloc w5 _ _
  have HR5 : Hid (W5.rowIs w3.heap.size 39 3 (rowN (pcL (Tb.mixOf l)))) := by show W5.rowIs _ _ _ _; rw [hW5]; exact nrow_below (nrow_below HR4.out hb5) (nbel_alloc _ _)
  have HK5 : Hid (IsBlk 39 W3.heap.size (l.length * 3) (Tb.fl l) W5) := by show IsBlk _ _ _ _ _; rw [hW5]; exact (HK4.out.below hb5).below (nbel_alloc _ _)
  have HW5 := Lib.hid hW5
  clear hb5 hb5' hW5
  obtain ⟨⟨x0, x1, x2⟩, _⟩ := rowN3 HX5.out
  obtain ⟨⟨y0, y1, y2⟩, _⟩ := rowN3 HR5.out
  rw [HW5.out] at x0 x1 x2 y0 y1 y2
  go_wp2_with fail
  rw [← HW5.out]
  clear HW5 x0 x1 x2 y0 y1 y2
  refine (neqParcel_same (Tb.mixOf l).w (Tb.mixOf l).g (Tb.mixOf l).b _).mono ?_
  rintro e w6 ⟨rfl, hb6⟩
  have HB6 : Hid (Below w.heap.size w w6) := HB5.out.trans (hb6.mono HB5.out.size)
  have HK6 := Lib.hid (HK5.out.below hb6)
  clear hb6
  go_wp2_with fail
  refine (ntoParcelS_any a l.length k (Tb.fl l) _ (H1.out.below HB6.out) NL.out).mono ?_
  rintro e w7 ⟨⟨rfl, hk7⟩, hb7⟩
  have HB7 : Hid (Below w.heap.size w w7) := HB6.out.trans (hb7.mono HB6.out.size)
  have HK7 := Lib.hid hk7
  have HX7 := Lib.hid (HK6.out.below hb7)
  clear hb7 hk7
  go_wp2_with fail
  refine (neqParcelS_same _ _ l.length l.length l.length (Tb.fl l) _ HX7.out.at_ HK7.out.at_ NL.out).mono ?_
  rintro e w8 ⟨rfl, hb8⟩
  have HB8 : Hid (Below w.heap.size w w8) := HB7.out.trans (hb8.mono HB7.out.size)
  clear hb8
  go_wp2_with fail
  go_ret
  exact ⟨rfl, HB8.out⟩
end Go.Proofs.Ytjmnehlgefpheaa
