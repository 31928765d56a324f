/-
  The exact law of BurstAt.
-/
import Derived.Test.YtlipgnjknfmikaaLkS2
namespace Go.Proofs.Ytlipgnjknfmikaa
open Go.RowKit Go.Deep
attribute [local go_sem] lrun_store_float

set_option maxHeartbeats 1000000 in
theorem eqBurst_same (z : Int) (x : Nat) (w : World) :
    Calls Try.prog 26 #[buV z x, buV z x] w fun e w' => e = .returned (.bool true) ∧ Below w.heap.size w w' := by
  have hne : (z != z) = false := by simp
  go_enter Try.func26, Try.ntmps26
  go_wp2_with (first | (go_at_call 22; refine (same_any _ _).mono ?_; rintro e w' ⟨rfl, rfl⟩))
  go_ret
  exact ⟨rfl, (bel_alloc _ _).alloc (by simp) _⟩
set_option maxRecDepth 100000 in
set_option maxHeartbeats 4000000 in
theorem burstAt_law (w : World) (a : Option Addr) (n k : Nat) (f : Nat → Nat) (h : FlIn a n f w) (_u : n ≤ 9223372036854775807) (z : Int) (t : Nat) (_y : t < 18446744073709551616) :
    Calls Try.prog 8 #[.slice a n k, .int .i64 z, .float .f64 t] w fun e w' => e = .returned (.bool true) ∧ Below w.heap.size w w' := by
  clear _u _y
  by_cases hbig : 1048576 < n
  · have hz : (1048576 : Int) < (n : Int) := by omega
    clear h
    go_enter Try.func8, Try.ntmps8
    go_wp2
    go_ret
    exact ⟨rfl, Below.refl _ _⟩
  · have hz : ¬ (1048576 : Int) < (n : Int) := by omega
    have hn : n ≤ 1048576 := by omega
    have H := Lib.hid h
    have HSP : Hid (∀ a' k' wx, FlAt a' n f wx → Calls Try.prog 19 #[.slice a' n k', .int .i64 z, .float .f64 t] wx fun e w' => e = .returned (buV (Lk.bAt f n z t) (Lk.bAb f n z t)) ∧ Below wx.heap.size wx w') := fun a' k' wx hx => sBurst_any a' n k' f z t wx hx
    have HIM : Hid (∀ a' k' wx, FlAt a' n f wx → Calls Try.prog 18 #[.slice a' n k', .int .i64 z, .float .f64 t] wx fun e w' => e = .returned (buV (Lk.bAt f n z t) (Lk.bAb f n z t)) ∧ Below wx.heap.size wx w') := fun a' k' wx hx => iBurst_any a' n k' f z t wx hx
    generalize Lk.bAt f n z t = X at HSP HIM
    generalize Lk.bAb f n z t = Y at HSP HIM
    clear h
    go_enter Try.func8, Try.ntmps8
    go_wp2_with fail
    refine (toFl_any a n k f _ H.out hn).mono ?_
    rintro e w1 ⟨rfl, h1, hb1⟩
    have H1 := Lib.hid h1
    have HB1 := Lib.hid hb1
    clear h1 hb1
    go_wp2_with fail
    refine (HSP.out _ _ _ H1.out.at_).mono ?_
    rintro e w2 ⟨rfl, hb2⟩
    have HB2 := Lib.hid (HB1.out.trans (hb2.mono HB1.out.size))
    clear hb2 H1 HB1
    obtain ⟨W2, hW2⟩ : ∃ W2, W2 = w2.alloc (.cells #[.int .i64 X, .float .f64 Y] 35) := ⟨_, rfl⟩
    have HB2b : Hid (Below w.heap.size w W2) := by show Below _ _ _; rw [hW2]; exact HB2.out.alloc HB2.out.size _
    have HM2 : Hid (W2.rowIs w2.heap.size 35 2 (rowL (buL X Y))) := by show World.rowIs _ _ _ _ _; rw [hW2]; exact rowL_alloc w2 (buL X Y) _
    have HW2 := Lib.hid hW2
    clear hW2
    go_wp2_with fail
    rw [← HW2.out]
    generalize w2.heap.size = g2 at *
    clear HW2 HB2
    refine (toFl_any a n k f _ (H.out.below HB2b.out) hn).mono ?_
    rintro e w3 ⟨rfl, h3, hb3⟩
    have H3 := Lib.hid h3
    have HM3 := Lib.hid (wrow_below HM2.out hb3)
    have HB3 := Lib.hid (HB2b.out.trans (hb3.mono HB2b.out.size))
    clear h3 hb3 HM2 HB2b
    generalize W2.heap.size = g3 at *
    go_wp2_with fail
    refine (HIM.out _ _ _ H3.out.at_).mono ?_
    rintro e w4 ⟨rfl, hb4⟩
    have H4 := Lib.hid (H3.out.below hb4)
    have HM4 := Lib.hid (wrow_below HM3.out hb4)
    have HB4 := Lib.hid (HB3.out.trans (hb4.mono HB3.out.size))
    clear hb4 H3 HM3 HB3
    obtain ⟨W4, hW4⟩ : ∃ W4, W4 = w4.alloc (.cells #[.int .i64 X, .float .f64 Y] 35) := ⟨_, rfl⟩
    have hb : Below w4.heap.size w4 W4 := by rw [hW4]; exact bel_alloc _ _
    have HB4b : Hid (Below w.heap.size w W4) := HB4.out.trans (hb.mono HB4.out.size)
    have H4b := Lib.hid (H4.out.below hb)
    obtain ⟨⟨p0, p1⟩, _⟩ := row2_cells HM4.out
    have l2 : g2 < w4.heap.size := HM4.out.lt
    have HW4 := Lib.hid hW4
    clear hb hW4
    go_wp2_with fail
    rw [← HW4.out]
    clear HW4 p0 p1 l2 HM4 H4 HB4
    refine (eqBurst_same _ _ _).mono ?_
    rintro e w5 ⟨rfl, hb5⟩
    have H5 := Lib.hid (H4b.out.below hb5)
    have HB5 := Lib.hid (HB4b.out.trans (hb5.mono HB4b.out.size))
    clear hb5 H4b HB4b
    go_wp2_with fail
    refine (toFl_any a n k f _ (H.out.below HB5.out) hn).mono ?_
    rintro e w6 ⟨rfl, h6, hb6⟩
    have H6 := Lib.hid h6
    have H46 := Lib.hid (H5.out.below hb6)
    have HB6 := Lib.hid (HB5.out.trans (hb6.mono HB5.out.size))
    clear h6 hb6
    go_wp2_with fail
    refine (eqFl_same _ _ n n n f _ H46.out.at_ H6.out.at_ hn).mono ?_
    rintro e w7 ⟨rfl, hb7⟩
    have HB7 := Lib.hid (HB6.out.trans (hb7.mono HB6.out.size))
    clear hb7
    go_wp2
    go_ret
    exact ⟨rfl, HB7.out⟩
end Go.Proofs.Ytlipgnjknfmikaa
