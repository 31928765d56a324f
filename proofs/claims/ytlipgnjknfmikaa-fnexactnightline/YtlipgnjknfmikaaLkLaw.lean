/-
  The exact laws of NightLine and NightAt.
-/
import Derived.Test.YtlipgnjknfmikaaLkS1
namespace Go.Proofs.Ytlipgnjknfmikaa
open Go.RowKit Go.Deep

namespace Lk
def lineA (f : Nat → Nat) (n : Nat) : Nat := if n ≤ 400 then lineW f n else 0
def atA (f : Nat → Nat) (n : Nat) : Int := if n ≤ 400 then (best f n).1 else 0
end Lk
theorem sLine_all (a : Option Addr) (n cap : Nat) (f : Nat → Nat) (w : World) (h : FlAt a n f w) (hcap : n ≤ cap) :
    Calls Try.prog 20 #[.slice a n cap] w fun e w' => e = .returned (.float .f64 (Lk.lineA f n)) ∧ w' = w := by
  unfold Lk.lineA
  by_cases c : n ≤ 400
  · rw [if_pos c]; exact sNightLine_any a n cap f w h hcap c
  · rw [if_neg c]; exact sNightLine_long a n cap w (by omega)
theorem iLine_all (a : Option Addr) (n cap : Nat) (f : Nat → Nat) (w : World) (h : FlAt a n f w) :
    Calls Try.prog 13 #[.slice a n cap] w fun e w' => e = .returned (.float .f64 (Lk.lineA f n)) ∧ Below w.heap.size w w' := by
  unfold Lk.lineA
  by_cases c : n ≤ 400
  · rw [if_pos c]; exact iNightLine_any a n cap f w h c
  · rw [if_neg c]; exact (iNightLine_long a n cap w (by omega)).mono (by rintro e w' ⟨rfl, rfl⟩; exact ⟨rfl, Below.refl _ _⟩)
theorem sAt_all (a : Option Addr) (n cap : Nat) (f : Nat → Nat) (w : World) (h : FlAt a n f w) (hcap : n ≤ cap) :
    Calls Try.prog 11 #[.slice a n cap] w fun e w' => e = .returned (.int .i64 (Lk.atA f n)) ∧ w' = w := by
  unfold Lk.atA
  by_cases c : n ≤ 400
  · rw [if_pos c]; exact sNightAt_any a n cap f w h hcap c
  · rw [if_neg c]; exact sNightAt_long a n cap w (by omega)
theorem iAt_all (a : Option Addr) (n cap : Nat) (f : Nat → Nat) (w : World) (h : FlAt a n f w) :
    Calls Try.prog 10 #[.slice a n cap] w fun e w' => e = .returned (.int .i64 (Lk.atA f n)) ∧ Below w.heap.size w w' := by
  unfold Lk.atA
  by_cases c : n ≤ 400
  · rw [if_pos c]; exact iNightAt_any a n cap f w h c
  · rw [if_neg c]; exact (iNightAt_long a n cap w (by omega)).mono (by rintro e w' ⟨rfl, rfl⟩; exact ⟨rfl, Below.refl _ _⟩)

set_option maxHeartbeats 2000000 in
theorem nightLine_law (w : World) (a : Option Addr) (n k : Nat) (f : Nat → Nat) (h : FlIn a n f w) (_u : n ≤ 9223372036854775807) :
    Calls Try.prog 5 #[.slice a n k] w fun e w' => e = .returned (.bool true) ∧ Below w.heap.size w w' := by
  clear _u
  by_cases hbig : 1048576 < n
  · have hz : (1048576 : Int) < (n : Int) := by omega
    clear h
    go_enter Try.func5, Try.ntmps5
    go_wp2
    go_ret
    exact ⟨rfl, Below.refl _ _⟩
  · have hz : ¬ (1048576 : Int) < (n : Int) := by omega
    have hn : n ≤ 1048576 := by omega
    have H := Lib.hid h
    clear h
    go_enter Try.func5, Try.ntmps5
    go_wp2_with fail
    refine (toFl_any a n k f _ H.out hn).mono ?_
    rintro e w1 ⟨rfl, h1, hb1⟩
    have H1 := Lib.hid h1
    have HB1 := Lib.hid hb1
    clear h1 hb1
    go_wp2_with fail
    refine (sLine_all _ n n f _ H1.out.at_ (Nat.le_refl _)).mono ?_
    rintro e w2 ⟨rfl, rfl⟩
    go_wp2_with fail
    refine (toFl_any a n k f _ (H.out.below HB1.out) hn).mono ?_
    rintro e w3 ⟨rfl, h3, hb3⟩
    have H3 := Lib.hid h3
    have HB3 := Lib.hid (HB1.out.trans (hb3.mono HB1.out.size))
    clear h3 hb3
    go_wp2_with fail
    refine (iLine_all _ n n f _ H3.out.at_).mono ?_
    rintro e w4 ⟨rfl, hb4⟩
    have H4 := Lib.hid (H3.out.below hb4)
    have HB4 := Lib.hid (HB3.out.trans (hb4.mono HB3.out.size))
    clear hb4 H3
    go_wp2_with fail
    refine (same_any _ _).mono ?_
    rintro e w5 ⟨rfl, rfl⟩
    go_wp2_with fail
    refine (toFl_any a n k f _ (H.out.below HB4.out) hn).mono ?_
    rintro e w6 ⟨rfl, h6, hb6⟩
    have H6 := Lib.hid h6
    have H46 := Lib.hid (H4.out.below hb6)
    have HB6 := Lib.hid (HB4.out.trans (hb6.mono HB4.out.size))
    clear h6 hb6
    go_wp2_with fail
    refine (eqFl_same _ _ n n n f _ H46.out.at_ H6.out.at_ hn).mono ?_
    rintro e w7 ⟨rfl, hb7⟩
    have HB7 := Lib.hid (HB6.out.trans (hb7.mono HB6.out.size))
    clear hb7
    go_wp2
    go_ret
    exact ⟨rfl, HB7.out⟩
set_option maxHeartbeats 2000000 in
theorem nightAt_law (w : World) (a : Option Addr) (n k : Nat) (f : Nat → Nat) (h : FlIn a n f w) (_u : n ≤ 9223372036854775807) :
    Calls Try.prog 6 #[.slice a n k] w fun e w' => e = .returned (.bool true) ∧ Below w.heap.size w w' := by
  clear _u
  by_cases hbig : 1048576 < n
  · have hz : (1048576 : Int) < (n : Int) := by omega
    clear h
    go_enter Try.func6, Try.ntmps6
    go_wp2
    go_ret
    exact ⟨rfl, Below.refl _ _⟩
  · have hz : ¬ (1048576 : Int) < (n : Int) := by omega
    have hn : n ≤ 1048576 := by omega
    have H := Lib.hid h
    clear h
    go_enter Try.func6, Try.ntmps6
    go_wp2_with fail
    refine (toFl_any a n k f _ H.out hn).mono ?_
    rintro e w1 ⟨rfl, h1, hb1⟩
    have H1 := Lib.hid h1
    have HB1 := Lib.hid hb1
    clear h1 hb1
    go_wp2_with fail
    refine (sAt_all _ n n f _ H1.out.at_ (Nat.le_refl _)).mono ?_
    rintro e w2 ⟨rfl, rfl⟩
    go_wp2_with fail
    refine (toFl_any a n k f _ (H.out.below HB1.out) hn).mono ?_
    rintro e w3 ⟨rfl, h3, hb3⟩
    have H3 := Lib.hid h3
    have HB3 := Lib.hid (HB1.out.trans (hb3.mono HB1.out.size))
    clear h3 hb3
    go_wp2_with fail
    refine (iAt_all _ n n f _ H3.out.at_).mono ?_
    rintro e w4 ⟨rfl, hb4⟩
    have H4 := Lib.hid (H3.out.below hb4)
    have HB4 := Lib.hid (HB3.out.trans (hb4.mono HB3.out.size))
    clear hb4 H3
    go_wp2_with fail
    refine (toFl_any a n k f _ (H.out.below HB4.out) hn).mono ?_
    rintro e w6 ⟨rfl, h6, hb6⟩
    have H6 := Lib.hid h6
    have H46 := Lib.hid (H4.out.below hb6)
    have HB6 := Lib.hid (HB4.out.trans (hb6.mono HB4.out.size))
    clear h6 hb6
    go_wp2_with fail
    refine (eqFl_same _ _ n n n f _ H46.out.at_ H6.out.at_ hn).mono ?_
    rintro e w7 ⟨rfl, hb7⟩
    have HB7 := Lib.hid (HB6.out.trans (hb7.mono HB6.out.size))
    clear hb7
    go_wp2
    go_ret
    exact ⟨rfl, HB7.out⟩
end Go.Proofs.Ytlipgnjknfmikaa
