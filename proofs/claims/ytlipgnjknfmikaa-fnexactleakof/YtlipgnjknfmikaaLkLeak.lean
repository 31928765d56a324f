/-
  The exact law of LeakOf.
-/
import Derived.Test.YtlipgnjknfmikaaLkLaw
namespace Go.Proofs.Ytlipgnjknfmikaa
open Go.RowKit Go.Deep

set_option maxHeartbeats 400000 in
theorem kwithin_any (x m : Int) (w : World) :
    Calls Try.prog 41 #[.int .i64 x, .int .i64 m] w fun e w' => e = .returned (.bool (decide (0 ≤ x ∧ x ≤ m))) ∧ w' = w := by
  by_cases h1 : 0 ≤ x
  · by_cases h2 : x ≤ m
    · rw [decide_eq_true (show 0 ≤ x ∧ x ≤ m from ⟨h1, h2⟩)]
      go_enter Try.func41, Try.ntmps41
      go_wp2_with fail
      go_ret
      exact ⟨rfl, rfl⟩
    · rw [decide_eq_false (show ¬ (0 ≤ x ∧ x ≤ m) from fun h => h2 h.2)]
      go_enter Try.func41, Try.ntmps41
      go_wp2_with fail
      go_ret
      exact ⟨rfl, rfl⟩
  · rw [decide_eq_false (show ¬ (0 ≤ x ∧ x ≤ m) from fun h => h1 h.1)]
    go_enter Try.func41, Try.ntmps41
    go_wp2_with fail
    go_ret
    exact ⟨rfl, rfl⟩

namespace Lk
open Fl
theorem int_bd {z : Int} (h0 : 0 ≤ z) (h1 : z ≤ 1000000) : Bd 20 (floatOfInt .f64 z) := by
  refine (bd_write (decide (z < 0)) z.natAbs 0 19 ?_ (by omega) (by omega)).1
  right
  have : z.natAbs < 2 ^ (19 + 1) := by rw [show 2 ^ (19 + 1) = 1048576 by decide]; omega
  have := log2_le this
  omega
def leakL (f : Nat → Nat) (n : Nat) (z : Int) (x : Nat) : Nat := subW (lineW f n) (mulW x (floatOfInt .f64 z))
structure LeakF (f : Nat → Nat) (n : Nat) (z : Int) (x : Nat) : Prop where
  mul : floatBits .mul .f64 x (floatOfInt .f64 z) = some (mulW x (floatOfInt .f64 z))
  sub : floatBits .sub .f64 (lineW f n) (mulW x (floatOfInt .f64 z)) = some (leakL f n z x)
theorem leak_f {f : Nat → Nat} {n : Nat} {z : Int} {x : Nat} (h0 : 0 ≤ z) (h1 : z ≤ 1000000) (hx : measB x = true) : LeakF f n z x := by
  have h2 := mulW_bd (meas_bd hx) (int_bd h0 h1) (by omega) (by omega)
  have h3 := subW_bd (k := 51) ((line_some f n).2.mono (by omega)) (h2.2.mono (by omega)) (by omega) (by omega)
  exact ⟨h2.1, h3.1⟩
def leakOk (f : Nat → Nat) (n : Nat) (z : Int) (x : Nat) : Bool := decide (n ≤ 400) && (decide (0 ≤ z ∧ z ≤ 1000000) && (measB x && !((best f n).1 == -1)))
def leakA (f : Nat → Nat) (n : Nat) (z : Int) (x : Nat) : Nat := if leakOk f n z x && !ltW (leakL f n z x) 0 then leakL f n z x else 0
end Lk

set_option maxHeartbeats 4000000 in
theorem iLeak_any (a : Option Addr) (n cap : Nat) (f : Nat → Nat) (z : Int) (x : Nat) (w : World) (h : FlAt a n f w) :
    Calls Try.prog 25 #[.slice a n cap, .int .i64 z, .float .f64 x] w fun e w' => e = .returned (.float .f64 (Lk.leakA f n z x)) ∧ Below w.heap.size w w' := by
  have H := Lib.hid h
  clear h
  by_cases hn : n ≤ 400
  rotate_left
  · have HA : Hid (Lk.leakA f n z x = 0) := by show _ = _; unfold Lk.leakA Lk.leakOk; rw [decide_eq_false hn]; rfl
    have hz : (400 : Int) < (n : Int) := by omega
    clear hn
    go_enter Try.func25, Try.ntmps25
    go_wp2_with fail
    go_ret
    exact ⟨by rw [HA.out]; rfl, Below.refl _ _⟩
  have hz : ¬ (400 : Int) < (n : Int) := by omega
  cases hw : decide (0 ≤ z ∧ z ≤ 1000000)
  · have HA : Hid (Lk.leakA f n z x = 0) := by show _ = _; unfold Lk.leakA Lk.leakOk; rw [hw, Bool.false_and, Bool.and_false]; rfl
    go_enter Try.func25, Try.ntmps25
    go_wp2_with fail
    refine (kwithin_any _ _ _).mono ?_
    rintro e w1 ⟨rfl, rfl⟩
    rw [hw]
    clear hw
    go_wp2_with fail
    go_ret
    exact ⟨by rw [HA.out]; rfl, Below.refl _ _⟩
  cases hx : Fl.measB x
  · have HA : Hid (Lk.leakA f n z x = 0) := by show _ = _; unfold Lk.leakA Lk.leakOk; rw [hx, Bool.false_and, Bool.and_false, Bool.and_false]; rfl
    go_enter Try.func25, Try.ntmps25
    go_wp2_with fail
    refine (kwithin_any _ _ _).mono ?_
    rintro e w1 ⟨rfl, rfl⟩
    rw [hw]
    clear hw
    go_wp2_with fail
    refine (implMeas_any _ _).mono ?_
    rintro e w1 ⟨rfl, rfl⟩
    go_wp2_with fail
    go_ret
    exact ⟨by rw [HA.out]; rfl, Below.refl _ _⟩
  cases hb : (Lk.best f n).1 == -1
  rotate_left
  · have HA : Hid (Lk.leakA f n z x = 0) := by show _ = _; unfold Lk.leakA Lk.leakOk; rw [hb, Bool.not_true, Bool.and_false, Bool.and_false, Bool.and_false]; rfl
    go_enter Try.func25, Try.ntmps25
    go_wp2_with fail
    refine (kwithin_any _ _ _).mono ?_
    rintro e w1 ⟨rfl, rfl⟩
    rw [hw]
    clear hw
    go_wp2_with fail
    refine (implMeas_any _ _).mono ?_
    rintro e w1 ⟨rfl, rfl⟩
    go_wp2_with fail
    refine (iNightAt_any a n cap f _ H.out hn).mono ?_
    rintro e w2 ⟨rfl, hB⟩
    have HB := Lib.hid hB
    clear hB
    go_wp2_with fail
    go_ret
    exact ⟨by rw [HA.out]; rfl, HB.out⟩
  have hok : Lk.leakOk f n z x = true := by unfold Lk.leakOk; rw [decide_eq_true hn, hw, hx, hb]; rfl
  have hz2 := of_decide_eq_true hw
  have hF := Lk.leak_f (f := f) (n := n) hz2.1 hz2.2 hx
  have hq1 := fun (wx : World) => run_float_arith (P := Try.prog) (w := wx) .mul 27 .f64 _ _ _ hF.mul
  have hq2 := fun (wx : World) => run_float_arith (P := Try.prog) (w := wx) .sub 27 .f64 _ _ _ hF.sub
  cases hl : Fl.ltW (Lk.leakL f n z x) 0
  · have HA : Hid (Lk.leakA f n z x = Lk.leakL f n z x) := by show _ = _; unfold Lk.leakA; rw [hok, hl]; rfl
    unfold Fl.ltW at hl
    clear hok hF
    go_enter Try.func25, Try.ntmps25
    go_wp2_with fail
    refine (kwithin_any _ _ _).mono ?_
    rintro e w1 ⟨rfl, rfl⟩
    rw [hw]
    clear hw
    go_wp2_with fail
    refine (implMeas_any _ _).mono ?_
    rintro e w1 ⟨rfl, rfl⟩
    go_wp2_with fail
    refine (iNightAt_any a n cap f _ H.out hn).mono ?_
    rintro e w2 ⟨rfl, hB⟩
    have HB := Lib.hid hB
    clear hB
    go_wp2_with fail
    refine (iNightLine_any a n cap f _ (H.out.below HB.out) hn).mono ?_
    rintro e w3 ⟨rfl, hB⟩
    have HB3 := Lib.hid (HB.out.trans (hB.mono HB.out.size))
    clear hB HB
    go_wp2_with fail
    go_ret
    exact ⟨by rw [HA.out]; rfl, HB3.out⟩
  · have HA : Hid (Lk.leakA f n z x = 0) := by show _ = _; unfold Lk.leakA; rw [hl, Bool.not_true, Bool.and_false]; rfl
    unfold Fl.ltW at hl
    clear hok hF
    go_enter Try.func25, Try.ntmps25
    go_wp2_with fail
    refine (kwithin_any _ _ _).mono ?_
    rintro e w1 ⟨rfl, rfl⟩
    rw [hw]
    clear hw
    go_wp2_with fail
    refine (implMeas_any _ _).mono ?_
    rintro e w1 ⟨rfl, rfl⟩
    go_wp2_with fail
    refine (iNightAt_any a n cap f _ H.out hn).mono ?_
    rintro e w2 ⟨rfl, hB⟩
    have HB := Lib.hid hB
    clear hB
    go_wp2_with fail
    refine (iNightLine_any a n cap f _ (H.out.below HB.out) hn).mono ?_
    rintro e w3 ⟨rfl, hB⟩
    have HB3 := Lib.hid (HB.out.trans (hB.mono HB.out.size))
    clear hB HB
    go_wp2_with fail
    go_ret
    exact ⟨by rw [HA.out]; rfl, HB3.out⟩

theorem best_sign (f : Nat → Nat) (n : Nat) : ((Lk.best f n).1 == -1) = true ∧ (Lk.best f n).1 < 0 ∨ ((Lk.best f n).1 == -1) = false ∧ ¬ (Lk.best f n).1 < 0 := by
  rcases Lk.best_f f n with ⟨h, _⟩ | ⟨i, _, _, h, _⟩
  · left; rw [h]; exact ⟨rfl, by decide⟩
  · right; rw [h]; exact ⟨by simp, by show ¬ (i : Int) < 0; omega⟩
set_option maxHeartbeats 4000000 in
theorem sLeak_any (a : Option Addr) (n cap : Nat) (f : Nat → Nat) (z : Int) (x : Nat) (w : World) (h : FlAt a n f w) (hcap : n ≤ cap) :
    Calls Try.prog 24 #[.slice a n cap, .int .i64 z, .float .f64 x] w fun e w' => e = .returned (.float .f64 (Lk.leakA f n z x)) ∧ w' = w := by
  have H := Lib.hid h
  clear h
  by_cases hn : n ≤ 400
  rotate_left
  · have HA : Hid (Lk.leakA f n z x = 0) := by show _ = _; unfold Lk.leakA Lk.leakOk; rw [decide_eq_false hn]; rfl
    have hz : (400 : Int) < (n : Int) := by omega
    clear hn
    go_enter Try.func24, Try.ntmps24
    go_wp2_with fail
    go_ret
    exact ⟨by rw [HA.out]; rfl, rfl⟩
  have hz : ¬ (400 : Int) < (n : Int) := by omega
  rcases best_sign f n with ⟨hb, hb2⟩ | ⟨hb, hb2⟩
  · have HA : Hid (Lk.leakA f n z x = 0) := by show _ = _; unfold Lk.leakA Lk.leakOk; rw [hb, Bool.not_true, Bool.and_false, Bool.and_false, Bool.and_false]; rfl
    clear hb
    go_enter Try.func24, Try.ntmps24
    go_wp2_with fail
    refine (sNightAt_any a n cap f _ H.out hcap hn).mono ?_
    rintro e w2 ⟨rfl, rfl⟩
    go_wp2_with fail
    go_ret
    exact ⟨by rw [HA.out]; rfl, rfl⟩
  by_cases h0 : 0 ≤ z
  rotate_left
  · have HA : Hid (Lk.leakA f n z x = 0) := by show _ = _; unfold Lk.leakA Lk.leakOk; rw [decide_eq_false (show ¬ (0 ≤ z ∧ z ≤ 1000000) from fun h => h0 h.1), Bool.false_and, Bool.and_false]; rfl
    clear hb
    go_enter Try.func24, Try.ntmps24
    go_wp2_with fail
    refine (sNightAt_any a n cap f _ H.out hcap hn).mono ?_
    rintro e w2 ⟨rfl, rfl⟩
    go_wp2_with fail
    go_ret
    exact ⟨by rw [HA.out]; rfl, rfl⟩
  by_cases h1 : z ≤ 1000000
  rotate_left
  · have HA : Hid (Lk.leakA f n z x = 0) := by show _ = _; unfold Lk.leakA Lk.leakOk; rw [decide_eq_false (show ¬ (0 ≤ z ∧ z ≤ 1000000) from fun h => h1 h.2), Bool.false_and, Bool.and_false]; rfl
    clear hb
    go_enter Try.func24, Try.ntmps24
    go_wp2_with fail
    refine (sNightAt_any a n cap f _ H.out hcap hn).mono ?_
    rintro e w2 ⟨rfl, rfl⟩
    go_wp2_with fail
    go_ret
    exact ⟨by rw [HA.out]; rfl, rfl⟩
  cases hx : Fl.measB x
  · have HA : Hid (Lk.leakA f n z x = 0) := by show _ = _; unfold Lk.leakA Lk.leakOk; rw [hx, Bool.false_and, Bool.and_false, Bool.and_false]; rfl
    clear hb
    go_enter Try.func24, Try.ntmps24
    go_wp2_with fail
    refine (sNightAt_any a n cap f _ H.out hcap hn).mono ?_
    rintro e w2 ⟨rfl, rfl⟩
    go_wp2_with fail
    refine (specMeas_any _ _).mono ?_
    rintro e w1 ⟨rfl, rfl⟩
    go_wp2_with fail
    go_ret
    exact ⟨by rw [HA.out]; rfl, rfl⟩
  have hok : Lk.leakOk f n z x = true := by unfold Lk.leakOk; rw [decide_eq_true hn, decide_eq_true (show 0 ≤ z ∧ z ≤ 1000000 from ⟨h0, h1⟩), hx, hb]; rfl
  have hF := Lk.leak_f (f := f) (n := n) h0 h1 hx
  have hq1 := fun (wx : World) => run_float_arith (P := Try.prog) (w := wx) .mul 27 .f64 _ _ _ hF.mul
  have hq2 := fun (wx : World) => run_float_arith (P := Try.prog) (w := wx) .sub 27 .f64 _ _ _ hF.sub
  cases hl : Fl.ltW (Lk.leakL f n z x) 0
  · have HA : Hid (Lk.leakA f n z x = Lk.leakL f n z x) := by show _ = _; unfold Lk.leakA; rw [hok, hl]; rfl
    unfold Fl.ltW at hl
    clear hok hF hb
    go_enter Try.func24, Try.ntmps24
    go_wp2_with fail
    refine (sNightAt_any a n cap f _ H.out hcap hn).mono ?_
    rintro e w2 ⟨rfl, rfl⟩
    go_wp2_with fail
    refine (specMeas_any _ _).mono ?_
    rintro e w1 ⟨rfl, rfl⟩
    go_wp2_with fail
    refine (sNightLine_any a n cap f _ H.out hcap hn).mono ?_
    rintro e w3 ⟨rfl, rfl⟩
    go_wp2_with fail
    go_ret
    exact ⟨by rw [HA.out]; rfl, rfl⟩
  · have HA : Hid (Lk.leakA f n z x = 0) := by show _ = _; unfold Lk.leakA; rw [hl, Bool.not_true, Bool.and_false]; rfl
    unfold Fl.ltW at hl
    clear hok hF hb
    go_enter Try.func24, Try.ntmps24
    go_wp2_with fail
    refine (sNightAt_any a n cap f _ H.out hcap hn).mono ?_
    rintro e w2 ⟨rfl, rfl⟩
    go_wp2_with fail
    refine (specMeas_any _ _).mono ?_
    rintro e w1 ⟨rfl, rfl⟩
    go_wp2_with fail
    refine (sNightLine_any a n cap f _ H.out hcap hn).mono ?_
    rintro e w3 ⟨rfl, rfl⟩
    go_wp2_with fail
    go_ret
    exact ⟨by rw [HA.out]; rfl, rfl⟩

set_option maxHeartbeats 2000000 in
theorem leakOf_law (w : World) (a : Option Addr) (n k : Nat) (f : Nat → Nat) (h : FlIn a n f w) (_u : n ≤ 9223372036854775807) (z : Int) (x : Nat) (_y : x < 18446744073709551616) :
    Calls Try.prog 7 #[.slice a n k, .int .i64 z, .float .f64 x] w fun e w' => e = .returned (.bool true) ∧ Below w.heap.size w w' := by
  clear _u _y
  by_cases hbig : 1048576 < n
  · have hz : (1048576 : Int) < (n : Int) := by omega
    clear h
    go_enter Try.func7, Try.ntmps7
    go_wp2
    go_ret
    exact ⟨rfl, Below.refl _ _⟩
  · have hz : ¬ (1048576 : Int) < (n : Int) := by omega
    have hn : n ≤ 1048576 := by omega
    have H := Lib.hid h
    clear h
    go_enter Try.func7, Try.ntmps7
    go_wp2_with fail
    refine (toFl_any a n k f _ H.out hn).mono ?_
    rintro e w1 ⟨rfl, h1, hb1⟩
    have H1 := Lib.hid h1
    have HB1 := Lib.hid hb1
    clear h1 hb1
    go_wp2_with fail
    refine (sLeak_any _ n n f z x _ H1.out.at_ (Nat.le_refl _)).mono ?_
    rintro e w2 ⟨rfl, rfl⟩
    go_wp2_with fail
    refine (toFl_any a n k f _ (H.out.below HB1.out) hn).mono ?_
    rintro e w3 ⟨rfl, h3, hb3⟩
    have H3 := Lib.hid h3
    have HB3 := Lib.hid (HB1.out.trans (hb3.mono HB1.out.size))
    clear h3 hb3
    go_wp2_with fail
    refine (iLeak_any _ n n f z x _ H3.out.at_).mono ?_
    rintro e w4 ⟨rfl, hb4⟩
    have H4 := Lib.hid (H3.out.below hb4)
    have HB4 := Lib.hid (HB3.out.trans (hb4.mono HB3.out.size))
    clear hb4 H3
    go_wp2_with fail
    refine (same_any _ _).mono ?_
    rintro e w5 ⟨rfl, rfl⟩
    go_wp2_with fail
    refine (toFl_any a n k f _ (H.out.below HB4.out) hn).mono ?_
    rintro e w6 ⟨rfl, h6, hb6⟩
    have H6 := Lib.hid h6
    have H46 := Lib.hid (H4.out.below hb6)
    have HB6 := Lib.hid (HB4.out.trans (hb6.mono HB4.out.size))
    clear h6 hb6
    go_wp2_with fail
    refine (eqFl_same _ _ n n n f _ H46.out.at_ H6.out.at_ hn).mono ?_
    rintro e w7 ⟨rfl, hb7⟩
    have HB7 := Lib.hid (HB6.out.trans (hb7.mono HB6.out.size))
    clear hb7
    go_wp2
    go_ret
    exact ⟨rfl, HB7.out⟩
end Go.Proofs.Ytlipgnjknfmikaa
