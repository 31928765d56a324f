/-
  The contracts of both packages' measures and KeepFloat, and of the comparison of a float with itself.
-/
import Derived.Test.YtemmmhkjjcmcmakProg
import Derived.Test.YtemmmhkjjcmcmakFloat
import Derived.WalkKit
import Derived.WalkSpells
import Derived.WalkLawsBesides
import Derived.Below
namespace Go.Proofs.Ytemmmhkjjcmcmak
open Go.RowKit

set_option maxHeartbeats 400000 in
theorem same_any (x : Nat) (w : World) :
    Calls Try.prog 8 #[.float .f64 x, .float .f64 x] w fun e w' => e = .returned (.bool true) ∧ w' = w := by
  by_cases h1 : FloatKind.f64.format.order x x = some .eq
  · by_cases h2 : FloatKind.f64.format.order x 0 = some .eq
    · obtain ⟨r, hr⟩ := Fl.div_zero x h2
      have hq := fun (wx : World) => run_float_arith (P := Try.prog) (w := wx) .quo 22 .f64 4607182418800017408 x r hr
      clear hr
      go_enter Try.func8, Try.ntmps8
      go_wp2
      go_ret
      exact ⟨rfl, rfl⟩
    · go_enter Try.func8, Try.ntmps8
      go_wp2
      go_ret
      exact ⟨rfl, rfl⟩
  · have h1' : (FloatKind.f64.format.order x x != some .eq) = true := by simpa using h1
    go_enter Try.func8, Try.ntmps8
    go_wp2
    go_ret
    exact ⟨rfl, rfl⟩

set_option maxHeartbeats 400000 in
theorem specMeas_any (x : Nat) (w : World) :
    Calls Try.prog 15 #[.float .f64 x] w fun e w' => e = .returned (.bool (Fl.measB x)) ∧ w' = w := by
  unfold Fl.measB
  go_enter Try.func15, Try.ntmps15
  go_wp2
  · go_ret
    exact ⟨rfl, rfl⟩
  · go_ret
    rename_i h
    refine ⟨?_, rfl⟩
    have : (FloatKind.f64.format.order x 13965043853221167104 == some Ordering.gt || FloatKind.f64.format.order x 13965043853221167104 == some Ordering.eq) = false := by
      rw [Bool.eq_false_iff]; intro k; apply h; simpa using k
    rw [this]
    rfl

set_option maxHeartbeats 400000 in
theorem implMeas_any (x : Nat) (w : World) :
    Calls Try.prog 16 #[.float .f64 x] w fun e w' => e = .returned (.bool (Fl.measB x)) ∧ w' = w := by
  unfold Fl.measB
  go_enter Try.func16, Try.ntmps16
  go_wp2
  · go_ret
    exact ⟨rfl, rfl⟩
  · go_ret
    rename_i h
    refine ⟨?_, rfl⟩
    have : (FloatKind.f64.format.order x 13965043853221167104 == some Ordering.gt || FloatKind.f64.format.order x 13965043853221167104 == some Ordering.eq) = false := by
      rw [Bool.eq_false_iff]; intro k; apply h; simpa using k
    rw [this]
    rfl

set_option maxHeartbeats 400000 in
theorem specKeep_no (x : Nat) (w : World) (h : Fl.measB x = false) :
    Calls Try.prog 6 #[.float .f64 x] w fun e w' => e = .returned (.float .f64 0) ∧ w' = w := by
  go_enter Try.func6, Try.ntmps6
  go_wp2_with (go_at_call 15; refine (specMeas_any _ _).mono ?_; rintro e w' ⟨rfl, rfl⟩)
  go_ret
  exact ⟨rfl, rfl⟩

set_option maxHeartbeats 400000 in
theorem specKeep_yes (x r q : Nat) (w : World) (h : Fl.measB x = true) (hr : floatToFloatBits .f64 x .f32 = some r) (hq : floatToFloatBits .f32 r .f64 = some q) :
    Calls Try.prog 6 #[.float .f64 x] w fun e w' => e = .returned (.float .f64 q) ∧ w' = w := by
  have k1 := fun (wx : World) => run_convert_float_float (P := Try.prog) (w := wx) 22 31 .f64 .f32 x r (by kernel_rfl) Try.underlying31 hr
  have k2 := fun (wx : World) => run_convert_float_float (P := Try.prog) (w := wx) 31 22 .f32 .f64 r q (by kernel_rfl) Try.underlying22 hq
  clear hr hq
  go_enter Try.func6, Try.ntmps6
  go_wp2_with (go_at_call 15; refine (specMeas_any _ _).mono ?_; rintro e w' ⟨rfl, rfl⟩)
  go_ret
  exact ⟨rfl, rfl⟩

set_option maxHeartbeats 400000 in
theorem implKeep_no (x : Nat) (w : World) (h : Fl.measB x = false) :
    Calls Try.prog 7 #[.float .f64 x] w fun e w' => e = .returned (.float .f64 0) ∧ w' = w := by
  go_enter Try.func7, Try.ntmps7
  go_wp2_with (go_at_call 16; refine (implMeas_any _ _).mono ?_; rintro e w' ⟨rfl, rfl⟩)
  go_ret
  exact ⟨rfl, rfl⟩

set_option maxHeartbeats 400000 in
theorem implKeep_yes (x r q : Nat) (w : World) (h : Fl.measB x = true) (hr : floatToFloatBits .f64 x .f32 = some r) (hq : floatToFloatBits .f32 r .f64 = some q) :
    Calls Try.prog 7 #[.float .f64 x] w fun e w' => e = .returned (.float .f64 q) ∧ w' = w := by
  have k1 := fun (wx : World) => run_convert_float_float (P := Try.prog) (w := wx) 22 31 .f64 .f32 x r (by kernel_rfl) Try.underlying31 hr
  have k2 := fun (wx : World) => run_convert_float_float (P := Try.prog) (w := wx) 31 22 .f32 .f64 r q (by kernel_rfl) Try.underlying22 hq
  clear hr hq
  go_enter Try.func7, Try.ntmps7
  go_wp2_with (go_at_call 16; refine (implMeas_any _ _).mono ?_; rintro e w' ⟨rfl, rfl⟩)
  go_ret
  exact ⟨rfl, rfl⟩

end Go.Proofs.Ytemmmhkjjcmcmak
