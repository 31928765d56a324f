/-
  The contracts of both packages' measures and KeepFloat, and of the comparison of a float with itself.
-/
import Derived.Test.YtlipgnjknfmikaaProg
import Derived.Test.YtlipgnjknfmikaaFloat
import Derived.WalkKit
import Derived.WalkSpells
import Derived.WalkLawsBesides
import Derived.Below
namespace Go.Proofs.Ytlipgnjknfmikaa
open Go.RowKit

set_option maxHeartbeats 400000 in
theorem same_any (x : Nat) (w : World) :
    Calls Try.prog 22 #[.float .f64 x, .float .f64 x] w fun e w' => e = .returned (.bool true) ∧ w' = w := by
  by_cases h1 : FloatKind.f64.format.order x x = some .eq
  · by_cases h2 : FloatKind.f64.format.order x 0 = some .eq
    · obtain ⟨r, hr⟩ := Fl.div_zero x h2
      have hq := fun (wx : World) => run_float_arith (P := Try.prog) (w := wx) .quo 27 .f64 4607182418800017408 x r hr
      clear hr
      go_enter Try.func22, Try.ntmps22
      go_wp2
      go_ret
      exact ⟨rfl, rfl⟩
    · go_enter Try.func22, Try.ntmps22
      go_wp2
      go_ret
      exact ⟨rfl, rfl⟩
  · have h1' : (FloatKind.f64.format.order x x != some .eq) = true := by simpa using h1
    go_enter Try.func22, Try.ntmps22
    go_wp2
    go_ret
    exact ⟨rfl, rfl⟩

set_option maxHeartbeats 400000 in
theorem specMeas_any (x : Nat) (w : World) :
    Calls Try.prog 39 #[.float .f64 x] w fun e w' => e = .returned (.bool (Fl.measB x)) ∧ w' = w := by
  unfold Fl.measB
  go_enter Try.func39, Try.ntmps39
  go_wp2
  · go_ret
    exact ⟨rfl, rfl⟩
  · go_ret
    rename_i h
    refine ⟨?_, rfl⟩
    have : (FloatKind.f64.format.order x 13965043853221167104 == some Ordering.gt || FloatKind.f64.format.order x 13965043853221167104 == some Ordering.eq) = false := by
      rw [Bool.eq_false_iff]; intro k; apply h; simpa using k
    rw [this]
    rfl

set_option maxHeartbeats 400000 in
theorem implMeas_any (x : Nat) (w : World) :
    Calls Try.prog 36 #[.float .f64 x] w fun e w' => e = .returned (.bool (Fl.measB x)) ∧ w' = w := by
  unfold Fl.measB
  go_enter Try.func36, Try.ntmps36
  go_wp2
  · go_ret
    exact ⟨rfl, rfl⟩
  · go_ret
    rename_i h
    refine ⟨?_, rfl⟩
    have : (FloatKind.f64.format.order x 13965043853221167104 == some Ordering.gt || FloatKind.f64.format.order x 13965043853221167104 == some Ordering.eq) = false := by
      rw [Bool.eq_false_iff]; intro k; apply h; simpa using k
    rw [this]
    rfl


end Go.Proofs.Ytlipgnjknfmikaa
