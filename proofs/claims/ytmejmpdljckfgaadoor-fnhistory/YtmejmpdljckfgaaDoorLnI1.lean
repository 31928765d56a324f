/-
  StationRight: the program's.
-/
import Derived.Test.YtmejmpdljckfgaaDoorLnMem
namespace Go.Proofs.YtmejmpdljckfgaaDoor
open Go.RowKit Go.Deep

noncomputable def lB (P : Prop) : Bool := @decide P (Classical.propDecidable P)
theorem lB_tt {P : Prop} (h : P) : lB P = true := @decide_eq_true P (Classical.propDecidable P) h
theorem lB_ff {P : Prop} (h : ¬ P) : lB P = false := @decide_eq_false P (Classical.propDecidable P) h
theorem lB_iff {P : Prop} : lB P = true ↔ P := @decide_eq_true_iff P (Classical.propDecidable P)
theorem lwithin_any (n most : Int) (w : World) :
    Calls Tryd.prog 47 #[.int .i64 n, .int .i64 most] w fun e w' => e = .returned (.bool (decide (0 ≤ n ∧ n ≤ most))) ∧ w' = w := by
  go_enter Tryd.func47, Tryd.ntmps47
  go_wp2_with fail
  all_goals
    go_ret
    exact ⟨by congr 2; simp <;> omega, rfl⟩
theorem labout_any (n m : Int) (h0 : 0 ≤ m) (h1 : m ≤ 1000000) (w : World) :
    Calls Tryd.prog 46 #[.int .i64 n, .int .i64 m] w fun e w' => e = .returned (.bool (decide (-m ≤ n ∧ n ≤ m))) ∧ w' = w := by
  go_enter Tryd.func46, Tryd.ntmps46
  go_wp2_with fail
  all_goals
    go_ret
    exact ⟨by congr 2; simp <;> omega, rfl⟩
end Go.Proofs.YtmejmpdljckfgaaDoor
