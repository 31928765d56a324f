/-
  The parts of a debt: the program's and the model's.
-/
import Derived.Test.YtnbnfifgajfomaaDoorBiQx
import Derived.Test.YtnbnfifgajfomaaDoorBiMath
import Derived.Test.YtnbnfifgajfomaaDoorBiW
namespace Go.Proofs.YtnbnfifgajfomaaDoor
open Go.RowKit Go.Deep

namespace Bi
noncomputable def dN (d m : Int) : Nat := if dB (DebtOk d m) = true then m.toNat else 0
theorem dN_ok {d m : Int} (h : DebtOk d m) : dN d m = m.toNat := by unfold dN; rw [dB_tt h]; rfl
theorem dN_no {d m : Int} (h : ¬ DebtOk d m) : dN d m = 0 := by unfold dN; rw [dB_ff h]; rfl
theorem dN_le (d m : Int) : dN d m ≤ 120 := by
  by_cases h : DebtOk d m
  · rw [dN_ok h]; have := h.2; omega
  · rw [dN_no h]; omega
end Bi
end Go.Proofs.YtnbnfifgajfomaaDoor
