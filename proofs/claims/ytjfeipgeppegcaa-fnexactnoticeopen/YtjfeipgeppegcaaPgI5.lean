/-
  The program's test of nevers, and of a program.
-/
import Derived.Test.YtjfeipgeppegcaaPgI4
import Derived.Test.YtjfeipgeppegcaaJbRs
import Derived.Test.YtjfeipgeppegcaaReg
namespace Go.Proofs.Ytjfeipgeppegcaa
open Go.RowKit Go.Deep

namespace Pg
def cmpI (a b : Int) : Int := if a < b then -1 else if b < a then 1 else 0
def orI (x y : Int) : Int := if x = 0 then y else x
def cmpP (a b c d : Int) : Int := orI (cmpI a c) (cmpI b d)
theorem cmpI_range (a b : Int) : -1 ≤ cmpI a b ∧ cmpI a b ≤ 1 := by
  unfold cmpI
  by_cases h : a < b
  · rw [if_pos h]; omega
  · rw [if_neg h]
    by_cases k : b < a
    · rw [if_pos k]; omega
    · rw [if_neg k]; omega
theorem cmpP_le (a b c d : Int) : cmpP a b c d ≤ 0 ↔ ¬ (c < a ∨ (c = a ∧ d < b)) := by
  unfold cmpP orI cmpI
  by_cases h : a < c
  · rw [if_pos h]
    simp
    omega
  · rw [if_neg h]
    by_cases k : c < a
    · rw [if_pos k]
      simp
      omega
    · rw [if_neg k]
      simp
      by_cases h2 : b < d
      · rw [if_pos h2]; omega
      · rw [if_neg h2]
        by_cases k2 : d < b
        · rw [if_pos k2]; omega
        · rw [if_neg k2]; omega
end Pg
end Go.Proofs.Ytjfeipgeppegcaa
