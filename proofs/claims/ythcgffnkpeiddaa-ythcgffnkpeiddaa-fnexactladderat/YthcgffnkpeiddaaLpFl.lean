/-
  Lists of floats: the laws' conversion and comparison, the program's test of measures.
-/
import Derived.Test.YthcgffnkpeiddaaLpFn
import Derived.Test.YthcgffnkpeiddaaLpMem
import Derived.Test.YthcgffnkpeiddaaKeep
namespace Go.Proofs.Ythcgffnkpeiddaa
open Go.RowKit Go.Deep

attribute [local go_sem] lrun_store_float lrun_store_complex
theorem linfo_f64 : (Try.prog.info? 22).map (fun i => (i.zero, i.size, i.bytes)) = some (some (.float .f64 0), 1, 8) := by kernel_rfl

namespace Fl
/-- The first n are measures. -/
def allB (f : Nat → Nat) : Nat → Bool
  | 0 => true
  | n + 1 => allB f n && measB (f n)
theorem allB_at {f : Nat → Nat} : ∀ {n : Nat}, allB f n = true → ∀ i, i < n → measB (f i) = true
  | 0, _, i, hi => absurd hi (Nat.not_lt_zero _)
  | n + 1, h, i, hi => by
    have h2 := Bool.and_eq_true_iff.1 h
    by_cases e : i = n
    · subst e; exact h2.2
    · exact allB_at h2.1 i (by omega)
theorem allB_no {f : Nat → Nat} {n i : Nat} (hi : i < n) (h : measB (f i) = false) : allB f n = false := by
  cases hh : allB f n with
  | false => rfl
  | true => rw [allB_at hh i hi] at h; cases h
theorem allB_of {f : Nat → Nat} : ∀ {n : Nat}, (∀ i, i < n → measB (f i) = true) → allB f n = true
  | 0, _ => rfl
  | n + 1, h => by
    show (allB f n && measB (f n)) = true
    rw [allB_of (fun i hi => h i (by omega)), h n (by omega)]; rfl
end Fl
end Go.Proofs.Ythcgffnkpeiddaa
