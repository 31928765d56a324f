/-
  The contract of the laws' markText.
-/
import Derived.Test.YtiaeobocenanlaaDoorNums
import Derived.Lib.ConvBytes
import Derived.Deep.Heap
namespace Go.Proofs.YtiaeobocenanlaaDoor
open Go.RowKit

/-- The digits of a number ahead of others. -/
def markD : Nat → List UInt8 → List UInt8
  | 0, out => out
  | k + 1, out => markD ((k + 1) / 10) (UInt8.ofNat (48 + (k + 1) % 10) :: out)
decreasing_by omega
theorem markD_pos (k : Nat) (out : List UInt8) (h : 0 < k) : markD k out = markD (k / 10) (UInt8.ofNat (48 + k % 10) :: out) := by
  obtain ⟨m, rfl⟩ : ∃ m, k = m + 1 := ⟨k - 1, by omega⟩
  rw [markD]
/-- What a place is marked with. -/
def markB (k : Nat) : ByteArray := if k = 0 then ⟨#[109, 48]⟩ else ⟨(109 :: markD k []).toArray⟩

end Go.Proofs.YtiaeobocenanlaaDoor
