/-
  Errors that bear a code, however often they are wrapped.
-/
import Derived.Test.YtipmjobhegpdgaaGreatDoorAsC
import Derived.Test.YtipmjobhegpdgaaGreatDoorEt
namespace Go.Proofs.YtipmjobhegpdgaaGreatDoor
open Go.RowKit

/-- An error that bears a code. -/
def ErrIs (v : Value) (k : Int) : Prop := ∃ y, v = .iface 95 y ∧ AsFinds y k
theorem errIs_one (s : ByteArray) (k : Int) : ErrIs (errV s k) k := ⟨_, rfl, finds_one s k⟩
theorem errIs_two (s0 s : ByteArray) (k : Int) : ErrIs (.iface 95 (.agg #[.string s0, errV s k])) k := ⟨_, rfl, finds_two s0 s k⟩
end Go.Proofs.YtipmjobhegpdgaaGreatDoor
