/-
  Answers of mains, both sides.
-/
import Derived.Test.YtfgmalnkpgloiaaGreatDoorMnEx4
import Derived.Test.YtfgmalnkpgloiaaGreatDoorEt
namespace Go.Proofs.YtfgmalnkpgloiaaGreatDoor
open Go.RowKit Go.Deep

/-- What an answer of mains tells. -/
structure MoD where
  fn : Nat
  F : Nat → Int
  hn : Nat
  Hd : Nat → Int
  rest : Int
  rounds : Int
  at_ : Int
  code : Int
def MoAns (d : MoD) (B : Nat) (e : Ending) (W : World) : Prop := ∃ a c p q, e = .returned (moV a d.fn c p d.hn q d.rest d.rounds d.at_ d.code) ∧ Ow2 B d.fn c d.hn q a p d.F d.Hd W
end Go.Proofs.YtfgmalnkpgloiaaGreatDoor
