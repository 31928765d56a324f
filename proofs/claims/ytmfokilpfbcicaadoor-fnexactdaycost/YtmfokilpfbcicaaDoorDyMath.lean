/-
  Days: right ones, plans of them, what they cost: mathematics.
-/
import Derived.Test.YtmfokilpfbcicaaDoorDyMem
import Derived.Test.YtmfokilpfbcicaaDoorPlMath
namespace Go.Proofs.YtmfokilpfbcicaaDoor
open Go.RowKit Go.Deep

namespace Dy
/-- Numbers from 0 to a top. -/
def AllIn (k : Nat) (f : Nat → Int) (m : Int) : Prop := ∀ i, i < k → 0 ≤ f i ∧ f i ≤ m
def ModeOk (n : Day) (i : Nat) : Prop := (0 ≤ n.M (i * 2) ∧ n.M (i * 2) ≤ 300) ∧ (0 ≤ n.M (i * 2 + 1) ∧ n.M (i * 2 + 1) ≤ 1000)
structure SlotsOk (n : Day) : Prop where
  w1 : 1 ≤ n.wn
  w2 : n.wn ≤ 48
  p : n.pn = n.wn
  ws : AllIn n.wn n.W 1000
  ps : AllIn n.pn n.P 1000
structure ModesOk (n : Day) : Prop where
  m1 : 1 ≤ n.mn
  m2 : n.mn ≤ 6
  ms : ∀ i, i < n.mn → ModeOk n i
def TankOk (n : Day) : Prop := 0 ≤ n.low ∧ n.low ≤ n.tank ∧ n.tank ≤ n.high ∧ n.high ≤ 300
def Right (n : Day) : Prop := SlotsOk n ∧ ModesOk n ∧ TankOk n
/-- The tank behind so many slots. -/
def endA (n : Day) (f : Nat → Int) : Nat → Int
  | 0 => n.tank
  | i + 1 => endA n f i + (n.M ((f i).toNat * 2) - n.W i)
/-- What is paid for so many slots. -/
def costA (n : Day) (f : Nat → Int) : Nat → Int
  | 0 => 0
  | i + 1 => costA n f i + n.M ((f i).toNat * 2 + 1) * n.P i
def Fits (n : Day) (x : Int) : Prop := n.low ≤ x ∧ x ≤ n.high
def Plan (n : Day) (k : Nat) (f : Nat → Int) : Prop := ∀ i, i < k → Fits n (endA n f (i + 1))
theorem cost_bd {n : Day} {f : Nat → Int} {k : Nat} (hr : Right n) (hk : k ≤ n.wn) (hf : AllIn k f ((n.mn : Int) - 1)) : ∀ i, i ≤ k → 0 ≤ costA n f i ∧ costA n f i ≤ i * 1000000 := by
  intro i
  induction i with
  | zero => intro _; simp [costA]
  | succ i ih =>
    intro hi
    have h1 := ih (by omega)
    have h2 := hf i (by omega)
    have h3 := (hr.2.1.ms (f i).toNat (by omega)).2
    have h4 := hr.1.ps i (by have := hr.1.p; omega)
    have h5 : 0 ≤ n.M ((f i).toNat * 2 + 1) * n.P i := Int.mul_nonneg h3.1 h4.1
    have h6 : n.M ((f i).toNat * 2 + 1) * n.P i ≤ 1000 * 1000 := Int.mul_le_mul h3.2 h4.2 h4.1 (by omega)
    simp only [costA]
    omega
end Dy
end Go.Proofs.YtmfokilpfbcicaaDoor
