/-
  Fractions as pairs: the raw quotients of the four operations, their codes and values.
-/
import Derived.Test.YtkaokfmaecdkiaaGreatDoorOpCommon
namespace Go.Proofs.YtkaokfmaecdkiaaGreatDoor

namespace Fq
/-- A fraction that is right. -/
def R (x : Int × Int) : Prop := M.rightB x.1 x.2 = true
def add (x y : Int × Int) : Int × Int := (x.1 * y.2 + y.1 * x.2, x.2 * y.2)
def sub (x y : Int × Int) : Int × Int := (x.1 * y.2 - y.1 * x.2, x.2 * y.2)
def mul (x y : Int × Int) : Int × Int := (x.1 * y.1, x.2 * y.2)
def div (x y : Int × Int) : Int × Int := (x.1 * y.2, x.2 * y.1)
def code (q : Int × Int) : Int := M.codeF q.1 q.2
def val (q : Int × Int) : Int × Int := (M.oN q.1 q.2, M.oD q.1 q.2)
theorem R.bd {x : Int × Int} (h : R x) : (1 ≤ x.2 ∧ x.2 ≤ 2147483647) ∧ (-2147483647 ≤ x.1 ∧ x.1 ≤ 2147483647) := by
  have := (M.rightB_iff _ _).1 h; omega
theorem val_right {q : Int × Int} (h0 : q.2 ≠ 0) (h1 : q.1 ≠ -9223372036854775808) (h2 : q.2 ≠ -9223372036854775808) (hc : code q = 0) : R (val q) := by
  have h := (M.right_low q.1 q.2 h0 h1 h2).2 hc
  unfold code at hc
  unfold R val M.oN M.oD
  simp only [if_pos hc]
  exact h
theorem code_or {q : Int × Int} (h0 : q.2 ≠ 0) : code q = 0 ∨ code q = 5 := by
  unfold code M.codeF
  rw [if_neg h0]
  split
  · exact Or.inr rfl
  · split
    · exact Or.inr rfl
    · exact Or.inl rfl
theorem sub_fit {x y : Int × Int} (hx : R x) (hy : R y) : (sub x y).2 ≠ 0 ∧ (sub x y).1 ≠ -9223372036854775808 ∧ (sub x y).2 ≠ -9223372036854775808 := by
  have a := hx.bd; have b := hy.bd
  have p1 := M.prod_bd a.2.1 a.2.2 b.1.1 b.1.2
  have p2 := M.prod_bd b.2.1 b.2.2 a.1.1 a.1.2
  have p3 := M.pos_prod a.1.1 b.1.1
  have p4 := M.prod_bd (a := x.2) (b := y.2) (by omega) a.1.2 b.1.1 b.1.2
  unfold sub
  exact ⟨p3, by show x.1 * y.2 - y.1 * x.2 ≠ _; omega, by show x.2 * y.2 ≠ _; omega⟩
theorem add_fit {x y : Int × Int} (hx : R x) (hy : R y) : (add x y).2 ≠ 0 ∧ (add x y).1 ≠ -9223372036854775808 ∧ (add x y).2 ≠ -9223372036854775808 := by
  have a := hx.bd; have b := hy.bd
  have p1 := M.prod_bd a.2.1 a.2.2 b.1.1 b.1.2
  have p2 := M.prod_bd b.2.1 b.2.2 a.1.1 a.1.2
  have p3 := M.pos_prod a.1.1 b.1.1
  have p4 := M.prod_bd (a := x.2) (b := y.2) (by omega) a.1.2 b.1.1 b.1.2
  unfold add
  exact ⟨p3, by show x.1 * y.2 + y.1 * x.2 ≠ _; omega, by show x.2 * y.2 ≠ _; omega⟩
theorem mul_fit {x y : Int × Int} (hx : R x) (hy : R y) : (mul x y).2 ≠ 0 ∧ (mul x y).1 ≠ -9223372036854775808 ∧ (mul x y).2 ≠ -9223372036854775808 := by
  have a := hx.bd; have b := hy.bd
  have p1 := M.prod_bd2 a.2.1 a.2.2 b.2.1 b.2.2
  have p3 := M.pos_prod a.1.1 b.1.1
  have p4 := M.prod_bd (a := x.2) (b := y.2) (by omega) a.1.2 b.1.1 b.1.2
  unfold mul
  exact ⟨p3, by show x.1 * y.1 ≠ _; omega, by show x.2 * y.2 ≠ _; omega⟩
theorem div_fit {x y : Int × Int} (hx : R x) (hy : R y) (h0 : y.1 ≠ 0) : (div x y).2 ≠ 0 ∧ (div x y).1 ≠ -9223372036854775808 ∧ (div x y).2 ≠ -9223372036854775808 := by
  have a := hx.bd; have b := hy.bd
  have p1 := M.prod_bd a.2.1 a.2.2 b.1.1 b.1.2
  have p4 := M.prod_bd2 (a := x.2) (b := y.1) (by omega) a.1.2 b.2.1 b.2.2
  unfold div
  exact ⟨Int.mul_ne_zero (by omega) h0, by show x.1 * y.2 ≠ _; omega, by show x.2 * y.1 ≠ _; omega⟩
/-- A whole number. -/
theorem whole_ok {z : Int} (h1 : -2147483647 ≤ z) (h2 : z ≤ 2147483647) : M.codeF z 1 = 0 ∧ M.oN z 1 = z ∧ M.oD z 1 = 1 ∧ M.rightB z 1 = true := by
  have hg : Int.gcd z 1 = 1 := by simp
  have hn : M.lowN z 1 = z := by unfold M.lowN; rw [if_neg (by omega), hg]; simp
  have hd : M.lowD z 1 = 1 := by unfold M.lowD; rw [if_neg (by omega), hg]; simp
  have hc : M.codeF z 1 = 0 := by
    unfold M.codeF
    rw [if_neg (by omega), if_neg (by omega), hn, hd, if_neg (by omega)]
  refine ⟨hc, ?_, ?_, (M.rightB_iff _ _).2 ⟨by omega, by omega, by omega, by omega, hg⟩⟩
  · unfold M.oN; rw [if_pos hc, hn]
  · unfold M.oD; rw [if_pos hc, hd]
end Fq
end Go.Proofs.YtkaokfmaecdkiaaGreatDoor
