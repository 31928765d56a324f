/-
  The code of a program: mathematics.
-/
import Derived.Test.YtgkdnpnnmmpnmaaCyMath
namespace Go.Proofs.Ytgkdnpnnmmpnmaa
open Go.RowKit Go.Deep

namespace Pc
abbrev Op := Int × Int × Int
/-- What puts the truth of a block on the stack. -/
def opsB (i : Nat) (b : Pg.Bk) : List Op :=
  if b.kind = 1 then [(1, 0, 0)]
  else if b.kind = 2 then [(7, b.a, 0), (7, b.b, 0), (2, 0, 0)]
  else if b.kind = 3 then [(7, b.a, 0), (7, b.b, 0), (3, 0, 0)]
  else if b.kind = 4 then [(7, b.a, 0), (4, 0, 0)]
  else if b.kind = 5 then [(5, b.a, 0)]
  else if b.kind = 6 then [(5, (i : Int), 0), (7, b.a, 0), (3, 0, 0), (7, b.b, 0), (4, 0, 0), (2, 0, 0)]
  else [(7, b.a, 0), (8, (i : Int), b.b)]
def bks (p : Pg.Prog) : Nat → List Op
  | 0 => []
  | i + 1 => bks p i ++ opsB i (p.B i) ++ [(6, (i : Int), 0)]
def nvs (p : Pg.Prog) : Nat → List Op
  | 0 => bks p p.bn
  | j + 1 => nvs p j ++ [(7, p.N (j * 2), 0), (7, p.N (j * 2 + 1), 0), (2, 0, 0), (10, 0, 0)]
def ous (p : Pg.Prog) : Nat → List Op
  | 0 => nvs p p.nn
  | j + 1 => ous p j ++ [(7, p.O j, 0), (9, 0, 0)]
noncomputable def code (p : Pg.Prog) : List Op := @ite _ (Pg.Right p) (Classical.propDecidable _) (ous p p.on) []
theorem code_yes {p : Pg.Prog} (h : Pg.Right p) : code p = ous p p.on := by unfold code; rw [if_pos h]
theorem code_no {p : Pg.Prog} (h : ¬ Pg.Right p) : code p = [] := by unfold code; rw [if_neg h]
theorem opsB_len (i : Nat) (b : Pg.Bk) : (opsB i b).length ≤ 6 := by
  unfold opsB
  repeat' split
  all_goals simp
theorem bks_len (p : Pg.Prog) (i : Nat) : (bks p i).length ≤ i * 7 := by
  induction i with
  | zero => simp [bks]
  | succ i ih =>
    have := opsB_len i (p.B i)
    rw [bks, List.length_append, List.length_append, List.length_singleton]
    omega
theorem nvs_len (p : Pg.Prog) (j : Nat) : (nvs p j).length ≤ p.bn * 7 + j * 4 := by
  induction j with
  | zero => have := bks_len p p.bn; rw [nvs]; omega
  | succ j ih => rw [nvs, List.length_append]; simp; omega
theorem ous_len (p : Pg.Prog) (j : Nat) : (ous p j).length ≤ p.bn * 7 + p.nn * 4 + j * 2 := by
  induction j with
  | zero => have := nvs_len p p.nn; rw [ous]; omega
  | succ j ih => rw [ous, List.length_append]; simp; omega
theorem code_len (p : Pg.Prog) : (code p).length ≤ 1300 := by
  by_cases h : Pg.Right p
  · rw [code_yes h]
    have := ous_len p p.on
    have := h.n
    have := h.m
    have := h.on
    omega
  · rw [code_no h]; simp
/-- Its numbers, one by one. -/
def fl (l : List Op) (j : Nat) : Int := match j % 3 with
  | 0 => (l.getD (j / 3) (0, 0, 0)).1
  | 1 => (l.getD (j / 3) (0, 0, 0)).2.1
  | _ => (l.getD (j / 3) (0, 0, 0)).2.2
theorem fl0 (l : List Op) (i : Nat) : fl l (i * 3) = (l.getD i (0, 0, 0)).1 := by
  have h1 : (i * 3) % 3 = 0 := by omega
  have h2 : (i * 3) / 3 = i := by omega
  simp only [fl, h1, h2]
theorem fl1 (l : List Op) (i : Nat) : fl l (i * 3 + 1) = (l.getD i (0, 0, 0)).2.1 := by
  have h1 : (i * 3 + 1) % 3 = 1 := by omega
  have h2 : (i * 3 + 1) / 3 = i := by omega
  simp only [fl, h1, h2]
theorem fl2 (l : List Op) (i : Nat) : fl l (i * 3 + 2) = (l.getD i (0, 0, 0)).2.2 := by
  have h1 : (i * 3 + 2) % 3 = 2 := by omega
  have h2 : (i * 3 + 2) / 3 = i := by omega
  simp only [fl, h1, h2]
theorem fl_tail (x : Op) (l : List Op) (j : Nat) : fl (x :: l) (j + 3) = fl l j := by
  have h1 : (j + 3) % 3 = j % 3 := by omega
  have h2 : (j + 3) / 3 = j / 3 + 1 := by omega
  simp only [fl, h1, h2, List.getD_cons_succ]
end Pc
end Go.Proofs.Ytgkdnpnnmmpnmaa
