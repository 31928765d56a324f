/-
  The flows of a net, and what is left at its nodes, over fractions.
-/
import Derived.Test.YtkaokfmaecdkiaaGreatDoorNtFr
import Derived.Test.YtkaokfmaecdkiaaGreatDoorNtMath
import Derived.Test.YtkaokfmaecdkiaaGreatDoorNtIn
namespace Go.Proofs.YtkaokfmaecdkiaaGreatDoor
namespace Nt
open Classical
def hd (hf : Nat → Int) (v : Nat) : Int × Int := (hf (v * 2), hf (v * 2 + 1))
def headsOk (hn : Nat) (hf : Nat → Int) : Prop := ∀ v, v < hn → Fq.R (hd hf v)
def gq (n : Net) (i : Nat) : Int × Int := (n.L (i * 3 + 2), 1)
def dq (n : Net) (hf : Nat → Int) (i : Nat) : Int × Int := Fq.sub (hd hf (fr n i)) (hd hf (tt n i))
def mq (n : Net) (hf : Nat → Int) (i : Nat) : Int × Int := Fq.mul (gq n i) (Fq.val (dq n hf i))
def flOk (n : Net) (hf : Nat → Int) (i : Nat) : Prop := Fq.code (dq n hf i) = 0 ∧ Fq.code (mq n hf i) = 0
/-- Pairs, cell by cell. -/
def cells2 (f : Nat → Int × Int) (j : Nat) : Int := if j % 2 = 0 then (f (j / 2)).1 else (f (j / 2)).2
theorem cells2_0 (f : Nat → Int × Int) (i : Nat) : cells2 f (i * 2) = (f i).1 := by
  unfold cells2
  have h1 : i * 2 % 2 = 0 := by omega
  have h2 : i * 2 / 2 = i := by omega
  rw [if_pos h1, h2]
theorem cells2_1 (f : Nat → Int × Int) (i : Nat) : cells2 f (i * 2 + 1) = (f i).2 := by
  unfold cells2
  have h1 : ¬ (i * 2 + 1) % 2 = 0 := by omega
  have h2 : (i * 2 + 1) / 2 = i := by omega
  rw [if_neg h1, h2]
def flv (n : Net) (hf : Nat → Int) (i : Nat) : Int × Int := Fq.val (mq n hf i)
structure FlFit (n : Net) (hn : Nat) (hf : Nat → Int) : Prop where
  r : Right n
  len : (hn : Int) = n.nodes
  ok : headsOk hn hf
noncomputable def flCode (n : Net) (hn : Nat) (hf : Nat → Int) : Int := if 400 < hn then 2 else if FlFit n hn hf then (if ∀ i, i < n.ln → flOk n hf i then 0 else 5) else 1
theorem gq_right {n : Net} (h : Right n) {i : Nat} (hi : i < n.ln) : Fq.R (gq n i) := by
  have := (h.l i hi).2.2.2
  exact (Fq.whole_ok (z := n.L (i * 3 + 2)) (by omega) (by omega)).2.2.2
theorem FlFit.nn {n : Net} {hn : Nat} {hf : Nat → Int} (h : FlFit n hn hf) : hn = nn n := by have := h.r.nn; have := h.len; omega
theorem FlFit.fr {n : Net} {hn : Nat} {hf : Nat → Int} (h : FlFit n hn hf) {i : Nat} (hi : i < n.ln) : Fq.R (hd hf (fr n i)) := h.ok _ (by rw [h.nn]; exact (h.r.fr hi).2)
theorem FlFit.tt {n : Net} {hn : Nat} {hf : Nat → Int} (h : FlFit n hn hf) {i : Nat} (hi : i < n.ln) : Fq.R (hd hf (tt n i)) := h.ok _ (by rw [h.nn]; exact (h.r.tt hi).2)
theorem FlFit.dq {n : Net} {hn : Nat} {hf : Nat → Int} (h : FlFit n hn hf) {i : Nat} (hi : i < n.ln) (hc : Fq.code (dq n hf i) = 0) : Fq.R (Fq.val (dq n hf i)) := by
  have k := Fq.sub_fit (h.fr hi) (h.tt hi)
  exact Fq.val_right k.1 k.2.1 k.2.2 hc
theorem FlFit.mq {n : Net} {hn : Nat} {hf : Nat → Int} (h : FlFit n hn hf) {i : Nat} (hi : i < n.ln) (hk : flOk n hf i) : Fq.R (flv n hf i) := by
  have k := Fq.mul_fit (gq_right h.r hi) (h.dq hi hk.1)
  exact Fq.val_right k.1 k.2.1 k.2.2 hk.2
theorem flCode_5 {n : Net} {hn : Nat} {hf : Nat → Int} (h4 : ¬ 400 < hn) (h : FlFit n hn hf) {i : Nat} (hi : i < n.ln) (hk : ¬ flOk n hf i) : flCode n hn hf = 5 := by
  unfold flCode
  rw [if_neg h4, if_pos h, if_neg (fun k => hk (k i hi))]
theorem flCode_0 {n : Net} {hn : Nat} {hf : Nat → Int} (h4 : ¬ 400 < hn) (h : FlFit n hn hf) (hk : ∀ i, i < n.ln → flOk n hf i) : flCode n hn hf = 0 := by
  unfold flCode
  rw [if_neg h4, if_pos h, if_pos hk]
theorem flCode_1 {n : Net} {hn : Nat} {hf : Nat → Int} (h4 : ¬ 400 < hn) (h : ¬ FlFit n hn hf) : flCode n hn hf = 1 := by
  unfold flCode
  rw [if_neg h4, if_neg h]
theorem flCode_2 {n : Net} {hn : Nat} {hf : Nat → Int} (h4 : 400 < hn) : flCode n hn hf = 2 := by
  unfold flCode
  rw [if_pos h4]
end Nt
end Go.Proofs.YtkaokfmaecdkiaaGreatDoor
