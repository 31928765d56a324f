/-
  What is left at the nodes of a net, over fractions.
-/
import Derived.Test.YtkaokfmaecdkiaaGreatDoorNtFlM
import Derived.Test.YtkaokfmaecdkiaaGreatDoorNtSp
namespace Go.Proofs.YtkaokfmaecdkiaaGreatDoor
namespace Nt
open Classical
/-- A value that does not refuse. -/
def okv (q : Int × Int) : Option (Int × Int) := if Fq.code q = 0 then some (Fq.val q) else none
/-- What is at a node behind some links. -/
def ra (n : Net) (hf : Nat → Int) (k : Nat) : Nat → Option (Int × Int)
  | 0 => some (0, 1)
  | j + 1 => match ra n hf k j with
    | none => none
    | some v => if tt n j = k then okv (Fq.add v (flv n hf j)) else if fr n j = k then okv (Fq.sub v (flv n hf j)) else some v
def fin (n : Net) (hf : Nat → Int) (k : Nat) : Option (Int × Int) := match ra n hf k n.ln with
  | none => none
  | some v => okv (Fq.sub v (n.W k, 1))
def rev (n : Net) (hf : Nat → Int) (k : Nat) : Int × Int := (fin n hf k).getD (0, 1)
noncomputable def reCode (n : Net) (hn : Nat) (hf : Nat → Int) : Int := if flCode n hn hf = 0 then (if ∀ k, k < nn n → (fin n hf k).isSome then 0 else 5) else flCode n hn hf
theorem ra_none {n : Net} {hf : Nat → Int} {k j : Nat} (h : ra n hf k j = none) : ∀ d, ra n hf k (j + d) = none
  | 0 => h
  | d + 1 => by rw [← Nat.add_assoc, ra, ra_none h d]
theorem fin_none {n : Net} {hf : Nat → Int} {k j : Nat} (h : ra n hf k j = none) (hj : j ≤ n.ln) : fin n hf k = none := by
  have := ra_none h (n.ln - j)
  rw [show j + (n.ln - j) = n.ln by omega] at this
  unfold fin; rw [this]
theorem ra_tt {n : Net} {hf : Nat → Int} {k j : Nat} {v : Int × Int} (h : ra n hf k j = some v) (e : tt n j = k) : ra n hf k (j + 1) = okv (Fq.add v (flv n hf j)) := by
  rw [ra, h]; simp only; rw [if_pos e]
theorem ra_fr {n : Net} {hf : Nat → Int} {k j : Nat} {v : Int × Int} (h : ra n hf k j = some v) (e1 : tt n j ≠ k) (e : fr n j = k) : ra n hf k (j + 1) = okv (Fq.sub v (flv n hf j)) := by
  rw [ra, h]; simp only; rw [if_neg e1, if_pos e]
theorem ra_no {n : Net} {hf : Nat → Int} {k j : Nat} {v : Int × Int} (h : ra n hf k j = some v) (e1 : tt n j ≠ k) (e : fr n j ≠ k) : ra n hf k (j + 1) = some v := by
  rw [ra, h]; simp only; rw [if_neg e1, if_neg e]
theorem okv_ok {q : Int × Int} (h : Fq.code q = 0) : okv q = some (Fq.val q) := if_pos h
theorem okv_bad {q : Int × Int} (h : Fq.code q ≠ 0) : okv q = none := if_neg h
theorem okv_right {q v : Int × Int} (hq : Fq.Fit q) (h : okv q = some v) : Fq.R v := by
  unfold okv at h
  split at h
  · rename_i hc; cases h; exact Fq.val_right hq.1 hq.2.1 hq.2.2 hc
  · cases h
structure ReFit (n : Net) (hn : Nat) (hf : Nat → Int) : Prop where
  c : flCode n hn hf = 0
  f : FlFit n hn hf
  ok : ∀ i, i < n.ln → flOk n hf i
theorem reFit {n : Net} {hn : Nat} {hf : Nat → Int} (h : flCode n hn hf = 0) : ReFit n hn hf := by
  have h0 := h
  unfold flCode at h
  split at h
  · cases h
  · split at h
    · rename_i hf2
      split at h
      · rename_i hk; exact ⟨h0, hf2, hk⟩
      · cases h
    · cases h
theorem ReFit.fl {n : Net} {hn : Nat} {hf : Nat → Int} (h : ReFit n hn hf) {i : Nat} (hi : i < n.ln) : Fq.R (flv n hf i) := h.f.mq hi (h.ok i hi)
theorem ra_right {n : Net} {hn : Nat} {hf : Nat → Int} (h : ReFit n hn hf) {k : Nat} : ∀ {j : Nat} {v : Int × Int}, j ≤ n.ln → ra n hf k j = some v → Fq.R v
  | 0, v, _, e => by cases e; exact (Fq.whole_ok (z := 0) (by omega) (by omega)).2.2.2
  | j + 1, v, hj, e => by
    rw [ra] at e
    cases hr : ra n hf k j with
    | none => rw [hr] at e; cases e
    | some u =>
      rw [hr] at e
      simp only at e
      have hu := ra_right h (by omega) hr
      have hl := h.fl (i := j) (by omega)
      split at e
      · exact okv_right (Fq.add_fit hu hl) e
      · split at e
        · exact okv_right (Fq.sub_fit hu hl) e
        · cases e; exact hu
theorem want_right {n : Net} (h : Right n) {k : Nat} (hk : k < nn n) : Fq.R (n.W k, 1) := by
  have h1 := h.w k (by have := h.wn; have := h.nn; omega)
  unfold wantOk at h1
  exact (Fq.whole_ok (z := n.W k) (by omega) (by omega)).2.2.2
theorem reCode_bad {n : Net} {hn : Nat} {hf : Nat → Int} (h : flCode n hn hf ≠ 0) : reCode n hn hf = flCode n hn hf := if_neg h
theorem reCode_5 {n : Net} {hn : Nat} {hf : Nat → Int} (h : flCode n hn hf = 0) {k : Nat} (hk : k < nn n) (hb : fin n hf k = none) : reCode n hn hf = 5 := by
  unfold reCode
  rw [if_pos h, if_neg (fun a => by have := a k hk; rw [hb] at this; cases this)]
theorem reCode_0 {n : Net} {hn : Nat} {hf : Nat → Int} (h : flCode n hn hf = 0) (hb : ∀ k, k < nn n → (fin n hf k).isSome) : reCode n hn hf = 0 := by
  unfold reCode
  rw [if_pos h, if_pos hb]
theorem reCode_nn {n : Net} {hn : Nat} {hf : Nat → Int} (h : reCode n hn hf = 0) : nn n ≤ 1048576 := by
  have : flCode n hn hf = 0 := by
    by_cases e : flCode n hn hf = 0
    · exact e
    · rw [reCode_bad e] at h; exact absurd h e
  have := (reFit this).f.r.nn
  omega
def updF (r : Nat → Int × Int) (a : Nat) (x : Int × Int) : Nat → Int × Int := fun j => if j = a then x else r j
theorem updF_same (r : Nat → Int × Int) (a : Nat) (x : Int × Int) : updF r a x a = x := by simp [updF]
theorem updF_ne {r : Nat → Int × Int} {a j : Nat} {x : Int × Int} (h : j ≠ a) : updF r a x j = r j := by simp [updF, h]
end Nt
theorem IsBlk.set2 {T : TypeId} {g N : Nat} {r : Nat → Int × Int} {w : World} (h : IsBlk T g N (Nt.cells2 r) w) (a : Nat) (x : Int × Int) : IsBlk T g N (Nt.cells2 (Nt.updF r a x)) ((w.setCell ⟨g, a * 2, none⟩ (.int .i64 x.1)).setCell ⟨g, a * 2 + 1, none⟩ (.int .i64 x.2)) := by
  refine ((h.set (a * 2) x.1).set (a * 2 + 1) x.2).congr (fun j _ => ?_)
  unfold updI
  by_cases e1 : j = a * 2 + 1
  · subst e1; rw [if_pos rfl, Nt.cells2_1, Nt.updF_same]
  · rw [if_neg e1]
    by_cases e0 : j = a * 2
    · subst e0; rw [if_pos rfl, Nt.cells2_0, Nt.updF_same]
    · rw [if_neg e0]
      have : j / 2 ≠ a := by omega
      unfold Nt.cells2
      rw [Nt.updF_ne this]
theorem IsBlk.fr {T : TypeId} {g n k : Nat} {r : Nat → Int × Int} {w : World} (h : IsBlk T g (n * 2) (Nt.cells2 r) w) (hk : k < n) : w.cell? ⟨g, k * 2, none⟩ = some (.int .i64 (r k).1) ∧ w.cell? ⟨g, k * 2 + 1, none⟩ = some (.int .i64 (r k).2) := by
  have h1 := h.cell (i := k * 2) (by omega)
  have h2 := h.cell (i := k * 2 + 1) (by omega)
  rw [Nt.cells2_0] at h1
  rw [Nt.cells2_1] at h2
  exact ⟨h1, h2⟩
end Go.Proofs.YtkaokfmaecdkiaaGreatDoor
