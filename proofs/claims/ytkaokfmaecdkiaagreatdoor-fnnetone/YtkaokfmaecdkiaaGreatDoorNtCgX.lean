/-
  Joined: NtSol, NtBr, NtSn, NtNs.
-/
import Derived.Test.YtkaokfmaecdkiaaGreatDoorNtCgA
import Derived.Test.YtkaokfmaecdkiaaGreatDoorNtReM
import Derived.Test.YtkaokfmaecdkiaaGreatDoorNtCgD
import Derived.Test.YtkaokfmaecdkiaaGreatDoorNtCgE
import Derived.Test.YtkaokfmaecdkiaaGreatDoorNtCgC
import Derived.Test.YtkaokfmaecdkiaaGreatDoorNtCgG
import Derived.Test.YtkaokfmaecdkiaaGreatDoorNtCgR
import Derived.Test.YtkaokfmaecdkiaaGreatDoorNtLs2
namespace Go.Proofs.YtkaokfmaecdkiaaGreatDoor
namespace El
open Fq
theorem tri {m : Nat} {U : Mx} (hR : AllR m U) (hs : Nt.Sure m 0 (fun r c => q (U r c))) : ∀ k, k ≤ m → Good m U k k → ∀ c, c < k → ∀ r, c < r → r < m → q (mats m U k r c) = 0
  | 0, _, _, c, hc, _, _, _ => absurd hc (Nat.not_lt_zero _)
  | k + 1, hk, hg, c, hc, r, h1, h2 => by
    have hg' : Good m U k m := hg.less (by omega) (Nat.le_refl _)
    have P := Piv.of hR hs k (by omega) m hg'
    have h0 := P.ne (by omega)
    show q (part (mats m U k) k m r c) = 0
    unfold part
    by_cases e : c = k
    · subst e
      rw [if_pos ⟨h1, h2, Nat.le_refl _⟩, (el_right P.r h0 (by omega) h2 (by omega) (Nat.le_refl _) (hg'.2 r h1 h2)).2]
      have z : q (mats m U c c c) ≠ 0 := fun e => h0 ((q_zero (P.r c c (by omega) (by omega))).1 e)
      grind
    · rw [if_neg (by omega)]
      exact tri hR hs k (by omega) (hg.less (by omega) (by omega)) c (by omega) r h1 h2
/-- Rows that others were taken off leave the answers as they are. -/
theorem back_all {m k : Nat} {U V : Nat → Nat → Rat} {x : Nat → Rat} {f : Nat → Rat} (hk : k < m) (hV : ∀ r, k < r → r < m → ∀ c, c ≤ m → V r c = U r c - f r * U k c) (hO : ∀ r, r ≤ k → ∀ c, c ≤ m → V r c = U r c) : Nt.Holds m V x ↔ Nt.Holds m U x := by
  have hrow : ∀ r, r ≤ k → Nt.rowX m U x r = Nt.rowX m V x r := fun r hr => Nt.sumR_congr (fun c hc => by rw [hO r hr c (by omega)])
  have hsub : ∀ r, k < r → r < m → Nt.rowX m V x r = Nt.rowX m U x r - f r * Nt.rowX m U x k := by
    intro r h1 h2
    unfold Nt.rowX
    rw [← Nt.sumR_mul, ← Nt.sumR_sub]
    exact Nt.sumR_congr (fun c hc => by rw [hV r h1 h2 c (by omega)]; grind)
  constructor
  · intro h
    have hkk : Nt.rowX m U x k = U k m := by rw [hrow k (Nat.le_refl _), h k hk, hO k (Nat.le_refl _) m (Nat.le_refl _)]
    intro r hr
    by_cases e : r ≤ k
    · rw [hrow r e, h r hr, hO r e m (Nat.le_refl _)]
    · have h1 := h r hr
      rw [hsub r (by omega) hr, hV r (by omega) hr m (Nat.le_refl _), hkk] at h1
      grind
  · intro h r hr
    by_cases e : r ≤ k
    · rw [← hrow r e, h r hr, hO r e m (Nat.le_refl _)]
    · rw [hsub r (by omega) hr, hV r (by omega) hr m (Nat.le_refl _), h r hr, h k hk]
theorem holds_mats {m : Nat} {U : Mx} {x : Nat → Rat} (hR : AllR m U) (hs : Nt.Sure m 0 (fun r c => q (U r c))) : ∀ k, k ≤ m → Good m U k k → (Nt.Holds m (fun r c => q (mats m U k r c)) x ↔ Nt.Holds m (fun r c => q (U r c)) x)
  | 0, _, _ => Iff.rfl
  | k + 1, hk, hg => by
    have hg' : Good m U k m := hg.less (by omega) (Nat.le_refl _)
    have P := Piv.of hR hs k (by omega) m hg'
    have h0 := P.ne (by omega)
    rw [← holds_mats hR hs k (by omega) (hg.less (by omega) (by omega))]
    refine back_all (k := k) (f := fun r => q (mats m U k r k) / q (mats m U k k k)) (by omega) (fun r h1 h2 c hc => ?_) (fun r h1 c hc => ?_)
    · show q (part (mats m U k) k m r c) = _
      unfold part
      by_cases e : k ≤ c
      · rw [if_pos ⟨h1, h2, e⟩]
        exact (el_right P.r h0 (by omega) h2 hc e (hg'.2 r h1 h2)).2
      · rw [if_neg (by omega), tri hR hs k (by omega) (hg.less (by omega) (by omega)) c (by omega) k (by omega) (by omega)]
        grind
    · show q (part (mats m U k) k m r c) = _
      unfold part
      rw [if_neg (by omega)]
theorem bs_q {m : Nat} {U : Mx} {h : Nat → Int × Int} {k : Nat} (hR : AllR m U) (hk : k < m) (hh : ∀ j, k < j → j < m → R (h j)) : ∀ t, k + 1 + t ≤ m → BsOk m U h k t → q (bs m U h k t) = q (U k m) - Nt.sumR t (fun j => q (U k (k + 1 + j)) * q (h (k + 1 + j)))
  | 0, _, _ => by show q (U k m) = q (U k m) - 0; grind
  | t + 1, ht, ho => by
    have ih := bs_q hR hk hh t (by omega) (fun j hj => ho j (by omega))
    have rt := bs_right hR hk hh t (by omega) (fun j hj => ho j (by omega))
    obtain ⟨c1, c2⟩ := ho t (by omega)
    have m1 := val_mul (hR k (k + 1 + t) hk (by omega)) (hh (k + 1 + t) (by omega) (by omega)) c1
    have s1 := val_sub rt m1.1 c2
    show q (val _) = _ - (Nt.sumR t _ + _)
    rw [s1.2, m1.2, ih]
    grind
theorem sumR_split (f : Nat → Rat) (a : Nat) : ∀ b, Nt.sumR (a + b) f = Nt.sumR a f + Nt.sumR b (fun j => f (a + j))
  | 0 => by show Nt.sumR a f = Nt.sumR a f + 0; grind
  | b + 1 => by
    show Nt.sumR (a + b) f + f (a + b) = _ + (Nt.sumR b _ + _)
    rw [sumR_split f a b]
    grind
theorem hd_later (m : Nat) (U : Mx) {j : Nat} : ∀ s d, m - s ≤ j → j < m → s + d ≤ m → hd m U (s + d) j = hd m U s j
  | _, 0, _, _, _ => rfl
  | s, d + 1, h1, h2, h3 => by
    show updF (hd m U (s + d)) (m - 1 - (s + d)) _ j = _
    unfold updF
    rw [if_neg (by omega)]
    exact hd_later m U s d h1 h2 (by omega)
/-- The heads that are found solve rows that are a triangle. -/
theorem hd_holds {m : Nat} {U : Mx} (hR : AllR m U) (h0 : ∀ k, k < m → (U k k).1 ≠ 0) (ht : ∀ c r, c < r → r < m → q (U r c) = 0) (ho : HdOk m U m) : Nt.Holds m (fun r c => q (U r c)) (fun j => q (hd m U m j)) := by
  intro k hk
  obtain ⟨s, hs⟩ : ∃ s, k = m - 1 - s ∧ s < m := ⟨m - 1 - k, by omega⟩
  obtain ⟨o1, o2⟩ := ho s hs.2
  rw [← hs.1] at o1 o2
  have rr := hd_right hR h0 s (by omega) (fun j hj => ho j (by omega))
  have hh : ∀ j, k < j → j < m → R (hd m U s j) := fun j a b => rr j (by omega) b
  have b1 := bs_right hR hk hh s (by omega) o1
  have b2 := bs_q hR hk hh s (by omega) o1
  have d1 := val_div b1 (hR k k hk (by omega)) (h0 k hk) o2
  have z : q (U k k) ≠ 0 := fun e => h0 k hk ((q_zero (hR k k hk (by omega))).1 e)
  have ek : hd m U m k = val (div (bs m U (hd m U s) k s) (U k k)) := by
    have := hd_later m U (j := k) (s + 1) (m - (s + 1)) (by omega) hk (by omega)
    rw [show s + 1 + (m - (s + 1)) = m by omega] at this
    rw [this]
    show updF _ _ _ k = _
    unfold updF
    rw [if_pos hs.1, ← hs.1]
  have ej : ∀ j, j < s → hd m U m (k + 1 + j) = hd m U s (k + 1 + j) := by
    intro j hj
    have := hd_later m U (j := k + 1 + j) s (m - s) (by omega) (by omega) (by omega)
    rw [show s + (m - s) = m by omega] at this
    exact this
  unfold Nt.rowX
  rw [show m = k + (1 + s) by omega, sumR_split, sumR_split, ← show m = k + (1 + s) by omega]
  have e1 : Nt.sumR k (fun c => q (U k c) * q (hd m U m c)) = 0 := Nt.sumR_zero (fun c hc => by rw [ht c k hc hk]; grind)
  have e2 : Nt.sumR 1 (fun j => q (U k (k + j)) * q (hd m U m (k + j))) = q (U k k) * q (hd m U m k) := by
    show 0 + q (U k (k + 0)) * q (hd m U m (k + 0)) = _
    rw [Nat.add_zero]; grind
  have e3 : Nt.sumR s (fun j => q (U k (k + (1 + j))) * q (hd m U m (k + (1 + j)))) = Nt.sumR s (fun j => q (U k (k + 1 + j)) * q (hd m U s (k + 1 + j))) := by
    refine Nt.sumR_congr (fun j hj => ?_)
    rw [show k + (1 + j) = k + 1 + j by omega, ej j hj]
  rw [e1, e2, e3, ek, d1.2, b2]
  grind
/-- Where nought alone gives nought, rows have one answer. -/
theorem one {m : Nat} {U : Nat → Nat → Rat} (hs : Nt.Sure m 0 U) {x y : Nat → Rat} (hx : Nt.Holds m U x) (hy : Nt.Holds m U y) : ∀ j, j < m → x j = y j := by
  have := hs (fun j => x j - y j) (fun j hj => absurd hj (Nat.not_lt_zero _)) (Nt.sumR_zero (fun r hr => by
    have e : Nt.rowX m U (fun j => x j - y j) r = 0 := by
      have e1 : Nt.rowX m U (fun j => x j - y j) r = Nt.rowX m U x r - Nt.rowX m U y r := by
        unfold Nt.rowX
        rw [← Nt.sumR_sub]
        exact Nt.sumR_congr (fun c _ => by grind)
      rw [e1, hx r hr, hy r hr]; grind
    rw [e]; grind))
  intro j hj
  have := this j hj
  grind
end El
end Go.Proofs.YtkaokfmaecdkiaaGreatDoor
namespace Go.Proofs.YtkaokfmaecdkiaaGreatDoor
namespace Nt
open Classical
/-- The heads as numbers. -/
def xq (H : Nat → Int × Int) (v : Nat) : Rat := Fq.q (H v)
theorem q_add {x y : Int × Int} (hx : Fq.R x) (hy : Fq.R y) : Fq.q (Fq.add x y) = Fq.q x + Fq.q y := by
  have a := hx.ne; have b := hy.ne
  unfold Fq.q Fq.add
  simp only [Rat.intCast_add, Rat.intCast_mul]
  grind
theorem val_add {x y : Int × Int} (hx : Fq.R x) (hy : Fq.R y) (hc : Fq.code (Fq.add x y) = 0) : Fq.R (Fq.val (Fq.add x y)) ∧ Fq.q (Fq.val (Fq.add x y)) = Fq.q x + Fq.q y :=
  have f := Fq.add_fit hx hy
  ⟨Fq.val_right f.1 f.2.1 f.2.2 hc, by rw [Fq.q_val f.1 hc, q_add hx hy]⟩
theorem q_one (z : Int) : Fq.q (z, 1) = (z : Rat) := by
  unfold Fq.q
  show (z : Rat) / ((1 : Int) : Rat) = _
  rw [Rat.intCast_one]
  grind
/-- A link's flow. -/
theorem flv_q {n : Net} {hn : Nat} {hf : Nat → Int} (h : ReFit n hn hf) {i : Nat} (hi : i < n.ln) : Fq.q (flv n hf i) = gv n i * (Fq.q (hd hf (fr n i)) - Fq.q (hd hf (tt n i))) := by
  obtain ⟨c1, c2⟩ := h.ok i hi
  have s := Fq.val_sub (h.f.fr hi) (h.f.tt hi) c1
  have m := Fq.val_mul (gq_right h.f.r hi) s.1 c2
  show Fq.q (Fq.val (Fq.mul (gq n i) (Fq.val (Fq.sub _ _)))) = _
  rw [m.2, s.2]
  unfold gq gv
  rw [q_one]
theorem ra_q {n : Net} {hn : Nat} {hf : Nat → Int} (h : ReFit n hn hf) {k : Nat} : ∀ {j : Nat} {v : Int × Int}, j ≤ n.ln → ra n hf k j = some v → Fq.q v = - sumR j (fun i => outAt n (fun u => Fq.q (hd hf u)) k i)
  | 0, v, _, e => by
    cases e
    show Fq.q (0, 1) = - (0 : Rat)
    rw [q_one]
    show ((0 : Int) : Rat) = _
    rw [Rat.intCast_zero]; grind
  | j + 1, v, hj, e => by
    rw [ra] at e
    cases hr : ra n hf k j with
    | none => rw [hr] at e; cases e
    | some u =>
      rw [hr] at e
      simp only at e
      have hu := ra_right h (by omega) hr
      have hl := h.fl (i := j) (by omega)
      have ih := ra_q h (by omega) hr
      have fq := flv_q h (i := j) (by omega)
      have hne := h.f.r.frtt (i := j) (by omega)
      show _ = - (sumR j _ + _)
      unfold outAt at ih ⊢
      split at e
      · rename_i ht
        have hfr : ¬ fr n j = k := fun q => hne (q.trans ht.symm)
        unfold okv at e
        split at e
        · rename_i hc
          cases e
          rw [(val_add hu hl hc).2, ih, fq]
          simp only [hfr, if_false, ht, if_true]
          grind
        · cases e
      · rename_i ht
        split at e
        · rename_i hfr
          unfold okv at e
          split at e
          · rename_i hc
            cases e
            rw [(Fq.val_sub hu hl hc).2, ih, fq]
            simp only [hfr, if_true]
            grind
          · cases e
        · rename_i hfr
          cases e
          rw [ih]
          simp only [hfr, if_false, ht]
          grind
/-- What is left at a node, as a number. -/
theorem fin_q {n : Net} {hn : Nat} {hf : Nat → Int} (h : ReFit n hn hf) {k : Nat} (hk : k < nn n) {v : Int × Int} (e : fin n hf k = some v) : Fq.R v ∧ Fq.q v = - (nodeX n (fun u => Fq.q (hd hf u)) k + ((n.W k : Int) : Rat)) := by
  unfold fin at e
  cases hr : ra n hf k n.ln with
  | none => rw [hr] at e; cases e
  | some u =>
    rw [hr] at e
    simp only at e
    have hu := ra_right h (Nat.le_refl _) hr
    have hw := want_right h.f.r hk
    unfold okv at e
    split at e
    · rename_i hc
      cases e
      have s := Fq.val_sub hu hw hc
      refine ⟨s.1, ?_⟩
      rw [s.2, ra_q h (Nat.le_refl _) hr, q_one]
      unfold nodeX
      grind
    · cases e
theorem rhsTo_sum (n : Net) (v : Nat) : ∀ k, ((rhsTo n v k : Int) : Rat) = sumR k (fun i => ((rhsAt n v i : Int) : Rat)) - ((n.W v : Int) : Rat)
  | 0 => by
    show ((-n.W v : Int) : Rat) = 0 - _
    rw [Rat.intCast_neg]; grind
  | k + 1 => by
    show ((rhsTo n v k + rhsAt n v k : Int) : Rat) = sumR k _ + _ - _
    rw [Rat.intCast_add, rhsTo_sum n v k]; grind
/-- A row over heads whose fixed ones are as given. -/
theorem row_x {n : Net} (h : Right n) {x : Nat → Rat} (hx : ∀ v, fixed n v = true → x v = (((kh n n.fn v).1 : Int) : Rat)) {r : Nat} (hr : r < mm n) :
    rowX (mm n) (A0 n) (fun c => x (nd n c)) r - ((rhsTo n (nd n r) n.ln : Int) : Rat) = nodeX n x (nd n r) + ((n.W (nd n r) : Int) : Rat) := by
  rw [row_node h, rhsTo_sum]
  have hfree := (nd_lt hr).2
  have hsp : ∀ v, v < nn n → spread n (fun c => x (nd n c)) v = if fixed n v = true then 0 else x v := by
    intro v hv
    by_cases hf : fixed n v = true
    · rw [if_pos hf]; exact spread_fixed hf
    · rw [if_neg hf]
      obtain ⟨s, hs, e⟩ := free_idx (n := n) hv (by simpa using hf)
      have hs2 : s < mm n := hs
      have e2 : nd n s = v := e
      rw [← e2]; exact spread_nd hs2
  have hsv : spread n (fun c => x (nd n c)) (nd n r) = x (nd n r) := by rw [hsp _ (nd_lt hr).1, hfree]; rfl
  unfold nodeX
  have e1 : sumR n.ln (fun i => outAt n x (nd n r) i) = sumR n.ln (fun i => outAt n (spread n (fun c => x (nd n c))) (nd n r) i - ((rhsAt n (nd n r) i : Int) : Rat)) := by
    apply sumR_congr
    intro i hi
    have hne := h.frtt hi
    have z : ((0 : Int) : Rat) = 0 := rfl
    unfold outAt rhsAt gv
    by_cases a : fr n i = nd n r
    · simp only [a, if_true]
      rw [hsv, hsp _ (h.tt hi).2]
      by_cases f : fixed n (tt n i) = true
      · simp only [f, if_true]
        rw [hx _ f, Rat.intCast_mul]; grind
      · rw [if_neg f, if_neg f, z]; grind
    · simp only [a, if_false]
      by_cases b : tt n i = nd n r
      · simp only [b, if_true]
        rw [hsv, hsp _ (h.fr hi).2]
        by_cases f : fixed n (fr n i) = true
        · simp only [f, if_true]
          rw [hx _ f, Rat.intCast_mul]; grind
        · rw [if_neg f, if_neg f, z]; grind
      · simp only [b, if_false]
        rw [z]; grind
  rw [e1, sumR_sub]
  grind
/-- The rows of a net hold just where nothing is left at the free nodes. -/
theorem holds_iff {n : Net} (h : Right n) {x : Nat → Rat} (hx : ∀ v, fixed n v = true → x v = (((kh n n.fn v).1 : Int) : Rat)) :
    Holds (mm n) (fun r c => Fq.q (U0 n r c)) (fun c => x (nd n c)) ↔ ∀ r, r < mm n → nodeX n x (nd n r) + ((n.W (nd n r) : Int) : Rat) = 0 := by
  have key : ∀ r, r < mm n → rowX (mm n) (fun r c => Fq.q (U0 n r c)) (fun c => x (nd n c)) r - Fq.q (U0 n r (mm n)) = nodeX n x (nd n r) + ((n.W (nd n r) : Int) : Rat) := by
    intro r hr
    rw [← row_x h hx hr]
    have e1 : rowX (mm n) (fun r c => Fq.q (U0 n r c)) (fun c => x (nd n c)) r = rowX (mm n) (A0 n) (fun c => x (nd n c)) r := by
      unfold rowX
      apply sumR_congr
      intro c hc
      show Fq.q (U0 n r c) * x (nd n c) = A0 n r c * x (nd n c)
      unfold U0 A0
      rw [if_pos hc, q_one]
    have e2 : Fq.q (U0 n r (mm n)) = ((rhsTo n (nd n r) n.ln : Int) : Rat) := by
      unfold U0
      rw [if_neg (by omega), q_one]
    rw [e1, e2]
  constructor
  · intro H r hr
    have := key r hr
    have h2 := H r hr
    grind
  · intro H r hr
    have := key r hr
    have h2 := H r hr
    show rowX _ _ _ r = Fq.q (U0 n r (mm n))
    grind
/-- The heads that were found. -/
theorem svH_free {n : Net} {r : Nat} (hr : r < mm n) : svH n (nd n r) = El.hd (mm n) (Um n) (mm n) r := hv_nd _ (Nat.le_refl _) r (by omega) hr
theorem svH_fixed {n : Net} {v : Nat} (hf : fixed n v = true) : svH n v = kh n n.fn v := hv_fixed hf _ (Nat.le_refl _)
theorem svH_x {n : Net} (h : Right n) {v : Nat} (hf : fixed n v = true) : xq (svH n) v = (((kh n n.fn v).1 : Int) : Rat) := by
  unfold xq
  rw [svH_fixed hf]
  have := (kh_fixed h hf).1
  revert this
  generalize kh n n.fn v = p
  intro this
  obtain ⟨a, b⟩ := p
  have hb : b = 1 := this
  subst hb
  exact q_one a
theorem svH_holds {n : Net} (h : Right n) (hh : ∀ j, j < nn n → held n j = true) (hg : SvGood n) : Holds (mm n) (fun r c => Fq.q (U0 n r c)) (fun c => xq (svH n) (nd n c)) := by
  obtain ⟨hR, h0⟩ := Um_piv h hh hg.rhs hg.el
  have hU := U0_right h hg.rhs
  have hs := U0_sure h hh
  have gm : El.Good (mm n) (U0 n) (mm n) (mm n) := hg.el
  have ht : ∀ c r, c < r → r < mm n → Fq.q (Um n r c) = 0 := fun c r h1 h2 => El.tri hU hs (mm n) (Nat.le_refl _) gm c (by omega) r h1 h2
  have H := El.hd_holds hR h0 ht hg.hd
  have H2 := (El.holds_mats (x := fun j => Fq.q (El.hd (mm n) (Um n) (mm n) j)) hU hs (mm n) (Nat.le_refl _) gm).1 H
  intro r hr
  rw [← H2 r hr]
  unfold rowX
  exact sumR_congr (fun c hc => by
    show Fq.q (U0 n r c) * Fq.q (svH n (nd n c)) = Fq.q (U0 n r c) * Fq.q (El.hd (mm n) (Um n) (mm n) c)
    rw [svH_free hc])
/-- Nothing is left at a free node. -/
theorem zero_frac {v : Int × Int} (hR : Fq.R v) (h : Fq.q v = 0) : v = (0, 1) := by
  have h1 := (Fq.q_zero hR).1 h
  obtain ⟨a, b⟩ := v
  simp only at h1
  subst h1
  have h2 := (M.rightB_iff 0 b).1 hR
  have : b = 1 := by
    have := h2.2.2.2.2
    rw [Int.gcd_zero_left] at this
    omega
  rw [this]
theorem rest_zero {n : Net} (hh : ∀ j, j < nn n → held n j = true) (hg : SvGood n) {hn : Nat} (hc : reCode n hn (cells2 (svH n)) = 0) {k : Nat} (hk : k < nn n) (hf : fixed n k = false) : rev n (cells2 (svH n)) k = (0, 1) := by
  have hfl : flCode n hn (cells2 (svH n)) = 0 := by
    by_cases e : flCode n hn (cells2 (svH n)) = 0
    · exact e
    · rw [reCode_bad e] at hc; exact absurd hc e
  have RF := reFit hfl
  have h := RF.f.r
  have hsome : (fin n (cells2 (svH n)) k).isSome := by
    unfold reCode at hc
    rw [if_pos hfl] at hc
    by_cases a : ∀ k, k < nn n → (fin n (cells2 (svH n)) k).isSome
    · exact a k hk
    · rw [if_neg a] at hc; cases hc
  obtain ⟨v, hv⟩ := Option.isSome_iff_exists.1 hsome
  obtain ⟨h1, h2⟩ := fin_q RF hk hv
  have ex : (fun u => Fq.q (hd (cells2 (svH n)) u)) = xq (svH n) := by
    funext u
    unfold hd xq
    rw [cells2_0, cells2_1]
  rw [ex] at h2
  obtain ⟨r, hr, er⟩ := free_idx (n := n) hk hf
  have er2 : nd n r = k := er
  have z := (holds_iff h (x := xq (svH n)) (fun v hv => svH_x h hv)).1 (svH_holds h hh hg) r hr
  rw [er2] at z
  rw [z] at h2
  unfold rev
  rw [hv]
  exact zero_frac h1 (by show Fq.q v = 0; rw [h2]; grind)
theorem dvd_of_prime {p q s : Int} (h : q ∣ p * s) (g : Int.gcd p q = 1) : q ∣ s := by
  have h1 := Int.natAbs_dvd_natAbs.2 h
  rw [Int.natAbs_mul] at h1
  have hc : Nat.Coprime q.natAbs p.natAbs := by rw [Nat.coprime_comm]; exact g
  exact Int.natAbs_dvd_natAbs.1 (hc.dvd_of_dvd_mul_left h1)
/-- Two fractions of one value are one. -/
theorem frac_eq {a b : Int × Int} (ha : Fq.R a) (hb : Fq.R b) (h : Fq.q a = Fq.q b) : a = b := by
  have h1 := (M.rightB_iff a.1 a.2).1 ha
  have h2 := (M.rightB_iff b.1 b.2).1 hb
  have hc : a.1 * b.2 = b.1 * a.2 := by
    have na := ha.ne
    have nb := hb.ne
    unfold Fq.q at h
    have : (a.1 : Rat) * (b.2 : Rat) = (b.1 : Rat) * (a.2 : Rat) := by grind
    rw [← Rat.intCast_mul, ← Rat.intCast_mul] at this
    exact Rat.intCast_inj.1 this
  obtain ⟨p, q⟩ := a
  obtain ⟨r, s⟩ := b
  simp only at h1 h2 hc
  have g1 : Int.gcd p q = 1 := h1.2.2.2.2
  have g2 : Int.gcd r s = 1 := h2.2.2.2.2
  have d1 : q ∣ s := by
    have : q ∣ p * s := ⟨r, by rw [hc]; exact Int.mul_comm _ _⟩
    exact dvd_of_prime this g1
  have d2 : s ∣ q := by
    have : s ∣ r * q := ⟨p, by rw [← hc]; exact Int.mul_comm _ _⟩
    exact dvd_of_prime this g2
  have e : q = s := Int.dvd_antisymm (by omega) (by omega) d1 d2
  subst e
  have : p = r := Int.eq_of_mul_eq_mul_right (by omega) hc
  rw [this]
end Nt
end Go.Proofs.YtkaokfmaecdkiaaGreatDoor
namespace Go.Proofs.YtkaokfmaecdkiaaGreatDoor
open Go Go.RowKit Go.Deep

theorem sinfo_num : (Tryz.prog.info? 3).map (fun i => (i.zero, i.size, i.bytes)) = some (some (.int .i64 0), 1, 8) := by kernel_rfl
theorem nmk_num (n : Nt.Net) (hr : Nt.Right n) (w : World) : (Instr.makeSlice 60 (.int .i64 n.nodes) (.int .i64 n.nodes)).run Tryz.prog w = .ok (.slice (some ⟨w.heap.size, 0, none⟩) (Nt.nn n) (Nt.nn n)) (w.alloc (.cells (madeCells #[.int .i64 0] (Nt.nn n)) 3)) := by
  have h := hr.nn
  rw [h.1]
  exact run_make_row' (P := Tryz.prog) 60 3 (.int .i64 0) 8 Tryz.underlying60 sinfo_num rfl .i64 .i64 (Nt.nn n) (by omega) (by omega) w
set_option maxRecDepth 100000 in
set_option maxHeartbeats 32000000 in
theorem specSolve_any (n : Nt.Net) (la : Option Addr) (lk : Nat) (fa : Option Addr) (fk : Nat) (wa : Option Addr) (wk : Nat) (w : World) (h : NtAt n la fa wa w) (hs : NtSmall n) :
    Calls Tryz.prog 6 #[ntV n la lk fa fk wa wk] w fun e w' => ToldL w.heap.size (Nt.svLo n) (Nt.svAll n) (Nt.nn n) (Nt.cells2 (Nt.svH n)) e w' ∧ Below w.heap.size w w' := by
  have HA := Lib.hid h
  have HSM := Lib.hid hs
  obtain ⟨W, hW⟩ : ∃ W, W = (w.alloc (.cells #[.int .i64 n.nodes, .slice la n.ln lk, .slice fa n.fn fk, .slice wa n.wn wk] 27)).alloc (.cells #[.slice none 0 0, .int .i64 0, .int .i64 0] 31) := ⟨_, rfl⟩
  have B0 : Hid (Below w.heap.size w W) := by rw [hW]; exact ((Below.refl _ _).alloc (Nat.le_refl _) _).alloc (by simp) _
  have R0 : Hid (W.rowIs w.heap.size 27 4 (rowN (ntL n la lk fa fk wa wk))) := by rw [hW]; exact nrow_below (rowN_alloc w _ _) (nbel_alloc _ _)
  have O0 : Hid (W.rowIs (w.heap.size + 1) 31 3 (rowN (noL none 0 0 0 0))) := by rw [hW]; exact rowN_alloc' (by simp) _ _
  have HW := Lib.hid hW
  clear h hs hW
  go_enter Tryz.func6, Tryz.ntmps6
  go_wp2_with fail
  rw [← HW.out]
  refine (specNet_any n la lk fa fk wa wk _ (HA.out.below B0.out) HSM.out).mono ?_
  rintro e w1 ⟨⟨b1, rfl, hb1⟩, hb⟩
  have B1 : Hid (Below w.heap.size w w1) := B0.out.trans (hb.mono B0.out.size)
  have R1 := Lib.hid (nrow_below R0.out hb)
  have O1 := Lib.hid (nrow_below O0.out hb)
  have E1 := Lib.hid hb1
  clear hb hb1 B0 R0 O0 HW
  have OC : Hid (∀ (x c : Int) (V : World), V.rowIs (w.heap.size + 1) 31 3 (rowN (noL none 0 0 0 0)) → (((V.setCell ⟨w.heap.size + 1, 0, none⟩ (.slice none 0 0)).setCell ⟨w.heap.size + 1, 1, none⟩ (.int .i64 x)).setCell ⟨w.heap.size + 1, 2, none⟩ (.int .i64 c)).rowIs (w.heap.size + 1) 31 3 (rowN (noL none 0 0 x c))) := fun x c V hV => rowN_put (rowN_put (rowN_put hV 0 _ (by simp)) 1 _ (by simp)) 2 _ (by simp)
  obtain ⟨⟨r0, r1, r2, r3⟩, _⟩ := rowN4 R1.out
  obtain ⟨⟨p0, p1, p2⟩, z0, z1, z2⟩ := rowN3 O1.out
  have lw : w.heap.size + 1 < w1.heap.size := O1.out.lt
  cases b1 with
  | false =>
    have HNR : Hid (¬ Nt.Right n) := fun k => by have := E1.out.2 k; cases this
    go_wp2_with fail
    obtain ⟨⟨x0, x1, x2⟩, _⟩ := rowN3 (OC.out 0 1 _ O1.out)
    exact bodyPost_ret (v := noV none 0 0 0 1) (by simp [results, Tryz.results6, go_sem, x0, x1, x2]) rfl ⟨Or.inr ⟨Nt.svLo_no HNR.out, Or.inr ⟨by rw [Nt.svAll_no HNR.out]; decide, by rw [Nt.svAll_no HNR.out]⟩⟩, ((B1.out.setCell (p := ⟨w.heap.size + 1, 0, none⟩) (Nat.le_succ _) _).setCell (p := ⟨w.heap.size + 1, 1, none⟩) (Nat.le_succ _) _).setCell (p := ⟨w.heap.size + 1, 2, none⟩) (Nat.le_succ _) _⟩
  | true =>
  have HR : Hid (Nt.Right n) := E1.out.1 (by trivial)
  clear E1
  go_wp2_with fail
  refine (specLoose_go n la lk fa fk wa wk _ (HA.out.below B1.out) HSM.out HR.out).mono ?_
  rintro e w2 ⟨⟨lv, rfl, hown⟩, hb⟩
  have B2 : Hid (Below w.heap.size w w2) := B1.out.trans (hb.mono B1.out.size)
  have R2 := Lib.hid (nrow_below R1.out hb)
  have O2 := Lib.hid (nrow_below O1.out hb)
  clear hb B1 R1 O1 r0 r1 r2 r3 p0 p1 p2 z0 z1 z2 lw
  obtain ⟨⟨r0, r1, r2, r3⟩, _⟩ := rowN4 R2.out
  obtain ⟨⟨p0, p1, p2⟩, z0, z1, z2⟩ := rowN3 O2.out
  have lw : w.heap.size + 1 < w2.heap.size := O2.out.lt
  obtain ⟨av, cv, rfl⟩ := lpown_shape hown
  cases hlo : Nt.loose n with
  | cons x l =>
    rw [hlo] at hown
    have HX : Hid (Nt.svLo n = some x) := by show _ = _; rw [Nt.svLo_yes HR.out, hlo]; rfl
    rcases hown.2 with ⟨e1, e2⟩ | ⟨g, cap, cur, e1, h2, _⟩
    · simp at e2
    injection e1 with a1 a2 a3
    subst a1
    have c0 := hown.cells (show Value.ownBlock (.slice (some ⟨g, 0, none⟩) (x :: l).length cv) = some g from rfl) 0 (.int .i64 x) (by simp [isVs])
    rw [Addr.add_lit, Nat.zero_add] at c0
    have hlen : (0 : Int) < (((x :: l).length : Nat) : Int) := by simp
    obtain ⟨L, hL⟩ : ∃ L, L = (x :: l).length := ⟨_, rfl⟩
    rw [← hL] at hlen ⊢
    clear hown h2 hlo hL a2 a3
    go_wp2_with fail
    obtain ⟨⟨x0, x1, x2⟩, _⟩ := rowN3 (OC.out x 4 _ O2.out)
    exact bodyPost_ret (v := noV none 0 0 x 4) (by simp [results, Tryz.results6, go_sem, x0, x1, x2]) rfl ⟨Or.inl ⟨x, HX.out, rfl⟩, ((B2.out.setCell (p := ⟨w.heap.size + 1, 0, none⟩) (Nat.le_succ _) _).setCell (p := ⟨w.heap.size + 1, 1, none⟩) (Nat.le_succ _) _).setCell (p := ⟨w.heap.size + 1, 2, none⟩) (Nat.le_succ _) _⟩
  | nil =>
  have HX : Hid (Nt.svLo n = none) := by show _ = _; rw [Nt.svLo_yes HR.out, hlo]; rfl
  have HHD : Hid (∀ j, j < Nt.nn n → Nt.held n j = true) := Nt.held_of _ hlo
  obtain ⟨hnn, hn1, hn2⟩ := HR.out.nn
  have HNN := Lib.hid hnn
  have hmk := nmk_num n HR.out
  obtain ⟨W3, hW3⟩ : ∃ W, W = ((w2.alloc (.cells #[.int .i64 0] 59)).alloc (.cells #[] 2)).alloc (.cells (madeCells #[.int .i64 0] (Nt.nn n)) 3) := ⟨_, rfl⟩
  have HN0 := Lib.hid (N1.start R2.out O2.out B2.out hW3)
  obtain ⟨⟨rA, _, _, _⟩, _⟩ := rowN4 (nrow_below (nrow_below R2.out (nbel_alloc w2 (.cells #[.int .i64 0] 59))) (nbel_alloc _ (.cells #[] 2)))
  obtain ⟨gc, hgc⟩ : ∃ x, x = w2.heap.size := ⟨_, rfl⟩
  obtain ⟨gb, hgb⟩ : ∃ x, x = w2.heap.size + 1 := ⟨_, rfl⟩
  obtain ⟨gn, hgn⟩ : ∃ x, x = w2.heap.size + 2 := ⟨_, rfl⟩
  rw [← hgb, ← hgn, ← hgc] at HN0
  have HW3 := Lib.hid hW3
  have HG1 := Lib.hid hgc
  have HG2 := Lib.hid hgb
  have HG3 := Lib.hid hgn
  clear hown hlo hW3 hgc hgb hgn R2 O2 B2 p0 p1 p2 z0 z1 z2 hnn
  go_wp2_with fail
  try simp only [World.size_alloc]
  rw [← HW3.out, ← HG3.out, ← HG2.out, ← HG1.out]
  clear HW3 HG1 HG2 HG3 hmk r0 r1 r2 r3 lw rA
  apply sloop1 (HN := HN0) (HAT := HA) (HRT := HR) (HNN := HNN)
  intro y7 y47 y48 y49 y50 y51 y52 y53 y54 y55 y56 y57 y58 y59 y60 y61 y62 y63 y64 y65 y66 y67 y68 W4 v4 HN4
  obtain ⟨na, nk, rfl, hT4⟩ := HN4.out.list
  have HT4 := Lib.hid hT4
  have HM12 : Hid (Nt.mm n ≤ 12) := by
    show _ ≤ _
    have q : ∀ k, (Nt.freeTo n k).length ≤ k := fun k => by
      induction k with
      | zero => simp [Nt.freeTo]
      | succ k ih => rw [Nt.freeTo, List.length_append]; split <;> simp <;> omega
    exact Nat.le_trans (q (Nt.nn n)) hn2
  obtain ⟨W5, hW5⟩ : ∃ W, W = W4.alloc (.cells #[] 29) := ⟨_, rfl⟩
  have HR5 := Lib.hid (Rw.start (m := Nt.mm n) HN4.out.rc hW5)
  obtain ⟨g5, hg5⟩ : ∃ x, x = W4.heap.size := ⟨_, rfl⟩
  rw [show (⟨W4.heap.size, 0, none⟩ : Addr) = ⟨g5, 0, none⟩ by rw [hg5]] at HR5
  have HW5 := Lib.hid hW5
  have HG5 := Lib.hid hg5
  have HZ5 : Hid (Nt.SvGood n → ∀ r, r < Nt.mm n → Nt.RhsOk n (Nt.nd n r) n.ln) := fun q => q.rhs
  clear hT4 hW5 hg5 HN0
  go_wp2_with fail
  rw [← HW5.out, ← HG5.out]
  clear HW5 HG5
  apply sloop2 (HR0 := HR5) (HT := HT4) (HAT := HA) (HRT := HR) (HM := HM12) (HZ := HZ5) (hP := fun _ _ o _ _ h => by cases o <;> exact h)
  intro y10 y11 y12 y13 y14 y15 y16 y17 y72 y73 y74 y75 y76 y77 y78 y79 y80 y81 y82 y83 y84 y85 y86 y87 y88 y89 y90 y91 y92 y93 y94 y95 y96 y97 y98 y99 y100 y101 y102 y103 y104 y105 y106 y107 y108 y109 y110 y111 y112 y113 y114 y115 y116 y117 y118 y119 y120 y121 y122 y123 y124 y125 y126 y127 y128 y129 y130 y131 y132 y133 y134 y135 y136 y137 y138 y139 y140 y141 y142 y143 y144 y145 y146 y147 y148 y149 y150 y151 y152 y153 y154 y155 y156 y157 y158 y159 y160 y161 y162 y163 y164 y165 y166 y167 y168 y169 y170 y171 y172 y173 y174 y175 y176 y177 y178 y179 y180 y181 y182 y183 y184 y185 y186 y187 y188 y189 y190 y191 y192 y193 y194 W6 v6 g c M z HZ6 HR6
  obtain ⟨gr, ra, rk, rfl, hra, hE6⟩ := HR6.out.es
  have HE6 := Lib.hid hE6
  obtain ⟨U, Z, hK, hZg, hMid⟩ := HZ6.out.plan HR.out HHD.out
  have HK6 := Lib.hid hK
  have HZG := Lib.hid hZg
  have HMI := Lib.hid hMid
  have hm12 := HM12.out
  clear hE6 hK hZg hMid HZ6 HR6 HR5 HT4 HZ5
  go_wp2_with fail
  apply sloop5 (HE := HE6) (HK := HK6) (HZ := HZG) (hra := hra) (hm := by omega) (hP := fun _ _ o _ _ h => by cases o <;> exact h)
  intro y18 y19 y20 y21 y195 y196 y197 y198 y199 y200 y201 y202 y203 y204 y205 y206 y207 y208 y209 y210 y211 y212 y213 y214 y215 y216 y217 y218 y219 y220 y221 y222 y223 y224 y225 y226 y227 y228 y229 y230 y231 y232 y233 y234 y235 y236 y237 y238 y239 y240 y241 y242 y243 y244 y245 y246 y247 y248 y249 y250 y251 y252 y253 y254 y255 y256 y257 y258 y259 y260 y261 y262 y263 y264 y265 y266 W7 M7 z7 HK7 HE7
  obtain ⟨hAR, V, Z2, hH0, hZ2, hFin⟩ := (HMI.out z7 M7 HK7.out).plan HR.out HHD.out
  have HAR := Lib.hid hAR
  have HZ2 := Lib.hid hZ2
  have HFI := Lib.hid hFin
  have HK8 := Lib.hid (hH0 (fun _ => (0, 0)))
  obtain ⟨W8, hW8⟩ : ∃ W, W = W7.alloc (.cells (madeCells #[.int .i64 0, .int .i64 0] (Nt.mm n * 2)) 35) := ⟨_, rfl⟩
  obtain ⟨gr2, hgr2, hE8, hH8⟩ := Hx.start HE7.out hW8
  have hra2 : 0 < Nt.mm n → ra = some ⟨gr2, 0, none⟩ := fun q => by rw [hgr2 q]; exact hra q
  obtain ⟨gh, hgh⟩ : ∃ x, x = W7.heap.size := ⟨_, rfl⟩
  rw [← hgh] at hH8
  have HE8 := Lib.hid hE8
  have HH8 := Lib.hid hH8
  have HW8 := Lib.hid hW8
  have HGH := Lib.hid hgh
  have hmk := smk_Frac (Nt.mm n) (by omega)
  clear hAR hZ2 hFin hH0 hE8 hH8 hW8 hgh hgr2 HMI HK7 HE7 HE6 HK6 HZG hra
  go_wp2_with fail
  rw [← HW8.out, ← HGH.out]
  clear HW8 HGH hmk
  apply sloop8 (HE := HE8) (HH := HH8) (HK := HK8) (HRM := HAR) (HZ := HZ2) (hra := hra2) (hm := by omega) (hP := fun _ _ o _ _ h => by cases o <;> exact h)
  intro y23 y24 y25 y271 y272 y273 y274 y275 y276 y277 y278 y279 y280 y281 y282 y283 y284 y285 y286 y287 y288 y289 y290 y291 y292 y293 y294 y295 y296 y297 y298 y299 y300 y301 y302 y303 y304 y305 y306 y307 y308 y309 y310 y311 y312 y313 y314 y315 y316 y317 y318 y319 y320 y321 y322 y323 y324 y325 y326 y327 W9 h9 z9 s9 HK9 hs9 HE9 HH9
  have HF9 := Lib.hid (HFI.out s9 z9 h9 HK9.out hs9)
  clear HFI HK9 hs9 HE8 HH8 HK8 HAR HZ2 hra2
  have l0 : W9.cell? ⟨gc, 0, none⟩ = some (.int .i64 z9) := HE9.out.rc.cell (i := 0) (by omega)
  rcases HF9.out with ⟨e9, _⟩ | ⟨e9, hbad⟩
  case inr =>
    subst e9
    have HBAD := Lib.hid hbad
    obtain ⟨hres, hold⟩ := HN4.out.past HE9.out.fr
    have O9 := Lib.hid hres
    have B9 := Lib.hid hold
    obtain ⟨⟨p0, p1, p2⟩, z0, z1, z2⟩ := rowN3 O9.out
    have lw : w.heap.size + 1 < W9.heap.size := O9.out.lt
    clear hbad hres hold HF9
    go_wp2_with fail
    obtain ⟨⟨x0, x1, x2⟩, _⟩ := rowN3 (OC.out 0 5 _ O9.out)
    have e5 : Nt.svAll n = 5 := by rw [Nt.svAll_yes HR.out, Nt.svCode_no HBAD.out]
    exact bodyPost_ret (v := noV none 0 0 0 5) (by simp [results, Tryz.results6, go_sem, x0, x1, x2]) rfl ⟨Or.inr ⟨HX.out, Or.inr ⟨by rw [e5]; decide, by rw [e5]⟩⟩, ((B9.out.setCell (p := ⟨w.heap.size + 1, 0, none⟩) (Nat.le_succ _) _).setCell (p := ⟨w.heap.size + 1, 1, none⟩) (Nat.le_succ _) _).setCell (p := ⟨w.heap.size + 1, 2, none⟩) (Nat.le_succ _) _⟩
  subst e9
  obtain ⟨hgood, hheads⟩ := HF9.out.heads
  have HGD := Lib.hid hgood
  have HHE := Lib.hid hheads
  obtain ⟨W10, hW10⟩ : ∃ W, W = W9.alloc (.cells #[.slice none 0 0, .int .i64 0, .int .i64 0] 31) := ⟨_, rfl⟩
  have HO10 := Lib.hid (Ou.start (f := Nt.svH n) HN4.out HE9.out HH9.out.blk hW10)
  obtain ⟨go, hgo⟩ : ∃ x, x = W9.heap.size := ⟨_, rfl⟩
  rw [← hgo] at HO10
  have HW10 := Lib.hid hW10
  have HGO := Lib.hid hgo
  clear hgood hheads hW10 hgo HF9 HE9 HH9
  go_wp2_with fail
  rw [← HW10.out, ← HGO.out]
  clear HW10 HGO l0
  apply sloop10 (HO := HO10) (HAT := HA) (HRT := HR) (HNN := HNN) (hN := by omega) (HNO := HHE) (hP := fun _ _ o _ _ h => by cases o <;> exact h)
  intro y27 y339 y340 y341 y342 y343 y344 y345 y346 y347 y348 y349 y350 y351 y352 y353 y354 y355 y356 y357 y358 y359 y360 y361 y362 y363 y364 y365 y366 y367 y368 y369 y370 y371 y372 y373 y374 y375 W11 va vk HO11
  clear HO10
  obtain ⟨⟨q0, q1, q2⟩, _⟩ := rowN3 HO11.out.s.ro
  obtain ⟨⟨p0, p1, p2⟩, z0, z1, z2⟩ := rowN3 HO11.out.s.res
  have lw : w.heap.size + 1 < W11.heap.size := HO11.out.s.res.lt
  obtain ⟨a9, c9, e9, q⟩ := fr_own HO11.out.s.own
  cases e9
  rcases q with q | ⟨g9, rfl, hg9, hblk⟩
  · exact absurd q.2.1 (by omega)
  have HBK := Lib.hid hblk
  have HG9 : Hid (w.heap.size ≤ g9 ∧ g9 ≠ w.heap.size + 1) := by
    show _ ∧ _
    have := HO11.out.s.num
    omega
  clear hblk hg9
  go_wp2_with fail
  obtain ⟨⟨x0, x1, x2⟩, _⟩ := rowN3 (rowN_put (rowN_put (rowN_put HO11.out.s.res 0 (.slice (some ⟨g9, 0, none⟩) (Nt.nn n) vk) (by simp)) 1 (.int .i64 0) (by simp)) 2 (.int .i64 0) (by simp))
  refine bodyPost_ret (v := noV (some ⟨g9, 0, none⟩) (Nt.nn n) vk 0 0) (by simp [results, Tryz.results6, go_sem, x0, x1, x2]) rfl ⟨Or.inr ⟨HX.out, Or.inl ⟨by rw [Nt.svAll_yes HR.out, Nt.svCode_ok HGD.out], g9, vk, rfl, HG9.out.1, HBK.out.block ?_⟩⟩, ((HO11.out.s.old.setCell (p := ⟨w.heap.size + 1, 0, none⟩) (Nat.le_succ _) _).setCell (p := ⟨w.heap.size + 1, 1, none⟩) (Nat.le_succ _) _).setCell (p := ⟨w.heap.size + 1, 2, none⟩) (Nat.le_succ _) _⟩
  exact (Below.heap_setCell _ ⟨w.heap.size + 1, 2, none⟩ _ _ HG9.out.2).trans ((Below.heap_setCell _ ⟨w.heap.size + 1, 1, none⟩ _ _ HG9.out.2).trans (Below.heap_setCell _ ⟨w.heap.size + 1, 0, none⟩ _ _ HG9.out.2))
end Go.Proofs.YtkaokfmaecdkiaaGreatDoor
namespace Go.Proofs.YtkaokfmaecdkiaaGreatDoor
open Go Go.RowKit Go.Deep

namespace Nt
theorem hv_far {n : Net} {v : Nat} (hf : ∀ r, r < mm n → nd n r ≠ v) : ∀ s, s ≤ mm n → hv n s v = kh n n.fn v
  | 0, _ => rfl
  | s + 1, hs => by
    rw [hv]
    unfold updF
    rw [if_neg (fun e => hf (mm n - 1 - s) (by omega) e.symm), hv_far hf s (by omega)]
theorem svH_small {n : Net} (h : Right n) (hh : ∀ j, j < nn n → held n j = true) (hg : SvGood n) (v : Nat) : (-2147483647 ≤ (svH n v).1 ∧ (svH n v).1 ≤ 2147483647) ∧ (0 ≤ (svH n v).2 ∧ (svH n v).2 ≤ 2147483647) := by
  have key : svH n v = (0, 0) ∨ Fq.R (svH n v) := by
    by_cases e : ∃ r, r < mm n ∧ nd n r = v
    · obtain ⟨r, hr, rfl⟩ := e
      right
      rw [svH_free hr]
      obtain ⟨hR, h0⟩ := Um_piv h hh hg.rhs hg.el
      exact El.hd_right hR h0 (mm n) (Nat.le_refl _) hg.hd r (by omega) hr
    · have : svH n v = kh n n.fn v := hv_far (fun r hr q => e ⟨r, hr, q⟩) _ (Nat.le_refl _)
      rw [this]
      rcases kh_bd h n.fn (Nat.le_refl _) v with q | q
      · exact Or.inl q.1
      · exact Or.inr q.1
  rcases key with q | q
  · rw [q]; simp
  · have := (M.rightB_iff _ _).1 q
    exact ⟨⟨this.2.2.1, this.2.2.2.1⟩, by omega, this.2.1⟩
/-- A net whose solving goes well. -/
structure Sv (n : Net) : Prop where
  r : Right n
  h : ∀ j, j < nn n → held n j = true
  g : SvGood n
theorem Sv.of {n : Net} (h1 : svLo n = none) (h2 : svAll n = 0) : Sv n := by
  by_cases hr : Right n
  · refine ⟨hr, ?_, ?_⟩
    · rw [svLo_yes hr] at h1
      exact held_of _ (List.head?_eq_none_iff.1 h1)
    · by_cases hg : SvGood n
      · exact hg
      · rw [svAll_yes hr, svCode_no hg] at h2; cases h2
  · rw [svAll_no hr] at h2; cases h2
theorem Sv.at_fixed {n : Net} (h : Sv n) {i : Nat} (hi : i < n.fn) : svH n (fx n i) = (n.F (i * 2 + 1), 1) := by
  have hf : fixed n (fx n i) = true := (fixed_iff _).2 ⟨i, hi, rfl⟩
  rw [svH_fixed hf, kh_place h.r hi rfl]
theorem Sv.fx_eq {n : Net} (h : Sv n) {i : Nat} (hi : i < n.fn) : n.F (i * 2) = (fx n i : Int) ∧ fx n i < nn n := by
  have := (h.r.f i hi).1
  have h1 := h.r.n1
  unfold fx nn
  omega
theorem Sv.nn_eq {n : Net} (h : Sv n) : ((nn n : Nat) : Int) = n.nodes ∧ 1 ≤ nn n ∧ nn n ≤ 12 := by
  have h1 := h.r.n1
  have h2 := h.r.n2
  unfold nn
  omega
end Nt
theorem Nt.Sv.bd {n : Nt.Net} (h : Nt.Sv n) : NBd (Nt.cells2 (Nt.svH n)) := by
  intro j
  have := Nt.svH_small h.r h.h h.g (j / 2)
  unfold Nt.cells2
  split <;> omega
/-- What solving tells. -/
theorem sv_told {n : Nt.Net} {B N : Nat} {f : Nat → Int} {e : Ending} {W : World} (h : ToldL B (Nt.svLo n) (Nt.svAll n) N f e W) :
    ∃ (a : Option Addr) (m c : Nat) (at_ code : Int), e = .returned (noV a m c at_ code) ∧ (code = 0 → Nt.Sv n) := by
  rcases h with ⟨c, h1, rfl⟩ | ⟨h1, h2⟩
  · exact ⟨none, 0, 0, c, 4, rfl, fun h => absurd h (by decide)⟩
  · rcases h2 with ⟨h3, g, k, rfl, _, _⟩ | ⟨h3, rfl⟩
    · exact ⟨_, _, _, 0, 0, rfl, fun _ => Nt.Sv.of h1 h3⟩
    · exact ⟨_, _, _, 0, _, rfl, fun h => absurd h h3⟩
theorem sv_ok {n : Nt.Net} {B N : Nat} {f : Nat → Int} {e : Ending} {W : World} (hs : Nt.Sv n) (h : ToldL B (Nt.svLo n) (Nt.svAll n) N f e W) :
    ∃ g k, e = .returned (noV (some ⟨g, 0, none⟩) N k 0 0) ∧ B ≤ g ∧ IsBlk 35 g (N * 2) f W := by
  have hc : Nt.svAll n = 0 := by rw [Nt.svAll_yes hs.r, Nt.svCode_ok hs.g]
  rcases h with ⟨c, h1, rfl⟩ | ⟨h1, h2⟩
  · rw [Nt.svLo_yes hs.r] at h1
    have hl : Nt.loose n = [] := by
      have : ∀ k, k ≤ Nt.nn n → Nt.looseTo n k = [] := by
        intro k
        induction k with
        | zero => intro _; rfl
        | succ k ih => intro hk; rw [Nt.looseTo_yes (hs.h k (by omega)), ih (by omega)]
      exact this _ (Nat.le_refl _)
    rw [hl] at h1; cases h1
  · rcases h2 with ⟨_, g, k, e, h3, h4⟩ | ⟨h3, _⟩
    · exact ⟨g, k, e, h3, h4⟩
    · exact absurd hc h3
/-- What is left, told. -/
theorem re_told {B : Nat} {code : Int} {N : Nat} {f : Nat → Int} {e : Ending} {W : World} (h : AnsF B code N f e W) :
    ∃ a m k, e = .returned (noV a m k 0 code) ∧ (code = 0 → m = N) ∧ LsOwn 35 2 B m a k f W := by
  obtain ⟨a, k, e1, h1⟩ := h
  exact ⟨a, _, k, e1, fun hc => by rw [if_pos hc], h1⟩
/-- The fractions of a list, one after another. -/
def frL (f : Nat → Int) (n : Nat) : List Int := (List.range (n * 2)).map f
theorem frL_len (f : Nat → Int) (n : Nat) : (jvs (frL f n)).length = n * 2 := by simp [jvs, frL]
theorem frL_one {f : Nat → Int} {n : Nat} : ∀ u ∈ jvs (frL f n), u.oneCell' = true := by
  intro u hu
  simp only [jvs, List.mem_map] at hu
  obtain ⟨z, _, rfl⟩ := hu
  rfl
theorem frL_cells {g n : Nat} {f : Nat → Int} {W : World} (h : IsAt (some ⟨g, 0, none⟩) (n * 2) f W) : ∀ j u, (jvs (frL f n))[j]? = some u → W.cell? ((⟨g, 0, none⟩ : Addr).add j) = some u := by
  intro j u hj
  have hl : j < n * 2 := by
    have := (List.getElem?_eq_some_iff.1 hj).1
    rwa [frL_len] at this
  obtain ⟨b, e, c⟩ := h.at1 hl
  cases e
  rw [Addr.add_lit, Nat.zero_add, c]
  rw [← hj]
  simp [jvs, frL, hl]
theorem fr_copy {n : Nat} {f : Nat → Int} {B : Nat} {v : Value} {W W1 : World} {g0 : Nat} (hW : B ≤ W.heap.size) (hown : W1.ownsRow B 35 2 v (0 + n) ([] ++ jvs (frL f n))) (hg : W.grownBy W1 (some g0)) (h0 : B ≤ g0) : (∃ a c, v = .slice a n c ∧ IsAt a (n * 2) f W1) ∧ Below B W W1 := by
  constructor
  · rw [Nat.zero_add, List.nil_append] at hown
    obtain ⟨a, c, e, h1, _⟩ := md_isat hown
    exact ⟨a, c, e, h1.congr (fun j hj => by simp [frL, hj])⟩
  · exact ⟨hg.os, hg.tape, hg.output, hg.size, fun k hk => hg.block k (by omega) (fun e => by cases e; omega)⟩
/-- An append inside a region. -/
theorem nap_at {P : Program} {ops : Array Oper} {o : Oper} {a : Act} {w : World} {K : Act → World → Prop} {Q : Exit → Act → World → Prop} {E : Prop}
    (hg : o.guard = none) (s x : Operand) (t : TypeId) (hop : o.op = Op.call { callee := Callee.builtin Builtin.append, args := #[s, x], argTypes := #[t, t] }) (B : Nat)
    (e : TypeId) (i : TypeInfo) (z : Value) (size bytes : Nat) (h1 : P.underlying t = some (.slice e)) (h2 : P.info? e = some i) (h3 : i.zero = some z) (h4 : i.size = size) (h5 : i.bytes = bytes) (h6 : z.cells.size = size) (h7 : 0 < size)
    (v : Value) (n : Nat) (olds : List Value) (hs : a.eval s = v) (hown : w.ownsRow B e size v n olds)
    (ad : Addr) (m c : Nat) (news : List Value) (hx : a.eval x = .slice (some ad) m c) (hn : news.length = m * size) (hc : ∀ j u, news[j]? = some u → w.cell? (ad.add j) = some u) (h1c : ∀ u ∈ news, u.oneCell' = true)
    (b1 : n + m ≤ maxLen) (b2 : (n + m) * bytes ≤ 140737488355328) (hB : B ≤ w.heap.size)
    (hK : ∀ v' w', w'.ownsRow B e size v' (n + m) (olds ++ news) → w.grownBy w' v.ownBlock → K (a.put o.dst v') w') :
    if Region.wanted o (yielded ops a.tmps) = true then Oper.wp P o a w K Q else E := by
  have hw : Region.wanted o (yielded ops a.tmps) = true := by simp [Region.wanted, hg]
  rw [if_pos hw]
  obtain ⟨v', w', hrun, r1, r2, _⟩ := run_append_own (P := P) w B t o.type e i z size bytes h1 h2 h3 h4 h5 h6 h7 v n olds hown ad m c news hn hc h1c b1 b2 hB
  unfold Oper.wp
  simp [execOp, hop, resolve, invoke, builtin, hs, hx, hrun, Result.andThen]
  exact hK v' w' r1 r2
theorem nrow_typ {W : World} {g m : Nat} {t : TypeId} {F : Nat → Value} (h : W.rowIs g t m F) : ∃ cur, W.heap[g]? = some (.cells cur t (0, 0)) := by obtain ⟨cur, q, _⟩ := h; exact ⟨cur, q⟩
theorem ntyp_ne {g k : Nat} {t t' : TypeId} {W : World} (h1 : ∃ cur, W.heap[g]? = some (.cells cur t (0, 0))) (h2 : ∃ cur, W.heap[k]? = some (.cells cur t' (0, 0))) (hne : t ≠ t') : g ≠ k := by
  rintro rfl
  obtain ⟨c1, h1⟩ := h1
  obtain ⟨c2, h2⟩ := h2
  rw [h1] at h2
  injection h2 with h2
  injection h2 with _ h2
  exact hne h2
theorem nown_typ {B n s : Nat} {t : TypeId} {v : Value} {xs : List Value} {W : World} (h : W.ownsRow B t s v n xs) {g : Nat} (hg : v.ownBlock = some g) : ∃ cur, W.heap[g]? = some (.cells cur t (0, 0)) := by
  rcases h.2 with h2 | ⟨g', cap, cur, e, _, h3, _⟩
  · rw [h2.1] at hg; cases hg
  · rw [e] at hg
    have : g' = g := by simpa [Value.ownBlock] using hg
    subst this
    exact ⟨cur, h3⟩
theorem nwn_below {B n s : Nat} {t : TypeId} {v : Value} {xs : List Value} {W W' : World} (h : W.ownsRow B t s v n xs) (hb : Below W.heap.size W W') : W'.ownsRow B t s v n xs := by
  refine ⟨h.1, ?_⟩
  rcases h.2 with h2 | ⟨g, cap, cur, e1, e2, e3, e4, e5, e6, e7⟩
  · exact Or.inl h2
  · exact Or.inr ⟨g, cap, cur, e1, e2, (hb.block g (Array.getElem?_eq_some_iff.1 e3).1).trans e3, e4, e5, e6, e7⟩
theorem nput3 {V : World} {g : Nat} {x0 x1 x2 : Value} {t : TypeId} (h : V.rowIs g t 3 (rowN [x0, x1, x2])) (y0 y1 y2 : Value) : (((V.setCell ⟨g, 0, none⟩ y0).setCell ⟨g, 1, none⟩ y1).setCell ⟨g, 2, none⟩ y2).rowIs g t 3 (rowN [y0, y1, y2]) :=
  rowN_put (rowN_put (rowN_put h 0 _ (by simp)) 1 _ (by simp)) 2 _ (by simp)
theorem nbel3 {V w : World} {B g : Nat} (h : Below B w V) (hg : B ≤ g) (y0 y1 y2 : Value) : Below B w (((V.setCell ⟨g, 0, none⟩ y0).setCell ⟨g, 1, none⟩ y1).setCell ⟨g, 2, none⟩ y2) :=
  ((h.setCell (p := ⟨g, 0, none⟩) hg _).setCell (p := ⟨g, 1, none⟩) hg _).setCell (p := ⟨g, 2, none⟩) hg _
theorem nrhs (V : World) (p : Addr) (y : Value) {k : Nat} (hk : k ≠ p.block) : (V.setCell p y).heap[k]? = V.heap[k]? := by
  exact Below.heap_setCell _ _ _ _ hk
theorem nblk3 (V : World) {g k : Nat} (hk : k ≠ g) (y0 y1 y2 : Value) : (((V.setCell ⟨g, 0, none⟩ y0).setCell ⟨g, 1, none⟩ y1).setCell ⟨g, 2, none⟩ y2).heap[k]? = V.heap[k]? := by
  rw [nrhs _ _ _ hk, nrhs _ _ _ hk, nrhs _ _ _ hk]
theorem ls_ne {B N c X m : Nat} {a : Option Addr} {f : Nat → Int} {G : Nat → Value} {W W' : World} (h : LsOwn 35 2 B N a c f W) (hx : W.rowIs X 31 m G) (hb : ∀ k, k ≠ X → W'.heap[k]? = W.heap[k]?) : LsOwn 35 2 B N a c f W' := by
  rcases h with h | ⟨g, e, h1, h2⟩
  · exact Or.inl h
  · refine Or.inr ⟨g, e, h1, h2.block (hb g ?_)⟩
    obtain ⟨m', F, _, h3, _⟩ := h2
    exact ntyp_ne (nrow_typ h3) (nrow_typ hx) (by decide)
end Go.Proofs.YtkaokfmaecdkiaaGreatDoor
