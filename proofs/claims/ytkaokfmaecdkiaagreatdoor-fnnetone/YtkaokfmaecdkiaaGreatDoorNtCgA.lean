/-
  Joined: NtSv1, NtEl, NtEl2, NtSv2, NtSv3.
-/
import Derived.Test.YtkaokfmaecdkiaaGreatDoorNtFl1
import Derived.Test.YtkaokfmaecdkiaaGreatDoorNtReM
import Derived.Test.YtkaokfmaecdkiaaGreatDoorNtRat2
import Derived.Test.YtkaokfmaecdkiaaGreatDoorNtLs2
import Derived.Test.YtkaokfmaecdkiaaGreatDoorNtFq
import Derived.Test.YtkaokfmaecdkiaaGreatDoorNtRat
namespace Go.Proofs.YtkaokfmaecdkiaaGreatDoor
open Go.RowKit Go.Deep

namespace Nt
def acN (a b v : Int) : Int := if v = a then b else if v = b then a else 0
def acB (a b v : Int) : Bool := if v = a then true else if v = b then true else false
theorem coefTo_bd {n : Net} (h : Right n) (v u : Nat) : ∀ i, i ≤ n.ln → -(i * 1000 : Int) ≤ coefTo n v u i ∧ coefTo n v u i ≤ i * 1000
  | 0, _ => by simp [coefTo]
  | i + 1, hi => by
    have ih := coefTo_bd h v u i (by omega)
    have hg := (h.l i (by omega)).2.2.2
    have ha : -1000 ≤ coefAt n v u i ∧ coefAt n v u i ≤ 1000 := by
      unfold coefAt
      split
      · split
        · omega
        · split <;> omega
      · split
        · split
          · omega
          · split <;> omega
        · omega
    rw [coefTo]
    have e : ((i + 1 : Nat) : Int) = (i : Int) + 1 := by omega
    rw [e]
    omega
/-- The heads that are known, and noughts. -/
def kh (n : Net) : Nat → Nat → Int × Int
  | 0 => fun _ => (0, 0)
  | i + 1 => updF (kh n i) (fx n i) (n.F (i * 2 + 1), 1)
theorem kh_bd {n : Net} (h : Right n) : ∀ i, i ≤ n.fn → ∀ v, (kh n i v = (0, 0) ∧ startH n i v = false) ∨ (Fq.R (kh n i v) ∧ startH n i v = true)
  | 0, _, v => Or.inl ⟨rfl, rfl⟩
  | i + 1, hi, v => by
    have ih := kh_bd h i (by omega) v
    have hF := (h.f i (by omega)).2.1
    simp only [kh, startH, updB]
    by_cases e : v = fx n i
    · subst e
      rw [updF_same, if_pos rfl]
      exact Or.inr ⟨(Fq.whole_ok (z := n.F (i * 2 + 1)) (by omega) (by omega)).2.2.2, rfl⟩
    · rw [updF_ne e, if_neg e]; exact ih
end Nt
set_option maxHeartbeats 1000000 in
theorem across_any (a b g v : Int) (w : World) :
    Calls Tryz.prog 105 #[.agg #[.int .i64 a, .int .i64 b, .int .i64 g], .int .i64 v] w fun e w' => e = .returned (.tuple #[.int .i64 (Nt.acN a b v), .bool (Nt.acB a b v)]) ∧ Below w.heap.size w w' := by
  by_cases h1 : v = a
  · have e1 : Nt.acN a b v = b := if_pos h1
    have e2 : Nt.acB a b v = true := if_pos h1
    have h1' : (v == a) = true := by simp [h1]
    rw [e1, e2]
    clear e1 e2 h1
    go_enter Tryz.func105, Tryz.ntmps105
    go_wp2_with fail
    exact bodyPost_ret (v := .tuple #[.int .i64 (b), .bool true]) (by simp [results, Tryz.results105, go_sem]) rfl ⟨rfl, nbel_alloc _ _⟩
  · have h1' : (v == a) = false := by simp [h1]
    by_cases h2 : v = b
    · have e1 : Nt.acN a b v = a := by unfold Nt.acN; rw [if_neg h1, if_pos h2]
      have e2 : Nt.acB a b v = true := by unfold Nt.acB; rw [if_neg h1, if_pos h2]
      have h2' : (v == b) = true := by simp [h2]
      rw [e1, e2]
      clear e1 e2 h1 h2
      go_enter Tryz.func105, Tryz.ntmps105
      go_wp2_with fail
      exact bodyPost_ret (v := .tuple #[.int .i64 (a), .bool true]) (by simp [results, Tryz.results105, go_sem]) rfl ⟨rfl, nbel_alloc _ _⟩
    · have e1 : Nt.acN a b v = 0 := by unfold Nt.acN; rw [if_neg h1, if_neg h2]
      have e2 : Nt.acB a b v = false := by unfold Nt.acB; rw [if_neg h1, if_neg h2]
      have h2' : (v == b) = false := by simp [h2]
      rw [e1, e2]
      clear e1 e2 h1 h2
      go_enter Tryz.func105, Tryz.ntmps105
      go_wp2_with fail
      exact bodyPost_ret (v := .tuple #[.int .i64 (0), .bool false]) (by simp [results, Tryz.results105, go_sem]) rfl ⟨rfl, nbel_alloc _ _⟩
set_option maxRecDepth 100000 in
set_option maxHeartbeats 8000000 in
theorem coef_any (n : Nt.Net) (la : Option Addr) (lk : Nat) (v u : Nat) (w : World) (h : IsAt la (n.ln * 3) n.L w) (hr : Nt.Right n) :
    Calls Tryz.prog 86 #[.slice la n.ln lk, .int .i64 v, .int .i64 u] w fun e w' => e = .returned (.int .i64 (Nt.coefTo n v u n.ln)) ∧ Below w.heap.size w w' := by
  have H := Lib.hid h
  have HR := Lib.hid hr
  have hln := hr.ln
  clear h hr
  go_enter Tryz.func86, Tryz.ntmps86
  go_wp2_with fail
  go_loopw [7, 14] (fun sv iv wr => ∃ (i : Nat), i ≤ n.ln ∧ sv = .int .i64 (Nt.coefTo n v u i) ∧ iv = .int .i64 i ∧ Hid (Below w.heap.size w wr)) (fun _ iv _ => n.ln - (intOf iv).toNat)
  case atStart => exact ⟨0, Nat.zero_le _, rfl, rfl, Below.refl _ _⟩
  case round =>
    obtain ⟨i, hi, rfl, rfl, hB⟩ := hrel
    by_cases hlt : i < n.ln
    · have hltz : (i : Int) < (n.ln : Int) := by omega
      obtain ⟨b, e, c0, c1, c2⟩ := (H.out.below hB.out).at3 hlt
      subst e
      have zb : b < wr.heap.size := World.block_lt_of_cell? _ _ c0
      obtain ⟨ef, hfr⟩ := HR.out.fr hlt
      obtain ⟨et, htt⟩ := HR.out.tt hlt
      have hne := HR.out.frtt hlt
      have hbd := Nt.coefTo_bd HR.out v u i (by omega)
      have hgv := (HR.out.l i hlt).2.2.2
      obtain ⟨S, hS⟩ : ∃ S, S = Nt.coefTo n v u i := ⟨_, rfl⟩
      have HS : Hid (Nt.coefTo n v u (i + 1) = S + Nt.coefAt n v u i) := by show _ = _; rw [hS]; rfl
      rw [← hS] at hbd ⊢
      obtain ⟨G, hG⟩ : ∃ G, G = n.L (i * 3 + 2) := ⟨_, rfl⟩
      rw [← hG] at c2 hgv
      have hs1 : -40000 ≤ S := by omega
      have hs2 : S ≤ 40000 := by omega
      have hg1 : 1 ≤ G := hgv.1
      have hg2 : G ≤ 1000 := hgv.2
      have HG := Lib.hid hG
      rw [ef] at c0
      rw [et] at c1
      have HE : Hid (n.L (i * 3) = (Nt.fr n i : Nat) ∧ n.L (i * 3 + 1) = (Nt.tt n i : Nat)) := ⟨ef, et⟩
      clear hS hbd ef et hG hgv
      go_wp2_with fail
      refine (across_any _ _ _ _ _).mono ?_
      rintro e w1 ⟨rfl, hb⟩
      have B1 : Hid (Below w.heap.size w w1) := (hB.out.alloc hB.out.size _).trans (hb.mono (by have := hB.out.size; simp; omega))
      have d2 : w1.cell? ⟨wr.heap.size, 2, none⟩ = some (.int .i64 G) := by rw [hb.cell (by simp)]; simp
      clear hb c0 c1 c2
      by_cases k1 : v = Nt.fr n i
      · have a1 : Nt.acB (Nt.fr n i : Nat) (Nt.tt n i : Nat) (v : Int) = true := if_pos (by omega)
        have a2 : Nt.acN (Nt.fr n i : Nat) (Nt.tt n i : Nat) (v : Int) = (Nt.tt n i : Nat) := if_pos (by omega)
        rw [a1, a2]
        clear a1 a2
        by_cases k2 : u = v
        · have k2z : ((u : Int) == (v : Int)) = true := by simp [k2]
          have HC : Hid (Nt.coefAt n v u i = G) := by show _ = _; unfold Nt.coefAt; rw [if_pos k1.symm, if_pos k2, HG.out]
          clear k1 k2
          go_wp2_with fail
          go_roundw
          case rel => exact ⟨i + 1, by omega, by rw [HS.out, HC.out], by go_num, B1⟩
          case measure => simp [intOf]; omega
        · have k2z : ((u : Int) == (v : Int)) = false := by simp; omega
          by_cases k3 : u = Nt.tt n i
          · have k3z : ((u : Int) == (Nt.tt n i : Int)) = true := by simp [k3]
            have HC : Hid (Nt.coefAt n v u i = -G) := by show _ = _; unfold Nt.coefAt; rw [if_pos k1.symm, if_neg k2, if_pos k3, HG.out]
            clear k1 k2 k3
            go_wp2_with fail
            go_roundw
            case rel => exact ⟨i + 1, by omega, by rw [HS.out, HC.out]; rfl, by go_num, B1⟩
            case measure => simp [intOf]; omega
          · have k3z : ((u : Int) == (Nt.tt n i : Int)) = false := by simp; omega
            have HC : Hid (Nt.coefAt n v u i = 0) := by show _ = _; unfold Nt.coefAt; rw [if_pos k1.symm, if_neg k2, if_neg k3]
            clear k1 k2 k3
            go_wp2_with fail
            go_roundw
            case rel => exact ⟨i + 1, by omega, by rw [HS.out, HC.out, Int.add_zero], by go_num, B1⟩
            case measure => simp [intOf]; omega
      · by_cases k4 : v = Nt.tt n i
        · have a1 : Nt.acB (Nt.fr n i : Nat) (Nt.tt n i : Nat) (v : Int) = true := by unfold Nt.acB; rw [if_neg (by omega), if_pos (by omega)]
          have a2 : Nt.acN (Nt.fr n i : Nat) (Nt.tt n i : Nat) (v : Int) = (Nt.fr n i : Nat) := by unfold Nt.acN; rw [if_neg (by omega), if_pos (by omega)]
          rw [a1, a2]
          clear a1 a2
          by_cases k2 : u = v
          · have k2z : ((u : Int) == (v : Int)) = true := by simp [k2]
            have HC : Hid (Nt.coefAt n v u i = G) := by show _ = _; unfold Nt.coefAt; rw [if_neg (Ne.symm k1), if_pos k4.symm, if_pos k2, HG.out]
            clear k1 k2 k4
            go_wp2_with fail
            go_roundw
            case rel => exact ⟨i + 1, by omega, by rw [HS.out, HC.out], by go_num, B1⟩
            case measure => simp [intOf]; omega
          · have k2z : ((u : Int) == (v : Int)) = false := by simp; omega
            by_cases k3 : u = Nt.fr n i
            · have k3z : ((u : Int) == (Nt.fr n i : Int)) = true := by simp [k3]
              have HC : Hid (Nt.coefAt n v u i = -G) := by show _ = _; unfold Nt.coefAt; rw [if_neg (Ne.symm k1), if_pos k4.symm, if_neg k2, if_pos k3, HG.out]
              clear k1 k2 k3 k4
              go_wp2_with fail
              go_roundw
              case rel => exact ⟨i + 1, by omega, by rw [HS.out, HC.out]; rfl, by go_num, B1⟩
              case measure => simp [intOf]; omega
            · have k3z : ((u : Int) == (Nt.fr n i : Int)) = false := by simp; omega
              have HC : Hid (Nt.coefAt n v u i = 0) := by show _ = _; unfold Nt.coefAt; rw [if_neg (Ne.symm k1), if_pos k4.symm, if_neg k2, if_neg k3]
              clear k1 k2 k3 k4
              go_wp2_with fail
              go_roundw
              case rel => exact ⟨i + 1, by omega, by rw [HS.out, HC.out, Int.add_zero], by go_num, B1⟩
              case measure => simp [intOf]; omega
        · have a1 : Nt.acB (Nt.fr n i : Nat) (Nt.tt n i : Nat) (v : Int) = false := by unfold Nt.acB; rw [if_neg (by omega), if_neg (by omega)]
          rw [a1]
          have HC : Hid (Nt.coefAt n v u i = 0) := by show _ = _; unfold Nt.coefAt; rw [if_neg (Ne.symm k1), if_neg (Ne.symm k4)]
          clear a1 k1 k4
          go_wp2_with fail
          go_roundw
          case rel => exact ⟨i + 1, by omega, by rw [HS.out, HC.out, Int.add_zero], by go_num, B1⟩
          case measure => simp [intOf]; omega
    · obtain rfl : i = n.ln := by omega
      go_wp2_with fail
      go_ret
      exact ⟨rfl, hB.out⟩
end Go.Proofs.YtkaokfmaecdkiaaGreatDoor
namespace Go.Proofs.YtkaokfmaecdkiaaGreatDoor

namespace Fq
/-- The number that a pair stands for. -/
def q (x : Int × Int) : Rat := (x.1 : Rat) / (x.2 : Rat)
theorem R.ne {x : Int × Int} (h : R x) : (x.2 : Rat) ≠ 0 := by
  have := h.bd
  intro e
  have e2 : x.2 = 0 := by exact_mod_cast e
  omega
theorem ne_of {z : Int} (h : z ≠ 0) : (z : Rat) ≠ 0 := fun e => h (by exact_mod_cast e)
theorem q_zero {x : Int × Int} (h : R x) : q x = 0 ↔ x.1 = 0 := by
  have hd := h.ne
  unfold q
  constructor
  · intro e
    have : (x.1 : Rat) = 0 := by grind
    exact_mod_cast this
  · intro e; rw [e, Rat.intCast_zero]; grind
theorem q_val {p : Int × Int} (h0 : p.2 ≠ 0) (hc : code p = 0) : q (val p) = q p := by
  obtain ⟨n, d⟩ := p
  have h0 : d ≠ 0 := h0
  have hc : M.codeF n d = 0 := hc
  unfold q val
  show ((M.oN n d : Int) : Rat) / ((M.oD n d : Int) : Rat) = (n : Rat) / (d : Rat)
  unfold M.oN M.oD
  rw [if_pos hc, if_pos hc]
  have hg : (Int.gcd n d : Int) ≠ 0 := by
    intro e
    have : Int.gcd n d = 0 := by omega
    exact h0 (Int.gcd_eq_zero_iff.1 this).2
  obtain ⟨a, ha⟩ := Int.gcd_dvd_left (a := n) (b := d)
  obtain ⟨b, hb⟩ := Int.gcd_dvd_right (a := n) (b := d)
  have t1 : n.tdiv (Int.gcd n d) = a := by
    have := Int.mul_tdiv_cancel_left a hg
    rw [← ha] at this
    exact this
  have t2 : d.tdiv (Int.gcd n d) = b := by
    have := Int.mul_tdiv_cancel_left b hg
    rw [← hb] at this
    exact this
  have hb0 : b ≠ 0 := by
    intro e; rw [e, Int.mul_zero] at hb; exact h0 hb
  have r1 : (n : Rat) = ((Int.gcd n d : Int) : Rat) * (a : Rat) := by
    have := congrArg (fun z : Int => (z : Rat)) ha
    simpa [Rat.intCast_mul] using this
  have r2 : (d : Rat) = ((Int.gcd n d : Int) : Rat) * (b : Rat) := by
    have := congrArg (fun z : Int => (z : Rat)) hb
    simpa [Rat.intCast_mul] using this
  have g0 := ne_of hg
  have b0 := ne_of hb0
  unfold M.lowN M.lowD
  split
  · rw [Int.neg_tdiv, Int.neg_tdiv, t1, t2, Rat.intCast_neg, Rat.intCast_neg, r1, r2]
    grind
  · rw [t1, t2, r1, r2]
    grind
theorem q_sub {x y : Int × Int} (hx : R x) (hy : R y) : q (sub x y) = q x - q y := by
  have a := hx.ne; have b := hy.ne
  unfold q sub
  simp only [Rat.intCast_sub, Rat.intCast_mul]
  grind
theorem q_mul {x y : Int × Int} (hx : R x) (hy : R y) : q (mul x y) = q x * q y := by
  have a := hx.ne; have b := hy.ne
  unfold q mul
  simp only [Rat.intCast_mul]
  grind
theorem q_div {x y : Int × Int} (hx : R x) (hy : R y) (h0 : y.1 ≠ 0) : q (div x y) = q x / q y := by
  have a := hx.ne; have b := hy.ne; have c := ne_of h0
  unfold q div
  simp only [Rat.intCast_mul]
  grind
theorem val_sub {x y : Int × Int} (hx : R x) (hy : R y) (hc : code (sub x y) = 0) : R (val (sub x y)) ∧ q (val (sub x y)) = q x - q y :=
  have f := sub_fit hx hy
  ⟨val_right f.1 f.2.1 f.2.2 hc, by rw [q_val f.1 hc, q_sub hx hy]⟩
theorem val_mul {x y : Int × Int} (hx : R x) (hy : R y) (hc : code (mul x y) = 0) : R (val (mul x y)) ∧ q (val (mul x y)) = q x * q y :=
  have f := mul_fit hx hy
  ⟨val_right f.1 f.2.1 f.2.2 hc, by rw [q_val f.1 hc, q_mul hx hy]⟩
theorem val_div {x y : Int × Int} (hx : R x) (hy : R y) (h0 : y.1 ≠ 0) (hc : code (div x y) = 0) : R (val (div x y)) ∧ q (val (div x y)) = q x / q y :=
  have f := div_fit hx hy h0
  ⟨val_right f.1 f.2.1 f.2.2 hc, by rw [q_val f.1 hc, q_div hx hy h0]⟩
end Fq

namespace El
open Fq
abbrev Mx := Nat → Nat → Int × Int
/-- How often a row is taken off another. -/
def fac (U : Mx) (k r : Nat) : Int × Int := val (div (U r k) (U k k))
def cell (U : Mx) (k r c : Nat) : Int × Int := val (sub (U r c) (val (mul (fac U k r) (U k c))))
/-- A number of a row behind this pivot. -/
def el (U : Mx) (k r c : Nat) : Int × Int := if (fac U k r).1 = 0 then U r c else cell U k r c
/-- The rows ahead of s are done. -/
def part (U : Mx) (k s : Nat) : Mx := fun r c => if k < r ∧ r < s ∧ k ≤ c then el U k r c else U r c
def mats (m : Nat) (U : Mx) : Nat → Mx
  | 0 => U
  | k + 1 => part (mats m U k) k m
def CellOk (U : Mx) (k r c : Nat) : Prop := code (mul (fac U k r) (U k c)) = 0 ∧ code (sub (U r c) (val (mul (fac U k r) (U k c)))) = 0
def RowOk (m : Nat) (U : Mx) (k r : Nat) : Prop := code (div (U r k) (U k k)) = 0 ∧ ((fac U k r).1 ≠ 0 → ∀ c, k ≤ c → c ≤ m → CellOk U k r c)
/-- All reckonings of the pivots ahead of k, and of k down to the row s, have answers. -/
def Good (m : Nat) (U : Mx) (k s : Nat) : Prop := (∀ j, j < k → ∀ r, j < r → r < m → RowOk m (mats m U j) j r) ∧ ∀ r, k < r → r < s → RowOk m (mats m U k) k r
def AllR (m : Nat) (U : Mx) : Prop := ∀ r c, r < m → c ≤ m → R (U r c)
theorem Good.zero (m : Nat) (U : Mx) : Good m U 0 1 := ⟨fun j hj => absurd hj (Nat.not_lt_zero _), fun r h1 h2 => absurd h1 (by omega)⟩
theorem Good.next {m : Nat} {U : Mx} {k : Nat} (h : Good m U k m) : Good m U (k + 1) (k + 2) :=
  ⟨fun j hj r h1 h2 => by
    by_cases e : j = k
    · subst e; exact h.2 r h1 h2
    · exact h.1 j (by omega) r h1 h2, fun r h1 h2 => absurd h1 (by omega)⟩
theorem Good.row {m : Nat} {U : Mx} {k s : Nat} (h : Good m U k s) (hr : k < s → RowOk m (mats m U k) k s) : Good m U k (s + 1) :=
  ⟨h.1, fun r h1 h2 => by
    by_cases e : r = s
    · subst e; exact hr h1
    · exact h.2 r h1 (by omega)⟩
theorem Good.less {m : Nat} {U : Mx} {k s k' s' : Nat} (h : Good m U k s) (hk : k' < k) (hs : s' ≤ m) : Good m U k' s' :=
  ⟨fun j hj => h.1 j (by omega), fun r h1 h2 => h.1 k' hk r h1 (by omega)⟩
theorem part_start {U : Mx} {k : Nat} : part U k (k + 1) = U := by
  funext r c
  unfold part
  rw [if_neg (by omega)]
/-- What a pivot's rows come to, as numbers. -/
structure Piv (m : Nat) (U : Mx) (k : Nat) : Prop where
  r : AllR m (mats m U k)
  sure : Nt.Sure m k (fun r c => q (mats m U k r c))
theorem Piv.ne {m : Nat} {U : Mx} {k : Nat} (h : Piv m U k) (hk : k < m) : (mats m U k k k).1 ≠ 0 := by
  intro e
  exact h.sure.pivot hk ((q_zero (h.r k k hk (by omega))).2 e)
theorem el_right {m : Nat} {U : Mx} {k r c : Nat} (hR : AllR m U) (h0 : (U k k).1 ≠ 0) (hk : k < m) (hr : r < m) (hc : c ≤ m) (hkc : k ≤ c) (ho : RowOk m U k r) : R (el U k r c) ∧ q (el U k r c) = q (U r c) - q (U r k) / q (U k k) * q (U k c) := by
  have d := val_div (hR r k hr (by omega)) (hR k k hk (by omega)) h0 ho.1
  unfold el
  by_cases e : (fac U k r).1 = 0
  · rw [if_pos e]
    refine ⟨hR r c hr hc, ?_⟩
    have z : q (fac U k r) = 0 := (q_zero d.1).2 e
    have z2 : q (U r k) / q (U k k) = 0 := by rw [← d.2]; exact z
    rw [z2]
    grind
  · rw [if_neg e]
    obtain ⟨c1, c2⟩ := ho.2 e c hkc hc
    have m1 := val_mul d.1 (hR k c hk hc) c1
    have s1 := val_sub (hR r c hr hc) m1.1 c2
    exact ⟨s1.1, s1.2.trans (by rw [m1.2, d.2])⟩
theorem part_right {m : Nat} {U : Mx} {k s : Nat} (hR : AllR m U) (h0 : (U k k).1 ≠ 0) (hk : k < m) (ho : ∀ r, k < r → r < s → RowOk m U k r) : AllR m (part U k s) := by
  intro r c hr hc
  unfold part
  split
  · rename_i h
    exact (el_right hR h0 hk hr hc h.2.2 (ho r h.1 h.2.1)).1
  · exact hR r c hr hc
theorem Piv.next {m : Nat} {U : Mx} {k : Nat} (h : Piv m U k) (hk : k < m) (hg : Good m U k m) : Piv m U (k + 1) := by
  have h0 := h.ne hk
  refine ⟨part_right h.r h0 hk hg.2, h.sure.step hk (fun r h1 h2 c h3 h4 => ?_)⟩
  show q (part (mats m U k) k m r c) = _
  unfold part
  rw [if_pos ⟨h1, h2, by omega⟩]
  exact (el_right h.r h0 hk h2 (by omega) (by omega) (hg.2 r h1 h2)).2
theorem Piv.of {m : Nat} {U : Mx} (hR : AllR m U) (hs : Nt.Sure m 0 (fun r c => q (U r c))) : ∀ k, k ≤ m → ∀ s, Good m U k s → Piv m U k
  | 0, _, _, _ => ⟨hR, hs⟩
  | k + 1, hk, s, hg => (Piv.of hR hs k (by omega) m (hg.less (by omega) (Nat.le_refl _))).next (by omega) (hg.less (by omega) (Nat.le_refl _))

/-- Heads, found backwards: what is left of a row's last number. -/
def bs (m : Nat) (U : Mx) (h : Nat → Int × Int) (k : Nat) : Nat → Int × Int
  | 0 => U k m
  | t + 1 => val (sub (bs m U h k t) (val (mul (U k (k + 1 + t)) (h (k + 1 + t)))))
def updF (f : Nat → Int × Int) (a : Nat) (x : Int × Int) : Nat → Int × Int := fun j => if j = a then x else f j
/-- So many heads found, from the last on. -/
def hd (m : Nat) (U : Mx) : Nat → Nat → Int × Int
  | 0 => fun _ => (0, 0)
  | s + 1 => updF (hd m U s) (m - 1 - s) (val (div (bs m U (hd m U s) (m - 1 - s) s) (U (m - 1 - s) (m - 1 - s))))
def BsOk (m : Nat) (U : Mx) (h : Nat → Int × Int) (k t : Nat) : Prop := ∀ j, j < t → code (mul (U k (k + 1 + j)) (h (k + 1 + j))) = 0 ∧ code (sub (bs m U h k j) (val (mul (U k (k + 1 + j)) (h (k + 1 + j))))) = 0
def HdOk (m : Nat) (U : Mx) (s : Nat) : Prop := ∀ j, j < s → BsOk m U (hd m U j) (m - 1 - j) j ∧ code (div (bs m U (hd m U j) (m - 1 - j) j) (U (m - 1 - j) (m - 1 - j))) = 0
theorem bs_right {m : Nat} {U : Mx} {h : Nat → Int × Int} {k : Nat} (hR : AllR m U) (hk : k < m) (hh : ∀ j, k < j → j < m → R (h j)) : ∀ t, k + 1 + t ≤ m → BsOk m U h k t → R (bs m U h k t)
  | 0, _, _ => hR k m hk (Nat.le_refl _)
  | t + 1, ht, ho => by
    have ih := bs_right hR hk hh t (by omega) (fun j hj => ho j (by omega))
    obtain ⟨c1, c2⟩ := ho t (by omega)
    have m1 := val_mul (hR k (k + 1 + t) hk (by omega)) (hh (k + 1 + t) (by omega) (by omega)) c1
    exact (val_sub ih m1.1 c2).1
theorem hd_right {m : Nat} {U : Mx} (hR : AllR m U) (h0 : ∀ k, k < m → (U k k).1 ≠ 0) : ∀ s, s ≤ m → HdOk m U s → ∀ j, m - s ≤ j → j < m → R (hd m U s j)
  | 0, _, _, j, h1, h2 => absurd h1 (by omega)
  | s + 1, hs, ho, j, h1, h2 => by
    have ih := hd_right hR h0 s (by omega) (fun j hj => ho j (by omega))
    show R (updF _ _ _ j)
    unfold updF
    by_cases e : j = m - 1 - s
    · rw [if_pos e]
      obtain ⟨o1, o2⟩ := ho s (by omega)
      have b1 := bs_right hR (k := m - 1 - s) (by omega) (fun j h1 h2 => ih j (by omega) h2) s (by omega) o1
      exact (val_div b1 (hR _ _ (by omega) (by omega)) (h0 _ (by omega)) o2).1
    · rw [if_neg e]
      exact ih j (by omega) h2
end El
end Go.Proofs.YtkaokfmaecdkiaaGreatDoor
namespace Go.Proofs.YtkaokfmaecdkiaaGreatDoor

namespace Nt
/-- What a link brings a node's last number, where its other end is fixed. -/
def rhsAt (n : Net) (v i : Nat) : Int :=
  if fr n i = v then (if fixed n (tt n i) then n.L (i * 3 + 2) * (kh n n.fn (tt n i)).1 else 0) else if tt n i = v then (if fixed n (fr n i) then n.L (i * 3 + 2) * (kh n n.fn (fr n i)).1 else 0) else 0
def rhsTo (n : Net) (v : Nat) : Nat → Int
  | 0 => -n.W v
  | i + 1 => rhsTo n v i + rhsAt n v i
def Fits (z : Int) : Prop := -2147483647 ≤ z ∧ z ≤ 2147483647
def RhsOk (n : Net) (v i : Nat) : Prop := ∀ j, j ≤ i → Fits (rhsTo n v j)
theorem kh_den {n : Net} (h : Right n) : ∀ i, i ≤ n.fn → ∀ v, startH n i v = true → (kh n i v).2 = 1 ∧ -100000 ≤ (kh n i v).1 ∧ (kh n i v).1 ≤ 100000
  | 0, _, v, hv => by cases hv
  | i + 1, hi, v, hv => by
    rw [kh]
    have hv : updB (startH n i) (fx n i) true v = true := hv
    unfold updB at hv
    unfold updF
    by_cases e : v = fx n i
    · rw [if_pos e]
      have := (h.f i (by omega)).2.1
      exact ⟨rfl, this.1, this.2⟩
    · rw [if_neg e] at hv ⊢
      exact kh_den h i (by omega) v hv
theorem kh_fixed {n : Net} (h : Right n) {v : Nat} (hv : fixed n v = true) : (kh n n.fn v).2 = 1 ∧ -100000 ≤ (kh n n.fn v).1 ∧ (kh n n.fn v).1 ≤ 100000 := kh_den h _ (Nat.le_refl _) v hv
theorem give_bd {n : Net} (h : Right n) {i v : Nat} (hi : i < n.ln) (hv : fixed n v = true) : -100000000 ≤ n.L (i * 3 + 2) * (kh n n.fn v).1 ∧ n.L (i * 3 + 2) * (kh n n.fn v).1 ≤ 100000000 := by
  have h1 := (h.l i hi).2.2.2
  have h2 := (kh_fixed h hv).2
  obtain ⟨G, hG⟩ : ∃ G, G = n.L (i * 3 + 2) := ⟨_, rfl⟩
  obtain ⟨X, hX⟩ : ∃ X, X = (kh n n.fn v).1 := ⟨_, rfl⟩
  rw [← hG] at h1 ⊢
  rw [← hX] at h2 ⊢
  have a : G * X ≤ G * 100000 := Int.mul_le_mul_of_nonneg_left h2.2 (by omega)
  have b : G * (-100000) ≤ G * X := Int.mul_le_mul_of_nonneg_left h2.1 (by omega)
  omega
theorem rhsAt_bd {n : Net} (h : Right n) {v i : Nat} (hi : i < n.ln) : -100000000 ≤ rhsAt n v i ∧ rhsAt n v i ≤ 100000000 := by
  unfold rhsAt
  split
  · split
    · exact give_bd h hi (by assumption)
    · omega
  · split
    · split
      · exact give_bd h hi (by assumption)
      · omega
    · omega
/-- The rows of a net, the last number of each behind the others. -/
def U0 (n : Net) : El.Mx := fun r c => if c < mm n then (coefTo n (nd n r) (nd n c) n.ln, 1) else (rhsTo n (nd n r) n.ln, 1)
theorem whole_R {z : Int} (h : Fits z) : Fq.R (z, 1) := (Fq.whole_ok h.1 h.2).2.2.2
theorem U0_right {n : Net} (h : Right n) (ho : ∀ r, r < mm n → RhsOk n (nd n r) n.ln) : El.AllR (mm n) (U0 n) := by
  intro r c hr hc
  unfold U0
  split
  · have := coefTo_bd h (nd n r) (nd n c) n.ln (Nat.le_refl _)
    have h2 := h.ln
    exact whole_R ⟨by omega, by omega⟩
  · exact whole_R (ho r hr _ (Nat.le_refl _))
theorem Sure.congr {m k : Nat} {U V : Nat → Nat → Rat} (h : Sure m k U) (e : ∀ r c, r < m → c < m → V r c = U r c) : Sure m k V := by
  intro x hx h0
  refine h x hx ?_
  rw [← h0]
  refine sumR_congr (fun r hr => ?_)
  congr 1
  exact sumR_congr (fun c hc => by rw [e r c hr hc])
theorem U0_sure {n : Net} (h : Right n) (hh : ∀ j, j < nn n → held n j = true) : Sure (mm n) 0 (fun r c => Fq.q (U0 n r c)) := by
  refine (sure0 h hh).congr (fun r c _ hc => ?_)
  unfold U0 A0 Fq.q
  rw [if_pos hc]
  show ((coefTo n (nd n r) (nd n c) n.ln : Int) : Rat) / ((1 : Int) : Rat) = _
  rw [Rat.intCast_one]
  grind
/-- All reckonings have answers. -/
structure SvGood (n : Net) : Prop where
  rhs : ∀ r, r < mm n → RhsOk n (nd n r) n.ln
  el : El.Good (mm n) (U0 n) (mm n) (mm n)
  hd : El.HdOk (mm n) (El.mats (mm n) (U0 n) (mm n)) (mm n)
/-- The rows behind all pivots. -/
def Um (n : Net) : El.Mx := El.mats (mm n) (U0 n) (mm n)
theorem mats_row {m : Nat} {U : El.Mx} {r : Nat} : ∀ k, r ≤ k → El.mats m U k r = El.mats m U r r
  | 0, h => by
    have : r = 0 := by omega
    subst this; rfl
  | k + 1, h => by
    by_cases e : r = k + 1
    · subst e; rfl
    · rw [← mats_row k (by omega)]
      funext c
      show El.part _ k m r c = _
      unfold El.part
      rw [if_neg (by omega)]
theorem Um_piv {n : Net} (h : Right n) (hh : ∀ j, j < nn n → held n j = true) (hr : ∀ r, r < mm n → RhsOk n (nd n r) n.ln) (hg : El.Good (mm n) (U0 n) (mm n) (mm n)) : El.AllR (mm n) (Um n) ∧ ∀ k, k < mm n → (Um n k k).1 ≠ 0 := by
  have P := fun k hk => El.Piv.of (U0_right h hr) (U0_sure h hh) k hk
  refine ⟨(P (mm n) (Nat.le_refl _) _ hg).r, fun k hk => ?_⟩
  have h1 := (P k (by omega) (mm n) (hg.less hk (Nat.le_refl _))).ne hk
  unfold Um
  rw [mats_row _ (by omega)]
  exact h1
/-- The heads, so many of the unknown ones found. -/
def hv (n : Net) : Nat → Nat → Int × Int
  | 0 => kh n n.fn
  | s + 1 => updF (hv n s) (nd n (mm n - 1 - s)) (El.hd (mm n) (Um n) (s + 1) (mm n - 1 - s))
theorem hd_keep (m : Nat) (U : El.Mx) {s j : Nat} (h : m - s ≤ j) (hs : s < m) : El.hd m U (s + 1) j = El.hd m U s j := by
  show El.updF _ _ _ j = _
  unfold El.updF
  rw [if_neg (by omega)]
theorem hv_nd {n : Net} : ∀ s, s ≤ mm n → ∀ j, mm n - s ≤ j → j < mm n → hv n s (nd n j) = El.hd (mm n) (Um n) s j
  | 0, _, j, h1, h2 => absurd h1 (by omega)
  | s + 1, hs, j, h1, h2 => by
    rw [hv]
    unfold updF
    by_cases e : j = mm n - 1 - s
    · subst e; rw [if_pos rfl]
    · rw [if_neg (fun k => e (nd_inj h2 (by omega) k)), hv_nd s (by omega) j (by omega) h2, hd_keep _ _ (by omega) (by omega)]
theorem hv_fixed {n : Net} {v : Nat} (hf : fixed n v = true) : ∀ s, s ≤ mm n → hv n s v = kh n n.fn v
  | 0, _ => rfl
  | s + 1, hs => by
    rw [hv]
    unfold updF
    rw [if_neg, hv_fixed hf s (by omega)]
    intro e
    have := (nd_lt (n := n) (r := mm n - 1 - s) (by omega)).2
    rw [← e, hf] at this
    cases this
/-- The heads of a net that is solved. -/
def svH (n : Net) : Nat → Int × Int := hv n (mm n)
/-- The code. -/
noncomputable def svCode (n : Net) : Int := if @decide (SvGood n) (Classical.propDecidable _) = true then 0 else 5
theorem svCode_ok {n : Net} (h : SvGood n) : svCode n = 0 := by unfold svCode; simp [h]
theorem svCode_no {n : Net} (h : ¬ SvGood n) : svCode n = 5 := by unfold svCode; simp [h]
end Nt
end Go.Proofs.YtkaokfmaecdkiaaGreatDoor
namespace Go.Proofs.YtkaokfmaecdkiaaGreatDoor
open Go Go.RowKit Go.Deep

theorem sureQ_ok (q : Int × Int) (hc : Fq.code q = 0) (w : World) : Calls Tryz.prog 70 #[foV q] w fun e w' => e = .returned (frV (Fq.val q)) ∧ Below w.heap.size w w' := by
  have h := sure_ok (Fq.val q).1 (Fq.val q).2 w
  rw [← hc] at h
  exact h
theorem sureQ_bad (q : Int × Int) (hc : Fq.code q ≠ 0) (h0 : q.2 ≠ 0) (w : World) : Calls Tryz.prog 70 #[foV q] w fun e w' => (∃ s, e = thrown s 5) ∧ Below w.heap.size w w' := by
  have h5 := (Fq.code_or h0).resolve_left hc
  have h := sure_bad (Fq.val q).1 (Fq.val q).2 (Fq.code q) hc w
  rw [h5] at h
  rw [← h5] at h
  exact h.mono (fun e w' ⟨⟨s, hs⟩, hb⟩ => ⟨⟨s, by rw [hs, h5]⟩, hb⟩)
/-- A product taken off has an answer. -/
def LbOk (x f y : Int × Int) : Prop := Fq.code (Fq.mul f y) = 0 ∧ Fq.code (Fq.sub x (Fq.val (Fq.mul f y))) = 0
def lbV (x f y : Int × Int) : Int × Int := Fq.val (Fq.sub x (Fq.val (Fq.mul f y)))
theorem lb_right {x f y : Int × Int} (hx : Fq.R x) (hf : Fq.R f) (hy : Fq.R y) (h : LbOk x f y) : Fq.R (lbV x f y) := (Fq.val_sub hx (Fq.val_mul hf hy h.1).1 h.2).1
/-- What a product's taking off reads. -/
structure LbS (x f y : Int × Int) (w V : World) : Prop where
  bel : Below w.heap.size w V
  r0 : V.rowIs w.heap.size 35 2 (rowN [.int .i64 x.1, .int .i64 x.2])
  r1 : V.rowIs (w.heap.size + 1) 35 2 (rowN [.int .i64 f.1, .int .i64 f.2])
  r2 : V.rowIs (w.heap.size + 2) 35 2 (rowN [.int .i64 y.1, .int .i64 y.2])
theorem LbS.below {x f y : Int × Int} {w V V' : World} (h : LbS x f y w V) (hb : Below V.heap.size V V') : LbS x f y w V' := ⟨h.bel.trans (hb.mono h.bel.size), nrow_below h.r0 hb, nrow_below h.r1 hb, nrow_below h.r2 hb⟩
def LbEnd (x f y : Int × Int) (e : Ending) : Prop := (LbOk x f y ∧ e = .returned (frV (lbV x f y))) ∨ (¬ LbOk x f y ∧ ∃ s, e = thrown s 5)
set_option maxRecDepth 100000 in
set_option maxHeartbeats 8000000 in
theorem lessBy_any (x f y : Int × Int) (w : World) (hx : Fq.R x) (hf : Fq.R f) (hy : Fq.R y) (hg : NEt w) :
    Calls Tryz.prog 90 #[frV x, frV f, frV y] w fun e w' => LbEnd x f y e ∧ Below w.heap.size w w' := by
  obtain ⟨W, hW⟩ : ∃ W, W = (((w.alloc (.cells #[.int .i64 x.1, .int .i64 x.2] 35)).alloc (.cells #[.int .i64 f.1, .int .i64 f.2] 35)).alloc (.cells #[.int .i64 y.1, .int .i64 y.2] 35)).alloc (.cells #[.int .i64 0, .int .i64 0] 35) := ⟨_, rfl⟩
  have HS : Hid (LbS x f y w W) := by
    show LbS _ _ _ _ _
    rw [hW]
    refine ⟨(((nbel_alloc _ _).alloc (by simp) _).alloc (by simp; omega) _).alloc (by simp; omega) _, ?_, ?_, ?_⟩
    · exact nrow_below (nrow_below (nrow_below (rowN_alloc w _ _) (nbel_alloc _ _)) (nbel_alloc _ _)) (nbel_alloc _ _)
    · exact nrow_below (nrow_below (rowN_alloc' (by simp) _ _) (nbel_alloc _ _)) (nbel_alloc _ _)
    · exact nrow_below (rowN_alloc' (by simp) _ _) (nbel_alloc _ _)
  have R3 : Hid (W.rowIs (w.heap.size + 3) 35 2 (rowN [.int .i64 0, .int .i64 0])) := by
    show World.rowIs _ _ _ _ _
    rw [hW]
    exact rowN_alloc' (by simp) _ _
  have HG := Lib.hid hg
  have HX := Lib.hid hx
  have HF := Lib.hid hf
  have HY := Lib.hid hy
  have HW := Lib.hid hW
  clear hW hg hx hf hy
  go_enter Tryz.func90, Tryz.ntmps90
  go_upto_region 1 with fail
  rw [← HW.out]
  clear HW
  refine wp_region_held_drew (S := fun V => LbS x f y w V) (by kernel_rfl) (HS.out.below (Below.refl _ _).drew) (fun hHeld => ?_)
  obtain ⟨Z, hZ⟩ : ∃ Z, Z = W.drew := ⟨_, rfl⟩
  replace R3 : Hid (Z.rowIs (w.heap.size + 3) 35 2 (rowN [.int .i64 0, .int .i64 0])) := by rw [hZ]; exact nrow_below R3.out (Below.refl _ _).drew
  rw [← hZ] at hHeld ⊢
  clear hZ
  refine take_do (i := 0) (v := (frV x)) rfl (by kernel_rfl) (by kernel_rfl) (by kernel_rfl) (fun _ _ _ h => h) (by rfl) ?_ (by assumption) ?_
  · intro w hSw
    obtain ⟨⟨q0, q1⟩, _⟩ := rowN2 hSw.r0
    go_simp
  simp only [Act.put, List.setIfInBounds_toArray, List.set_cons_zero, List.set_cons_succ]
  refine take_do (i := 1) (v := (frV f)) rfl (by kernel_rfl) (by kernel_rfl) (by kernel_rfl) (fun _ _ _ h => h) (by rfl) ?_ (by assumption) ?_
  · intro w hSw
    obtain ⟨⟨q0, q1⟩, _⟩ := rowN2 hSw.r1
    go_simp
  simp only [Act.put, List.setIfInBounds_toArray, List.set_cons_zero, List.set_cons_succ]
  refine take_do (i := 2) (v := (frV y)) rfl (by kernel_rfl) (by kernel_rfl) (by kernel_rfl) (fun _ _ _ h => h) (by rfl) ?_ (by assumption) ?_
  · intro w hSw
    obtain ⟨⟨q0, q1⟩, _⟩ := rowN2 hSw.r2
    go_simp
  simp only [Act.put, List.setIfInBounds_toArray, List.set_cons_zero, List.set_cons_succ]
  refine take_call (i := 3) rfl (by kernel_rfl) (fun K2 hK => ?_)
  go_simp
  refine (nimplMul f y _ HF.out HY.out (HG.out.below hHeld.bel)).mono ?_
  rintro e Z1 ⟨rfl, hb⟩
  replace R3 := Lib.hid (nrow_below R3.out hb)
  go_wp2_with fail
  refine hK.out _ _ (hHeld.below hb) (fun hHeld2 => ?_)
  clear hK hHeld hb
  have hHeld := hHeld2
  clear hHeld2
  try simp only [Act.put, List.setIfInBounds_toArray, List.set_cons_zero, List.set_cons_succ]
  by_cases c1 : Fq.code (Fq.mul f y) = 0
  case neg =>
    have HN : Hid (¬ LbOk x f y) := fun k => c1 k.1
    refine take_call (i := 4) rfl (by kernel_rfl) (fun K2 hK => ?_)
    go_simp
    refine (sureQ_bad (Fq.mul f y) c1 (Fq.mul_fit HF.out HY.out).1 _).mono ?_
    rintro e Zt ⟨⟨s, rfl⟩, hb⟩
    go_wp2_with fail
    exact ⟨rfl, Or.inr ⟨HN.out, s, rfl⟩, hHeld.bel.trans (hb.mono hHeld.bel.size)⟩
  have HM := Lib.hid (Fq.val_mul HF.out HY.out c1).1
  refine take_call (i := 4) rfl (by kernel_rfl) (fun K2 hK => ?_)
  go_simp
  refine (sureQ_ok (Fq.mul f y) c1 _).mono ?_
  rintro e Z2 ⟨rfl, hb⟩
  replace R3 := Lib.hid (nrow_below R3.out hb)
  go_wp2_with fail
  refine hK.out _ _ (hHeld.below hb) (fun hHeld2 => ?_)
  clear hK hHeld hb
  have hHeld := hHeld2
  clear hHeld2
  try simp only [Act.put, List.setIfInBounds_toArray, List.set_cons_zero, List.set_cons_succ]
  refine take_call (i := 5) rfl (by kernel_rfl) (fun K2 hK => ?_)
  go_simp
  refine (nimplSub x (Fq.val (Fq.mul f y)) _ HX.out HM.out (HG.out.below hHeld.bel)).mono ?_
  rintro e Z3 ⟨rfl, hb⟩
  replace R3 := Lib.hid (nrow_below R3.out hb)
  go_wp2_with fail
  refine hK.out _ _ (hHeld.below hb) (fun hHeld2 => ?_)
  clear hK hHeld hb
  have hHeld := hHeld2
  clear hHeld2
  try simp only [Act.put, List.setIfInBounds_toArray, List.set_cons_zero, List.set_cons_succ]
  by_cases c2 : Fq.code (Fq.sub x (Fq.val (Fq.mul f y))) = 0
  case neg =>
    have HN : Hid (¬ LbOk x f y) := fun k => c2 k.2
    refine take_call (i := 6) rfl (by kernel_rfl) (fun K2 hK => ?_)
    go_simp
    refine (sureQ_bad (Fq.sub x (Fq.val (Fq.mul f y))) c2 (Fq.sub_fit HX.out HM.out).1 _).mono ?_
    rintro e Zt ⟨⟨s, rfl⟩, hb⟩
    go_wp2_with fail
    exact ⟨rfl, Or.inr ⟨HN.out, s, rfl⟩, hHeld.bel.trans (hb.mono hHeld.bel.size)⟩
  refine take_call (i := 6) rfl (by kernel_rfl) (fun K2 hK => ?_)
  go_simp
  refine (sureQ_ok (Fq.sub x (Fq.val (Fq.mul f y))) c2 _).mono ?_
  rintro e Z4 ⟨rfl, hb⟩
  replace R3 := Lib.hid (nrow_below R3.out hb)
  go_wp2_with fail
  refine hK.out _ _ (hHeld.below hb) (fun hHeld2 => ?_)
  clear hK hHeld hb
  have hHeld := hHeld2
  clear hHeld2
  try simp only [Act.put, List.setIfInBounds_toArray, List.set_cons_zero, List.set_cons_succ]
  have HOK : Hid (LbOk x f y) := ⟨c1, c2⟩
  clear c1 c2
  obtain ⟨v, hv⟩ : ∃ v, v = lbV x f y := ⟨_, rfl⟩
  have hv2 : Fq.val (Fq.sub x (Fq.val (Fq.mul f y))) = v := hv.symm
  rw [hv2]
  have HV := Lib.hid hv
  clear hv hv2
  obtain ⟨⟨o0, o1⟩, z0, z1⟩ := rowN2 R3.out
  have l0 := R3.out.lt
  obtain ⟨Y, hY⟩ : ∃ Y, Y = (Z4.setCell ⟨w.heap.size + 3, 0, none⟩ (.int .i64 v.1)).setCell ⟨w.heap.size + 3, 1, none⟩ (.int .i64 v.2) := ⟨_, rfl⟩
  have YR : Hid (Y.rowIs (w.heap.size + 3) 35 2 (rowN [.int .i64 v.1, .int .i64 v.2])) := by show World.rowIs _ _ _ _ _; rw [hY]; exact rowN_put (rowN_put R3.out 0 _ (by simp)) 1 _ (by simp)
  have YO : ∀ k, k ≠ w.heap.size + 3 → Y.heap[k]? = Z4.heap[k]? := fun k hk => by rw [hY]; exact (Below.heap_setCell _ ⟨w.heap.size + 3, 1, none⟩ _ _ hk).trans (Below.heap_setCell _ ⟨w.heap.size + 3, 0, none⟩ _ _ hk)
  have YS : Hid (LbS x f y w Y) := by
    refine ⟨?_, hHeld.r0.of_block (YO _ (by omega)), hHeld.r1.of_block (YO _ (by omega)), hHeld.r2.of_block (YO _ (by omega))⟩
    rw [hY]
    exact (hHeld.bel.setCell (p := ⟨w.heap.size + 3, 0, none⟩) (by show _ ≤ w.heap.size + 3; omega) _).setCell (p := ⟨w.heap.size + 3, 1, none⟩) (by show _ ≤ w.heap.size + 3; omega) _
  have HYY := Lib.hid hY
  clear hY YO
  refine take_call (i := 7) rfl (by kernel_rfl) (fun K2 hK => ?_)
  go_simp
  rw [← HYY.out]
  clear o0 o1 z0 z1 l0 HYY R3
  refine hK.out _ _ YS.out (fun hHeld2 => ?_)
  clear hK hHeld hHeld2
  refine wpAnyH_done (by kernel_rfl) ?_ _
  go_wp2_with fail
  refine bodyPost_ret (v := frV v) ?_ rfl ⟨Or.inl ⟨HOK.out, by rw [HV.out]⟩, YS.out.bel⟩
  obtain ⟨⟨c0, c1⟩, _⟩ := rowN2 YR.out
  simp only [results, Tryz.results90]
  simp [go_sem, c0, c1]
end Go.Proofs.YtkaokfmaecdkiaaGreatDoor
namespace Go.Proofs.YtkaokfmaecdkiaaGreatDoor
open Go Go.RowKit Go.Deep

namespace Nt
/-- A row off which another was taken as far as a place. -/
def trF (G : Nat → Int × Int) (o1 o2 : Nat) (f : Int × Int) (c : Nat) : Nat → Int × Int := fun i => if o1 ≤ i ∧ i < o1 + c then lbV (G i) f (G (o2 + (i - o1))) else G i
def TrOk (G : Nat → Int × Int) (o1 o2 : Nat) (f : Int × Int) (L : Nat) : Prop := ∀ c, c < L → LbOk (G (o1 + c)) f (G (o2 + c))
theorem trF_zero (G : Nat → Int × Int) (o1 o2 : Nat) (f : Int × Int) : trF G o1 o2 f 0 = G := by
  funext i
  unfold trF
  rw [if_neg (by omega)]
theorem trF_one (G : Nat → Int × Int) (o1 o2 : Nat) (f : Int × Int) (c : Nat) : trF G o1 o2 f c (o1 + c) = G (o1 + c) := by
  unfold trF
  rw [if_neg (by omega)]
theorem trF_two (G : Nat → Int × Int) {o1 o2 c L : Nat} (f : Int × Int) (hc : c < L) (hd : o1 + L ≤ o2 ∨ o2 + L ≤ o1) : trF G o1 o2 f c (o2 + c) = G (o2 + c) := by
  unfold trF
  rw [if_neg (by omega)]
theorem trF_succ (G : Nat → Int × Int) (o1 o2 : Nat) (f : Int × Int) (c : Nat) : updF (trF G o1 o2 f c) (o1 + c) (lbV (G (o1 + c)) f (G (o2 + c))) = trF G o1 o2 f (c + 1) := by
  funext i
  unfold updF trF
  by_cases e : i = o1 + c
  · subst e
    rw [if_pos rfl, if_pos (by omega), show o2 + (o1 + c - o1) = o2 + c by omega]
  · rw [if_neg e]
    by_cases h : o1 ≤ i ∧ i < o1 + c
    · rw [if_pos h, if_pos (by omega)]
    · rw [if_neg h, if_neg (by omega)]
end Nt
/-- What may have changed: one block. -/
structure Fg (g : Nat) (b w W : World) : Prop where
  bel : Below b.heap.size b W
  size : w.heap.size ≤ W.heap.size
  same : ∀ k, k ≠ g → k < w.heap.size → W.heap[k]? = w.heap[k]?
theorem Fg.below {g : Nat} {b w W W' : World} (h : Fg g b w W) (hb : Below W.heap.size W W') : Fg g b w W' := ⟨h.bel.trans (hb.mono h.bel.size), Nat.le_trans h.size hb.size, fun k h1 h2 => (hb.block k (by have := h.size; omega)).trans (h.same k h1 h2)⟩
theorem Fg.trans {g : Nat} {b w W W' : World} (h : Fg g b w W) (h' : Fg g b W W') : Fg g b w W' := ⟨h'.bel, Nat.le_trans h.size h'.size, fun k h1 h2 => (h'.same k h1 (by have := h.size; omega)).trans (h.same k h1 h2)⟩
theorem Fg.put {g : Nat} {b w W : World} (h : Fg g b w W) (hg : b.heap.size ≤ g) (i j : Nat) (u v : Value) : Fg g b w ((W.setCell ⟨g, i, none⟩ u).setCell ⟨g, j, none⟩ v) :=
  ⟨(h.bel.setCell (p := ⟨g, i, none⟩) hg _).setCell (p := ⟨g, j, none⟩) hg _, by simpa using h.size, fun k h1 h2 => ((Below.heap_setCell _ ⟨g, j, none⟩ _ _ h1).trans (Below.heap_setCell _ ⟨g, i, none⟩ _ _ h1)).trans (h.same k h1 h2)⟩
theorem Fg.row {g : Nat} {b w W : World} (h : Fg g b w W) {x n : Nat} {T : TypeId} {F : Nat → Value} (hr : w.rowIs x T n F) (hx : x ≠ g) : W.rowIs x T n F := hr.of_block (h.same x hx hr.lt)
def TrEnd (g N : Nat) (G : Nat → Int × Int) (o1 o2 : Nat) (f : Int × Int) (L : Nat) (e : Ending) (W : World) : Prop := (Nt.TrOk G o1 o2 f L ∧ e = .returned (.tuple #[]) ∧ IsBlk 35 g (N * 2) (Nt.cells2 (Nt.trF G o1 o2 f L)) W) ∨ (¬ Nt.TrOk G o1 o2 f L ∧ ∃ s, e = thrown s 5)
/-- What a step reads that it does not write. -/
structure TrR (g x o : Nat) (f y : Int × Int) (b V : World) : Prop where
  bel : Below b.heap.size b V
  row : V.rowIs x 35 2 (rowN [.int .i64 f.1, .int .i64 f.2])
  c0 : V.cell? ⟨g, o * 2, none⟩ = some (.int .i64 y.1)
  c1 : V.cell? ⟨g, o * 2 + 1, none⟩ = some (.int .i64 y.2)
  lt : g < V.heap.size
theorem TrR.below {g x o : Nat} {f y : Int × Int} {b V V' : World} (h : TrR g x o f y b V) (hb : Below V.heap.size V V') : TrR g x o f y b V' := ⟨h.bel.trans (hb.mono h.bel.size), nrow_below h.row hb, (hb.cell h.lt).trans h.c0, (hb.cell h.lt).trans h.c1, Nat.lt_of_lt_of_le h.lt hb.size⟩
set_option maxRecDepth 100000 in
set_option maxHeartbeats 8000000 in
theorem takeRow_any (g N : Nat) (G : Nat → Int × Int) (o1 o2 L c1 c2 : Nat) (f : Int × Int) (b w : World) (hb : Below b.heap.size b w) (hgb : b.heap.size ≤ g) (h : IsBlk 35 g (N * 2) (Nt.cells2 G) w) (h1 : o1 + L ≤ N) (h2 : o2 + L ≤ N) (hd : o1 + L ≤ o2 ∨ o2 + L ≤ o1) (hN : N ≤ 1000) (r1 : ∀ c, c < L → Fq.R (G (o1 + c))) (r2 : ∀ c, c < L → Fq.R (G (o2 + c))) (hf : Fq.R f) (hg : NEt b) :
    Calls Tryz.prog 89 #[.slice (some ⟨g, o1 * 2, none⟩) L c1, frV f, .slice (some ⟨g, o2 * 2, none⟩) L c2] w fun e w' => TrEnd g N G o1 o2 f L e w' ∧ Fg g b w w' := by
  obtain ⟨W, hW⟩ : ∃ W, W = w.alloc (.cells #[.int .i64 f.1, .int .i64 f.2] 35) := ⟨_, rfl⟩
  have HW := Lib.hid hW
  have hgl := h.lt
  have HF0 : Hid (Fg g b w W ∧ W.rowIs w.heap.size 35 2 (rowN [.int .i64 f.1, .int .i64 f.2])) := by
    show _ ∧ _
    rw [hW]
    exact ⟨Fg.below ⟨hb, Nat.le_refl _, fun _ _ _ => rfl⟩ (nbel_alloc _ _), rowN_alloc w _ _⟩
  have HI0 : Hid (IsBlk 35 g (N * 2) (Nt.cells2 (Nt.trF G o1 o2 f 0)) W) := by show IsBlk _ _ _ _ _; rw [Nt.trF_zero, hW]; exact h.below (nbel_alloc _ _)
  have HGB := Lib.hid hgb
  have HGL := Lib.hid hgl
  have HD := Lib.hid hd
  have HN := Lib.hid hN
  have H1 := Lib.hid h1
  have H2 := Lib.hid h2
  have HR1 := Lib.hid r1
  have HR2 := Lib.hid r2
  have HFR := Lib.hid hf
  have HG := Lib.hid hg
  have hL : L ≤ 1000 := by omega
  clear hW hb h hgb hgl hd hN h1 h2 r1 r2 hf hg
  go_enter Tryz.func89, Tryz.ntmps89
  go_wp2_with fail
  rw [← HW.out]
  clear HW
  go_loopw [6, 9] (fun cv iv wr => ∃ (c : Nat), c ≤ L ∧ iv = .int .i64 c ∧ Hid (Fg g b w wr ∧ wr.rowIs w.heap.size 35 2 (rowN [.int .i64 f.1, .int .i64 f.2])) ∧ Hid (IsBlk 35 g (N * 2) (Nt.cells2 (Nt.trF G o1 o2 f c)) wr) ∧ Hid (∀ j, j < c → LbOk (G (o1 + j)) f (G (o2 + j)))) (fun _ iv _ => L - (intOf iv).toNat)
  case atStart => exact ⟨0, Nat.zero_le _, rfl, HF0, HI0, fun j hj => absurd hj (Nat.not_lt_zero _)⟩
  case round =>
    clear HF0 HI0
    obtain ⟨c, hc, rfl, HF0, HI0, HP⟩ := hrel
    by_cases hlt : c < L
    case neg =>
      obtain rfl : c = L := by omega
      go_wp2_with fail
      refine bodyPost_end (v := .tuple #[]) (by simp only [results, Tryz.results89]; simp [go_sem]) rfl ⟨Or.inl ⟨HP.out, rfl, HI0.out⟩, HF0.out.1⟩
    have hltz : (c : Int) < (L : Int) := by omega
    go_upto_region 4 with fail
    obtain ⟨y, hy⟩ : ∃ y, y = G (o2 + c) := ⟨_, rfl⟩
    obtain ⟨x, hx⟩ : ∃ x, x = G (o1 + c) := ⟨_, rfl⟩
    have HT : Hid (TrR g w.heap.size (o2 + c) f y b wr) := by
      have hi := H2.out
      have d0 := HI0.out.cell (i := (o2 + c) * 2) (by omega)
      have d1 := HI0.out.cell (i := (o2 + c) * 2 + 1) (by omega)
      rw [Nt.cells2_0, Nt.trF_two G f hlt HD.out, ← hy] at d0
      rw [Nt.cells2_1, Nt.trF_two G f hlt HD.out, ← hy] at d1
      exact ⟨HF0.out.1.bel, HF0.out.2, d0, d1, HI0.out.lt⟩
    have HRX : Hid (Fq.R x) := by show Fq.R _; rw [hx]; exact HR1.out c hlt
    have HRY : Hid (Fq.R y) := by show Fq.R _; rw [hy]; exact HR2.out c hlt
    have HXE := Lib.hid hx
    have HYE := Lib.hid hy
    clear hx hy
    have e1 : o1 * 2 + c * 2 = (o1 + c) * 2 := by omega
    have e2 : o2 * 2 + c * 2 = (o2 + c) * 2 := by omega
    refine wp_region_held_drew (S := fun V => TrR g w.heap.size (o2 + c) f y b V) (by kernel_rfl) (HT.out.below (Below.refl _ _).drew) (fun hHeld => ?_)
    obtain ⟨Z, hZ⟩ : ∃ Z, Z = wr.drew := ⟨_, rfl⟩
    replace HF0 : Hid (Fg g b w Z ∧ Z.rowIs w.heap.size 35 2 (rowN [.int .i64 f.1, .int .i64 f.2])) := by rw [hZ]; exact ⟨HF0.out.1.below (Below.refl _ _).drew, nrow_below HF0.out.2 (Below.refl _ _).drew⟩
    replace HI0 : Hid (IsBlk 35 g (N * 2) (Nt.cells2 (Nt.trF G o1 o2 f c)) Z) := by rw [hZ]; exact HI0.out.below (Below.refl _ _).drew
    rw [← hZ] at hHeld ⊢
    clear hZ HT
    refine take_do (i := 0) (v := (.slice (some ⟨g, o1 * 2, none⟩) L c1)) rfl (by kernel_rfl) (by kernel_rfl) (by kernel_rfl) (fun _ _ _ h => h) (by rfl) ?_ (by assumption) ?_
    · intro w hSw
      skip
      go_simp
    simp only [Act.put, List.setIfInBounds_toArray, List.set_cons_zero, List.set_cons_succ]
    refine take_do (i := 1) (v := (.int .i64 c)) rfl (by kernel_rfl) (by kernel_rfl) (by kernel_rfl) (fun _ _ _ h => h) (by rfl) ?_ (by assumption) ?_
    · intro w hSw
      skip
      go_simp
    simp only [Act.put, List.setIfInBounds_toArray, List.set_cons_zero, List.set_cons_succ]
    refine take_do (i := 2) (v := (.slice (some ⟨g, o1 * 2, none⟩) L c1)) rfl (by kernel_rfl) (by kernel_rfl) (by kernel_rfl) (fun _ _ _ h => h) (by rfl) ?_ (by assumption) ?_
    · intro w hSw
      skip
      go_simp
    simp only [Act.put, List.setIfInBounds_toArray, List.set_cons_zero, List.set_cons_succ]
    refine take_do (i := 3) (v := (.int .i64 c)) rfl (by kernel_rfl) (by kernel_rfl) (by kernel_rfl) (fun _ _ _ h => h) (by rfl) ?_ (by assumption) ?_
    · intro w hSw
      skip
      go_simp
    simp only [Act.put, List.setIfInBounds_toArray, List.set_cons_zero, List.set_cons_succ]
    refine take_do (i := 4) (v := (.pointer (some ⟨g, (o1 + c) * 2, none⟩))) rfl (by kernel_rfl) (by kernel_rfl) (by kernel_rfl) (fun _ _ _ h => h) (by rfl) ?_ (by assumption) ?_
    · intro w hSw
      skip
      go_simp
    simp only [Act.put, List.setIfInBounds_toArray, List.set_cons_zero, List.set_cons_succ]
    refine take_do (i := 6) (v := (frV f)) rfl (by kernel_rfl) (by kernel_rfl) (by kernel_rfl) (fun _ _ _ h => h) (by rfl) ?_ (by assumption) ?_
    · intro w hSw
      obtain ⟨⟨q0, q1⟩, _⟩ := rowN2 hSw.row
      go_simp
    simp only [Act.put, List.setIfInBounds_toArray, List.set_cons_zero, List.set_cons_succ]
    refine take_do (i := 7) (v := (.slice (some ⟨g, o2 * 2, none⟩) L c2)) rfl (by kernel_rfl) (by kernel_rfl) (by kernel_rfl) (fun _ _ _ h => h) (by rfl) ?_ (by assumption) ?_
    · intro w hSw
      skip
      go_simp
    simp only [Act.put, List.setIfInBounds_toArray, List.set_cons_zero, List.set_cons_succ]
    refine take_do (i := 8) (v := (.int .i64 c)) rfl (by kernel_rfl) (by kernel_rfl) (by kernel_rfl) (fun _ _ _ h => h) (by rfl) ?_ (by assumption) ?_
    · intro w hSw
      skip
      go_simp
    simp only [Act.put, List.setIfInBounds_toArray, List.set_cons_zero, List.set_cons_succ]
    refine take_do (i := 9) (v := (.pointer (some ⟨g, (o2 + c) * 2, none⟩))) rfl (by kernel_rfl) (by kernel_rfl) (by kernel_rfl) (fun _ _ _ h => h) (by rfl) ?_ (by assumption) ?_
    · intro w hSw
      skip
      go_simp
    simp only [Act.put, List.setIfInBounds_toArray, List.set_cons_zero, List.set_cons_succ]
    refine take_do (i := 10) (v := (frV y)) rfl (by kernel_rfl) (by kernel_rfl) (by kernel_rfl) (fun _ _ _ h => h) (by rfl) ?_ (by assumption) ?_
    · intro w hSw
      obtain ⟨_, _, q0, q1, _⟩ := hSw
      go_simp
    simp only [Act.put, List.setIfInBounds_toArray, List.set_cons_zero, List.set_cons_succ]
    have d0 := HI0.out.cell (i := (o1 + c) * 2) (by have := H1.out; omega)
    have d1 := HI0.out.cell (i := (o1 + c) * 2 + 1) (by have := H1.out; omega)
    rw [Nt.cells2_0, Nt.trF_one, ← HXE.out] at d0
    rw [Nt.cells2_1, Nt.trF_one, ← HXE.out] at d1
    refine take_call (i := 5) rfl (by kernel_rfl) (fun K2 hK => ?_)
    go_simp
    refine hK.out _ _ hHeld (fun hHeld2 => ?_)
    clear hK hHeld d0 d1
    have hHeld := hHeld2
    clear hHeld2
    try simp only [Act.put, List.setIfInBounds_toArray, List.set_cons_zero, List.set_cons_succ]
    by_cases hlb : LbOk x f y
    case neg =>
      have HNO : Hid (¬ Nt.TrOk G o1 o2 f L) := fun k => hlb (by rw [HXE.out, HYE.out]; exact k c hlt)
      refine take_call (i := 11) rfl (by kernel_rfl) (fun K2 hK => ?_)
      go_simp
      refine (lessBy_any x f y _ HRX.out HFR.out HRY.out (HG.out.below hHeld.bel)).mono ?_
      rintro e Zt ⟨hE, hb⟩
      rcases hE with ⟨k, _⟩ | ⟨_, s, rfl⟩
      · exact absurd k hlb
      go_wp2_with fail
      exact ⟨rfl, Or.inr ⟨HNO.out, s, rfl⟩, HF0.out.1.below hb⟩
    refine take_call (i := 11) rfl (by kernel_rfl) (fun K2 hK => ?_)
    go_simp
    refine (lessBy_any x f y _ HRX.out HFR.out HRY.out (HG.out.below hHeld.bel)).mono ?_
    rintro e Z1 ⟨hE, hb⟩
    rcases hE with ⟨_, rfl⟩ | ⟨k, _⟩
    rotate_left
    · exact absurd hlb k
    replace HF0 : Hid (Fg g b w Z1 ∧ Z1.rowIs w.heap.size 35 2 (rowN [.int .i64 f.1, .int .i64 f.2])) := ⟨HF0.out.1.below hb, nrow_below HF0.out.2 hb⟩
    replace HI0 := Lib.hid (HI0.out.below hb)
    go_wp2_with fail
    refine hK.out _ _ (hHeld.below hb) (fun hHeld2 => ?_)
    clear hK hHeld hb
    have hHeld := hHeld2
    clear hHeld2
    try simp only [Act.put, List.setIfInBounds_toArray, List.set_cons_zero, List.set_cons_succ]
    refine take_do (i := 12) (v := (.pointer (some ⟨g, (o1 + c) * 2, none⟩))) rfl (by kernel_rfl) (by kernel_rfl) (by kernel_rfl) (fun _ _ _ h => h) (by rfl) ?_ (by assumption) ?_
    · intro w hSw
      skip
      go_simp
    simp only [Act.put, List.setIfInBounds_toArray, List.set_cons_zero, List.set_cons_succ]
    obtain ⟨v, hv⟩ : ∃ v, v = lbV x f y := ⟨_, rfl⟩
    rw [← hv]
    have HI2 : Hid (IsBlk 35 g (N * 2) (Nt.cells2 (Nt.trF G o1 o2 f (c + 1))) ((Z1.setCell ⟨g, (o1 + c) * 2, none⟩ (.int .i64 v.1)).setCell ⟨g, (o1 + c) * 2 + 1, none⟩ (.int .i64 v.2))) := by
      show IsBlk _ _ _ _ _
      rw [← Nt.trF_succ, ← HXE.out, ← HYE.out, ← hv]
      exact HI0.out.set2 (o1 + c) v
    have HF2 : Hid (Fg g b w ((Z1.setCell ⟨g, (o1 + c) * 2, none⟩ (.int .i64 v.1)).setCell ⟨g, (o1 + c) * 2 + 1, none⟩ (.int .i64 v.2))) := HF0.out.1.put HGB.out _ _ _ _
    have o0 := HI0.out.cell (i := (o1 + c) * 2) (by have := H1.out; omega)
    have o1' := HI0.out.cell (i := (o1 + c) * 2 + 1) (by have := H1.out; omega)
    have z0 := HI0.out.frozen ((o1 + c) * 2)
    have z1 := HI0.out.frozen ((o1 + c) * 2 + 1)
    have l0 := HI0.out.lt
    obtain ⟨Y, hY⟩ : ∃ Y, Y = (Z1.setCell ⟨g, (o1 + c) * 2, none⟩ (.int .i64 v.1)).setCell ⟨g, (o1 + c) * 2 + 1, none⟩ (.int .i64 v.2) := ⟨_, rfl⟩
    rw [← hY] at HI2 HF2
    have HRW : Hid (Y.rowIs w.heap.size 35 2 (rowN [.int .i64 f.1, .int .i64 f.2])) := by
      have hne : w.heap.size ≠ g := by have := HGL.out; omega
      refine HF0.out.2.of_block ?_
      rw [hY]
      exact (Below.heap_setCell _ ⟨g, (o1 + c) * 2 + 1, none⟩ _ _ hne).trans (Below.heap_setCell _ ⟨g, (o1 + c) * 2, none⟩ _ _ hne)
    have HS2 : Hid (TrR g w.heap.size (o2 + c) f y b Y) := by
      have e0 := HI2.out.cell (i := (o2 + c) * 2) (by have := H2.out; omega)
      have e1 := HI2.out.cell (i := (o2 + c) * 2 + 1) (by have := H2.out; omega)
      have et : Nt.trF G o1 o2 f (c + 1) (o2 + c) = G (o2 + c) := by
        unfold Nt.trF
        rw [if_neg (by have := HD.out; omega)]
      rw [Nt.cells2_0, et, ← HYE.out] at e0
      rw [Nt.cells2_1, et, ← HYE.out] at e1
      exact ⟨HF2.out.bel, HRW.out, e0, e1, HI2.out.lt⟩
    have HYY := Lib.hid hY
    clear hY hv
    refine take_call (i := 13) rfl (by kernel_rfl) (fun K2 hK => ?_)
    go_simp
    rw [← HYY.out]
    clear o0 o1' z0 z1 l0 HYY HF0 HI0
    refine hK.out _ _ HS2.out (fun hHeld2 => ?_)
    clear hK hHeld hHeld2
    refine wpAnyH_done (by kernel_rfl) ?_ _
    have HP2 : Hid (∀ j, j < c + 1 → LbOk (G (o1 + j)) f (G (o2 + j))) := fun j hj => by
      by_cases e : j = c
      · subst e; rw [← HXE.out, ← HYE.out]; exact hlb
      · exact HP.out j (by omega)
    clear hlb HS2 e1 e2
    go_wp2_with fail
    go_roundw
    case rel => exact ⟨c + 1, by omega, by go_num, ⟨HF2.out, HRW.out⟩, HI2, HP2⟩
    case measure => simp [intOf]; omega
end Go.Proofs.YtkaokfmaecdkiaaGreatDoor
