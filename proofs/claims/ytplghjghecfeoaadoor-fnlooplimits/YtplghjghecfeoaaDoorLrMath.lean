/-
  Loops of control: a cycle and a run, as plain functions of words.
-/
import Derived.Test.YtplghjghecfeoaaDoorLpFl
namespace Go.Proofs.YtplghjghecfeoaaDoor.Fl
open Ieee

structure Lo where
  up : Nat
  sum : Nat
  gain : Nat
  lag : Nat
  low : Nat
  high : Nat
/-- Where a loop stands: value, sum, drive. -/
structure Ls where
  v : Nat
  s : Nat
  d : Nat
def Lo.at_ (l : Lo) (i : Nat) : Nat := match i with
  | 0 => l.up
  | 1 => l.sum
  | 2 => l.gain
  | 3 => l.lag
  | 4 => l.low
  | _ => l.high
def errW (want : Nat) (x : Ls) : Nat := subW want x.v
def sumW (l : Lo) (want : Nat) (x : Ls) : Nat := addW x.s (mulW l.sum (errW want x))
def drvW (l : Lo) (want : Nat) (x : Ls) : Nat := addW (mulW l.up (errW want x)) (sumW l want x)
def valW (l : Lo) (p : Nat) (x : Ls) : Nat := addW x.v (mulW l.lag (subW (mulW l.gain p) x.v))
def nx (l : Lo) (want : Nat) (x : Ls) : Ls :=
  if FloatKind.f64.format.order (drvW l want x) l.low = some .lt then ⟨valW l l.low x, x.s, l.low⟩
  else if FloatKind.f64.format.order (drvW l want x) l.high = some .gt then ⟨valW l l.high x, x.s, l.high⟩
  else ⟨valW l (drvW l want x) x, sumW l want x, drvW l want x⟩
structure LoOk (l : Lo) : Prop where
  up : measB l.up = true
  sum : measB l.sum = true
  gain : measB l.gain = true
  lag : measB l.lag = true
  low : measB l.low = true
  high : measB l.high = true
structure NxF (l : Lo) (want : Nat) (x : Ls) : Prop where
  e : floatBits .sub .f64 want x.v = some (errW want x)
  t : floatBits .mul .f64 l.sum (errW want x) = some (mulW l.sum (errW want x))
  s : floatBits .add .f64 x.s (mulW l.sum (errW want x)) = some (sumW l want x)
  u : floatBits .mul .f64 l.up (errW want x) = some (mulW l.up (errW want x))
  d : floatBits .add .f64 (mulW l.up (errW want x)) (sumW l want x) = some (drvW l want x)
  bd : Bd 66 (drvW l want x)
structure VaF (l : Lo) (p : Nat) (x : Ls) : Prop where
  g : floatBits .mul .f64 l.gain p = some (mulW l.gain p)
  gv : floatBits .sub .f64 (mulW l.gain p) x.v = some (subW (mulW l.gain p) x.v)
  m : floatBits .mul .f64 l.lag (subW (mulW l.gain p) x.v) = some (mulW l.lag (subW (mulW l.gain p) x.v))
  v : floatBits .add .f64 x.v (mulW l.lag (subW (mulW l.gain p) x.v)) = some (valW l p x)
theorem nxF {l : Lo} {want : Nat} {x : Ls} (hl : LoOk l) (hw : measB want = true) (hv : measB x.v = true) (hs : measB x.s = true) : NxF l want x := by
  have e := subW_bd (meas_bd hw) (meas_bd hv) (by omega) (by omega)
  have t := mulW_bd (meas_bd hl.sum) e.2 (by omega) (by omega)
  have s := addW_bd (k := 62) ((meas_bd hs).mono (by omega)) (t.2.mono (by omega)) (by omega) (by omega)
  have u := mulW_bd (meas_bd hl.up) e.2 (by omega) (by omega)
  have d := addW_bd (k := 64) (u.2.mono (by omega)) (s.2.mono (by omega)) (by omega) (by omega)
  exact ⟨e.1, t.1, s.1, u.1, d.1, d.2.mono (by omega)⟩
theorem vaF {l : Lo} {p : Nat} {x : Ls} (hl : LoOk l) (hp : Bd 66 p) (hv : measB x.v = true) : VaF l p x := by
  have g := mulW_bd (meas_bd hl.gain) hp (by omega) (by omega)
  have gv := subW_bd (k := 97) (g.2.mono (by omega)) ((meas_bd hv).mono (by omega)) (by omega) (by omega)
  have m := mulW_bd (meas_bd hl.lag) gv.2 (by omega) (by omega)
  have v := addW_bd (k := 130) ((meas_bd hv).mono (by omega)) (m.2.mono (by omega)) (by omega) (by omega)
  exact ⟨g.1, gv.1, m.1, v.1⟩
/-- A run. -/
def st (l : Lo) (start : Nat) (f : Nat → Nat) : Nat → Ls
  | 0 => ⟨start, 0, 0⟩
  | i + 1 => nx l (f i) (st l start f i)
def okS (x : Ls) : Bool := measB x.v && measB x.s
def okTo (l : Lo) (start : Nat) (f : Nat → Nat) : Nat → Bool
  | 0 => true
  | i + 1 => okTo l start f i && okS (st l start f (i + 1))
theorem okTo_le {l : Lo} {start : Nat} {f : Nat → Nat} : ∀ {n i : Nat}, okTo l start f n = true → i ≤ n → okTo l start f i = true
  | 0, i, h, hi => by obtain rfl : i = 0 := by omega
                      exact h
  | n + 1, i, h, hi => by
    by_cases e : i = n + 1
    · subst e; exact h
    · exact okTo_le (Bool.and_eq_true_iff.1 h).1 (by omega)
theorem meas_zero : measB 0 = true := by decide +kernel
theorem okTo_at {l : Lo} {start : Nat} {f : Nat → Nat} (hs : measB start = true) {i : Nat} (h : okTo l start f i = true) : measB (st l start f i).v = true ∧ measB (st l start f i).s = true := by
  cases i with
  | zero => exact ⟨hs, meas_zero⟩
  | succ i => exact Bool.and_eq_true_iff.1 (Bool.and_eq_true_iff.1 h).2
theorem okTo_no {l : Lo} {start : Nat} {f : Nat → Nat} {n i : Nat} (hi : i < n) (h : okS (st l start f (i + 1)) = false) : okTo l start f n = false := by
  cases hh : okTo l start f n with
  | false => rfl
  | true =>
    have := (Bool.and_eq_true_iff.1 (okTo_le hh (show i + 1 ≤ n by omega))).2
    rw [h] at this; cases this
def leB (x y : Nat) : Bool := FloatKind.f64.format.order x y == some .lt || FloatKind.f64.format.order x y == some .eq
def gtB (x y : Nat) : Bool := FloatKind.f64.format.order x y == some .gt
/-- A loop that is right. -/
def rightL (l : Lo) : Bool := allB l.at_ 6 && (gtB l.lag 0 && (leB l.lag 4607182418800017408 && leB l.low l.high))
theorem loOk_of {l : Lo} (h : allB l.at_ 6 = true) : LoOk l := ⟨allB_at h 0 (by omega), allB_at h 1 (by omega), allB_at h 2 (by omega), allB_at h 3 (by omega), allB_at h 4 (by omega), allB_at h 5 (by omega)⟩
theorem order_num {x y : Nat} (hx : ∃ s m e, double.read x = .number s m e) (hy : ∃ s m e, double.read y = .number s m e) : ∃ o, FloatKind.f64.format.order x y = some o := by
  obtain ⟨s, m, e, h1⟩ := hx
  obtain ⟨t, n, f, h2⟩ := hy
  show ∃ o, double.order x y = some o
  unfold Format.order
  rw [h1, h2]
  exact ⟨_, rfl⟩
theorem le_gt {x y : Nat} (hx : ∃ s m e, double.read x = .number s m e) (hy : ∃ s m e, double.read y = .number s m e) : leB x y = !gtB x y := by
  obtain ⟨o, h⟩ := order_num hx hy
  unfold leB gtB
  rw [h]
  cases o <;> rfl
def loopOk (l : Lo) (start : Nat) (n : Nat) (f : Nat → Nat) : Bool := rightL l && (measB start && allB f n)
def loopCode (l : Lo) (start : Nat) (n : Nat) (f : Nat → Nat) : Int := if 200 < n then 2 else if loopOk l start n f then (if okTo l start f n then 0 else 5) else 1
/-- How long the lists of an answer are. -/
def loopLen (l : Lo) (start : Nat) (n : Nat) (f : Nat → Nat) : Nat := if loopCode l start n f = 0 then n else 0
end Go.Proofs.YtplghjghecfeoaaDoor.Fl
