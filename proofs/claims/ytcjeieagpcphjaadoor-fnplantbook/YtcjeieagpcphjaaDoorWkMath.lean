/-
  The numbers of batches, filters and plants.
-/
import Derived.Test.YtcjeieagpcphjaaDoorStMem
namespace Go.Proofs.YtcjeieagpcphjaaDoor
namespace Wk

/-- A batch: its water, and grams of so many substances. -/
structure Bt where
  wt : Int
  n : Nat
  f : Nat → Int
/-- It is right. -/
def OkB (wt : Int) (n : Nat) (f : Nat → Int) : Prop := (0 ≤ wt ∧ wt ≤ 1000000000) ∧ n ≤ 6 ∧ ∀ i, i < n → 0 ≤ f i ∧ f i ≤ 1000000000
def Ok (b : Bt) : Prop := OkB b.wt b.n b.f
def nil : Bt := ⟨0, 0, fun _ => 0⟩
/-- Two batches and a code. -/
structure PA where
  x : Bt
  y : Bt
  c : Int
def bad (c : Int) : PA := ⟨nil, nil, c⟩
/-- What of a place goes with so much water. -/
def share (b : Bt) (water : Int) (j : Nat) : Int := if b.wt = 0 then 0 else b.f j * water / b.wt
def SplitOk (b : Bt) (water : Int) : Prop := Ok b ∧ 0 ≤ water ∧ water ≤ b.wt
def cut (b : Bt) (wt : Int) (s : Nat → Int) : Bt := ⟨b.wt - wt, b.n, fun j => b.f j - s j⟩
open Classical in
noncomputable def split (b : Bt) (water : Int) : PA := if SplitOk b water then ⟨⟨water, b.n, share b water⟩, cut b water (share b water), 0⟩ else bad 1
def MillsOk (m : Nat) (mi : Nat → Int) : Prop := ∀ i, i < m → 0 ≤ mi i ∧ mi i ≤ 1000
def SettleOk (b : Bt) (m : Nat) (mi : Nat → Int) : Prop := Ok b ∧ m = b.n ∧ MillsOk m mi
def sett (b : Bt) (mi : Nat → Int) (j : Nat) : Int := b.f j * mi j / 1000
open Classical in
noncomputable def settle (b : Bt) (m : Nat) (mi : Nat → Int) : PA := if 400 < m then bad 2 else if SettleOk b m mi then ⟨cut b 0 (sett b mi), ⟨0, b.n, sett b mi⟩, 0⟩ else bad 1
/-- Sums of the first batches of a list. -/
def sumW (bs : Nat → Bt) : Nat → Int
  | 0 => 0
  | i + 1 => sumW bs i + (bs i).wt
def sumP (bs : Nat → Bt) (j : Nat) : Nat → Int
  | 0 => 0
  | i + 1 => sumP bs j i + (bs i).f j
def AllOk (m : Nat) (bs : Nat → Bt) : Prop := 0 < m ∧ ∀ i, i < m → Ok (bs i) ∧ (bs i).n = (bs 0).n
def mixed (m : Nat) (bs : Nat → Bt) : Bt := ⟨sumW bs m, (bs 0).n, fun j => sumP bs j m⟩
open Classical in
noncomputable def mix (m : Nat) (bs : Nat → Bt) : PA := if 400 < m then bad 2 else if AllOk m bs then (if Ok (mixed m bs) then ⟨mixed m bs, nil, 0⟩ else bad 5) else bad 1

theorem split_n (b : Bt) (water : Int) : (split b water).x.n ≤ b.n ∧ (split b water).y.n ≤ b.n := by
  unfold split; split <;> simp [bad, nil, cut]
theorem settle_n (b : Bt) (m : Nat) (mi : Nat → Int) : (settle b m mi).x.n ≤ b.n ∧ (settle b m mi).y.n ≤ b.n := by
  unfold settle; split
  · simp [bad, nil]
  · split <;> simp [bad, nil, cut]
theorem mix_n (m : Nat) (bs : Nat → Bt) : (mix m bs).x.n ≤ 6 ∧ (mix m bs).y.n ≤ 6 := by
  unfold mix; split
  · simp [bad, nil]
  · split
    · rename_i h
      split
      · have := (h.2 0 h.1).1.2.1
        exact ⟨this, by simp [nil]⟩
      · simp [bad, nil]
    · simp [bad, nil]
theorem share_bounds {b : Bt} {water : Int} (h : SplitOk b water) {j : Nat} (hj : j < b.n) : 0 ≤ share b water j ∧ share b water j ≤ b.f j := by
  obtain ⟨⟨⟨h1, h2⟩, h3, h4⟩, h5, h6⟩ := h
  have hf := h4 j hj
  unfold share
  split
  · omega
  · have hw : 0 < b.wt := by omega
    refine ⟨Int.ediv_nonneg (Int.mul_nonneg hf.1 h5) h1, ?_⟩
    apply Int.ediv_le_of_le_mul hw
    exact Int.mul_le_mul_of_nonneg_left h6 hf.1
theorem sett_bounds {b : Bt} {m : Nat} {mi : Nat → Int} (h : SettleOk b m mi) {j : Nat} (hj : j < b.n) : 0 ≤ sett b mi j ∧ sett b mi j ≤ b.f j := by
  obtain ⟨⟨⟨h1, h2⟩, h3, h4⟩, h5, h6⟩ := h
  have hf := h4 j hj
  have hm := h6 j (by omega)
  unfold sett
  refine ⟨Int.ediv_nonneg (Int.mul_nonneg hf.1 hm.1) (by omega), ?_⟩
  apply Int.ediv_le_of_le_mul (by omega)
  exact Int.mul_le_mul_of_nonneg_left hm.2 hf.1
theorem mul_le {a b A B : Int} (a0 : 0 ≤ a) (b0 : 0 ≤ b) (hA : a ≤ A) (hB : b ≤ B) : 0 ≤ a * b ∧ a * b ≤ A * B :=
  ⟨Int.mul_nonneg a0 b0, Int.mul_le_mul hA hB b0 (by omega)⟩
theorem sumW_bounds {m : Nat} {bs : Nat → Bt} (h : ∀ i, i < m → Ok (bs i)) : ∀ i, i ≤ m → 0 ≤ sumW bs i ∧ sumW bs i ≤ 1000000000 * i := by
  intro i
  induction i with
  | zero => intro _; simp [sumW]
  | succ i ih =>
    intro hi
    have h1 := ih (by omega)
    have h2 := (h i (by omega)).1
    simp only [sumW]
    omega
theorem sumP_bounds {m : Nat} {bs : Nat → Bt} {j : Nat} (h : ∀ i, i < m → Ok (bs i) ∧ j < (bs i).n) : ∀ i, i ≤ m → 0 ≤ sumP bs j i ∧ sumP bs j i ≤ 1000000000 * i := by
  intro i
  induction i with
  | zero => intro _; simp [sumP]
  | succ i ih =>
    intro hi
    have h1 := ih (by omega)
    have h2 := (h i (by omega)).1.2.2 j (h i (by omega)).2
    simp only [sumP]
    omega

/-- A filter. -/
structure Fl where
  held : Int
  most : Int
  catch_ : Int
  wash : Int
def FlOk (f : Fl) : Prop := (0 ≤ f.held ∧ f.held ≤ 1000000000) ∧ (0 ≤ f.most ∧ f.most ≤ 1000000000) ∧ (0 ≤ f.catch_ ∧ f.catch_ ≤ 1000) ∧ (0 ≤ f.wash ∧ f.wash ≤ 1000000)
def flNil : Fl := ⟨0, 0, 0, 0⟩
/-- What a filter tells. -/
structure FO where
  f : Fl
  clean : Bt
  waste : Bt
  head : Int
  c : Int
def badF (c : Int) : FO := ⟨flNil, nil, nil, 0, c⟩
def caught (f : Fl) (b : Bt) : Int := b.f 0 * f.catch_ / 1000
def upd0 (f : Nat → Int) (x : Int) : Nat → Int := fun j => if j = 0 then x else f j
def StepOk (f : Fl) (b : Bt) : Prop := FlOk f ∧ Ok b ∧ 0 < b.n
def headOf (f : Fl) : Int := 10 + 90 * f.held / (f.most + 1)
def Washes (f : Fl) (b : Bt) : Prop := f.most < f.held + caught f b ∧ f.wash ≤ b.wt
open Classical in
noncomputable def filt (f : Fl) (b : Bt) : FO :=
  if Washes f b then ⟨{ f with held := 0 }, ⟨b.wt - f.wash, b.n, upd0 b.f (b.f 0 - caught f b)⟩, ⟨f.wash, b.n, upd0 (fun _ => 0) (f.held + caught f b)⟩, 10, 0⟩
  else ⟨{ f with held := f.held + caught f b }, ⟨b.wt, b.n, upd0 b.f (b.f 0 - caught f b)⟩, ⟨0, b.n, fun _ => 0⟩, headOf { f with held := f.held + caught f b }, 0⟩
open Classical in
noncomputable def step (f : Fl) (b : Bt) : FO := if StepOk f b then (if 1000000000 < f.held + caught f b then badF 5 else filt f b) else badF 1
theorem caught_bounds {f : Fl} {b : Bt} (h : StepOk f b) : 0 ≤ caught f b ∧ caught f b ≤ b.f 0 := by
  obtain ⟨h1, h2, h3⟩ := h
  have hf := h2.2.2 0 h3
  have hc := h1.2.2.1
  unfold caught
  refine ⟨Int.ediv_nonneg (Int.mul_nonneg hf.1 hc.1) (by omega), ?_⟩
  apply Int.ediv_le_of_le_mul (by omega)
  exact Int.mul_le_mul_of_nonneg_left hc.2 hf.1
end Wk
end Go.Proofs.YtcjeieagpcphjaaDoor
