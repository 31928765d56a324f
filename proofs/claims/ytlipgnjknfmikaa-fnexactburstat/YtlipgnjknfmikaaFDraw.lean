/-
  The contract of the draw of a float: some float, whatever the tape says of a NaN's bits.
-/
import Derived.Test.YtlipgnjknfmikaaDrawA
import Derived.Laws.FloatArith
import Derived.Laws.NewFold
import Derived.Deep.QuietTactic
import Derived.BigQuiet
import Derived.WalkSpells
import Derived.WalkLawsBesides
import Derived.Lib.Hide
namespace Go.Proofs.Ytlipgnjknfmikaa
open Go.RowKit

/-- What a reckoning of floats gives: some float, and at most one draw. -/
theorem arith_any (op : BinOp) (hop : op = .add ∨ op = .sub ∨ op = .mul ∨ op = .quo) (x y : Nat) : ∃ (g : World → Nat) (k : Nat), ∀ (t : TypeId) (w : World), (binOp op t (.float .f64 x) (.float .f64 y)).run Try.prog w = .ok (.float .f64 (g w)) (w.drewN k) := by
  cases h : floatBits op .f64 x y with
  | some r => exact ⟨fun _ => r, 0, fun t w => run_float_arith (P := Try.prog) w op t .f64 x y r h⟩
  | none =>
    refine ⟨fun w => (Question.nanBits .f64 x y).cut (w.tape w.drawn (.nanBits .f64 x y)), 1, fun t w => ?_⟩
    have hf : (Question.nanBits .f64 x y).forced = false := rfl
    rcases hop with rfl | rfl | rfl | rfl <;> (simp only [floatBits] at h; simp [binOp, Op.floatArith, h, hf]; rfl)

theorem neg_zero (w : World) : (Op.unary .neg (.float .f64 0)).run Try.prog w = .ok (.float .f64 9223372036854775808) w := by kernel_rfl

theorem Drew.drewN {sb : Nat} {w W : World} (h : Drew sb w W) (n : Nat) : Drew sb w (W.drewN n) := ⟨h.1.below ⟨rfl, rfl, rfl, Nat.le_refl _, fun _ _ => rfl⟩, h.2.drewN n⟩

set_option maxRecDepth 100000 in
set_option maxHeartbeats 4000000 in
theorem float_any (sb : Nat) (w : World) (h : Src sb w) :
    Calls Try.prog 35 #[.pointer (some ⟨sb, 0, none⟩)] w fun e w' => (∃ x, e = .returned (.float .f64 x)) ∧ Drew sb w w' := by
  have H : Hid (Src sb w) := h
  clear h
  go_enter Try.func35, Try.ntmps35
  go_wp2_with fail
  refine (n_any sb 24 _ H.out (by omega)).mono ?_
  rintro e w1 ⟨⟨v, rfl, v0, v1, _⟩, hD⟩
  have HD : Hid (Drew sb w w1) := hD
  clear hD v1
  by_cases hv : v ≤ 10
  · have hv' : v = 0 ∨ v = 1 ∨ v = 2 ∨ v = 3 ∨ v = 4 ∨ v = 5 ∨ v = 6 ∨ v = 7 ∨ v = 8 ∨ v = 9 ∨ v = 10 := by omega
    clear hv v0
    rcases hv' with rfl | rfl | rfl | rfl | rfl | rfl | rfl | rfl | rfl | rfl | rfl
    all_goals
      obtain ⟨g1, k1, a1⟩ := arith_any .mul (by simp) 9223372036854775808 4607182418800017408
      obtain ⟨g2, k2, a2⟩ := arith_any .sub (by simp) 0 0
      obtain ⟨g3, k3, a3⟩ := arith_any .quo (by simp) 0 0
      obtain ⟨g4, k4, a4⟩ := arith_any .quo (by simp) 4607182418800017408 0
      obtain ⟨g5, k5, a5⟩ := arith_any .quo (by simp) 13830554455654793216 0
      obtain ⟨g6, k6, a6⟩ := arith_any .quo (by simp) 13830554455654793216 (g4 w1)
      have a0 := neg_zero
      go_wp2_with fail
      first
        | (go_ret; exact ⟨⟨_, rfl⟩, HD.out⟩)
        | (go_ret; exact ⟨⟨_, rfl⟩, HD.out.drewN _⟩)
        | (go_ret; exact ⟨⟨_, rfl⟩, (HD.out.drewN _).drewN _⟩)
  · have e0 : (v == 0) = false := by simp; omega
    have e1 : (v == 1) = false := by simp; omega
    have e2 : (v == 2) = false := by simp; omega
    have e3 : (v == 3) = false := by simp; omega
    have e4 : (v == 4) = false := by simp; omega
    have e5 : (v == 5) = false := by simp; omega
    have e6 : (v == 6) = false := by simp; omega
    have e7 : (v == 7) = false := by simp; omega
    have e8 : (v == 8) = false := by simp; omega
    have e9 : (v == 9) = false := by simp; omega
    have e10 : (v == 10) = false := by simp; omega
    go_wp2_with fail
    refine (n_any sb 20001 _ HD.out.1 (by omega)).mono ?_
    rintro e w2 ⟨⟨u, rfl, u0, u1, _⟩, hD⟩
    have u2 : u < 20001 := u1 (by omega)
    have HD2 : Hid (Drew sb w w2) := ⟨hD.1, HD.out.2.trans hD.2⟩
    clear hD u1 HD e0 e1 e2 e3 e4 e5 e6 e7 e8 e9 e10 hv v0
    go_wp2_with fail
    refine (n_any sb 97 _ HD2.out.1 (by omega)).mono ?_
    rintro e w3 ⟨⟨y, rfl, y0, y1, _⟩, hD⟩
    have y2 : y < 97 := y1 (by omega)
    have HD3 : Hid (Drew sb w w3) := ⟨hD.1, HD2.out.2.trans hD.2⟩
    clear hD y1 HD2
    obtain ⟨g, k, ha⟩ := arith_any .quo (by simp) (floatOfInt .f64 (u - 10000)) (floatOfInt .f64 (1 + y))
    go_wp2_with fail
    have HD4 : Hid (Drew sb w (w3.drewN k)) := HD3.out.drewN k
    refine (one_any sb 4 _ HD4.out.1 (by omega)).mono ?_
    rintro e w5 ⟨⟨b, rfl⟩, hD⟩
    have HD5 : Hid (Drew sb w w5) := ⟨hD.1, HD4.out.2.trans hD.2⟩
    clear hD HD3 HD4 ha
    generalize g w3 = x
    cases b
    · go_wp2_with fail
      go_ret
      exact ⟨⟨_, rfl⟩, HD5.out⟩
    · go_wp2_with fail
      refine (n_any sb 100000 _ HD5.out.1 (by omega)).mono ?_
      rintro e w6 ⟨⟨z, rfl, z0, z1, _⟩, hD⟩
      have z2 : z < 100000 := z1 (by omega)
      have HD6 : Hid (Drew sb w w6) := ⟨hD.1, HD5.out.2.trans hD.2⟩
      clear hD z1 HD5
      obtain ⟨g, k, ha⟩ := arith_any .mul (by simp) x (floatOfInt .f64 z)
      go_wp2_with fail
      go_ret
      exact ⟨⟨_, rfl⟩, HD6.out.drewN _⟩
end Go.Proofs.Ytlipgnjknfmikaa
