/-
  PolesTwo, both packages', and the law FnExactPolesTwo.
-/
import Derived.Test.YtplghjghecfeoaaLpFn
import Derived.Test.YtplghjghecfeoaaLpMem
import Derived.Test.YtplghjghecfeoaaKeep
import Derived.Lib.Hide
import Derived.Laws.Externs
import Derived.Laws.BitsAll
namespace Go.Proofs.Ytplghjghecfeoaa
open Go.RowKit Go.Deep
namespace Fl
open Ieee
def absW (x : Nat) : Nat := x % 9223372036854775808
def magW (x : Nat) : Nat := if FloatKind.f64.format.order x 0 = some .lt then ng x else x
def oneW : Nat := 4607182418800017408
theorem read_abs {x : Nat} {s : Bool} {m : Nat} {e : Int} (h : double.read x = .number s m e) : double.read (absW x) = .number false m e := by
  unfold Format.read at h ⊢
  rw [double_sw, double_binade, double_inf] at *
  have h1 : absW x % 9223372036854775808 = x % 9223372036854775808 := by unfold absW; omega
  have h2 : (absW x / 9223372036854775808 % 2 == 1) = false := by
    have : absW x / 9223372036854775808 = 0 := by unfold absW; omega
    rw [this]; rfl
  simp only [h1, h2]
  simp only at h
  split at h
  · rename_i c; rw [if_pos c]; injection h with _ a b; rw [← a, ← b]
  · rename_i c; rw [if_neg c]
    split at h
    · rename_i c2; rw [if_pos c2]; injection h with _ a b; rw [← a, ← b]
    · split at h
      · cases h
      · cases h
theorem order_lt {x : Nat} {s : Bool} {m : Nat} {e : Int} (h : double.read x = .number s m e) : FloatKind.f64.format.order x 0 = some .lt ↔ s = true ∧ m ≠ 0 := by
  have ho : FloatKind.f64.format.order x 0 = some (compare (signed s m (e - min e (-1074)).toNat) (signed false 0 ((-1074 : Int) - min e (-1074)).toNat)) := by
    show double.order _ _ = _
    unfold Format.order
    rw [h, zero_read]
    rfl
  have z : signed false 0 ((-1074 : Int) - min e (-1074)).toNat = 0 := by unfold signed; simp
  rw [z] at ho
  rw [ho]
  have hp : 0 < 2 ^ (e - min e (-1074)).toNat := Nat.two_pow_pos _
  have hpos : m ≠ 0 → 0 < m * 2 ^ (e - min e (-1074)).toNat := fun hm => Nat.mul_pos (by omega) hp
  constructor
  · intro h2
    have h3 : compare (signed s m (e - min e (-1074)).toNat) 0 = .lt := Option.some.inj h2
    rw [Int.compare_eq_lt] at h3
    unfold signed at h3
    rw [Nat.shiftLeft_eq] at h3
    cases s
    · rw [if_neg (by decide)] at h3
      exact absurd h3 (Int.not_lt.2 (Int.natCast_nonneg _))
    · refine ⟨rfl, fun hm => ?_⟩
      rw [if_pos rfl, hm] at h3
      simp at h3
  · rintro ⟨rfl, hm⟩
    congr 1
    rw [Int.compare_eq_lt]
    unfold signed
    rw [if_pos rfl, Nat.shiftLeft_eq]
    have := hpos hm
    omega
theorem one_w : double.read oneW = .number false 4503599627370496 (-52) := one_read
theorem sub_abs {x : Nat} (h : Bd 29 x) : floatBits .sub .f64 oneW (absW x) = some (subW oneW (absW x)) ∧ floatBits .sub .f64 oneW (magW x) = some (subW oneW (absW x)) := by
  have b1 : Bd 29 oneW := ⟨false, 4503599627370496, -52, one_w, Or.inr (by decide)⟩
  obtain ⟨s, m, e, hr, hb⟩ := h
  have ba : Bd 29 (absW x) := ⟨false, m, e, read_abs hr, hb⟩
  have s1 := (subW_bd b1 ba (by omega) (by omega)).1
  refine ⟨s1, ?_⟩
  rw [← s1]
  show double.sub oneW (magW x) = double.sub oneW (absW x)
  unfold Format.sub
  rw [read_abs hr, one_w]
  have ho := order_lt hr
  unfold magW
  by_cases hlt : FloatKind.f64.format.order x 0 = some .lt
  · rw [if_pos hlt, read_ng, hr, (ho.1 hlt).1]
    rfl
  · rw [if_neg hlt, hr]
    cases s
    · rfl
    · have hm : m = 0 := by
        by_cases hm : m = 0
        · exact hm
        · exact absurd (ho.2 ⟨rfl, hm⟩) hlt
      subst hm
      congr 1
      show Datum.sum _ (Datum.number false 0 e) = Datum.sum _ (Datum.number true 0 e)
      simp only [Datum.sum]
      have z1 : signed false 0 (e - min (-52) e).toNat = 0 := by unfold signed; simp
      have z2 : signed true 0 (e - min (-52) e).toNat = 0 := by unfold signed; simp
      rw [z1, z2]
      have nz : ¬ (signed false 4503599627370496 ((-52 : Int) - min (-52) e).toNat + 0 = 0) := by
        unfold signed
        rw [if_neg (by decide), Nat.shiftLeft_eq]
        have := Nat.two_pow_pos ((-52 : Int) - min (-52) e).toNat
        omega
      rw [if_neg nz, if_neg nz]
/-- What PolesTwo answers. -/
def poles (a b : Nat) : Int := if measB a && measB b then (if FloatKind.f64.format.order b 13830554455654793216 = some .gt ∧ FloatKind.f64.format.order b (subW oneW (absW a)) = some .lt then 1 else 2) else 0
end Fl
theorem pneg_run (x : Nat) (w : World) : (Op.unary .neg (.float .f64 x)).run Try.prog w = .ok (.float .f64 (Fl.ng x)) w := rfl
theorem bits_run (x : Nat) (w : World) : (callFunc 52 #[.float .f64 x]).run Try.prog w = .ok (.value (.int .u64 (x : Int))) w := by
  rw [run_callFunc_extern (fn := Try.f52) (e := Extern.MathFloatBits.float64bits) Try.func52 (by kernel_rfl) (by kernel_rfl) (by kernel_rfl) (by kernel_rfl)]
  rfl
theorem frombits_run (x : Int) (w : World) : (callFunc 51 #[.int .u64 x]).run Try.prog w = .ok (.value (.float .f64 x.toNat)) w := by
  rw [run_callFunc_extern (fn := Try.f51) (e := Extern.MathFloatBits.float64frombits) Try.func51 (by kernel_rfl) (by kernel_rfl) (by kernel_rfl) (by kernel_rfl)]
  rfl
theorem and63 (x : Nat) : x &&& (18446744073709551615 - 9223372036854775808) = Fl.absW x := by
  have e : (18446744073709551615 - 9223372036854775808 : Nat) = 2 ^ 63 - 1 := by decide
  rw [e, Nat.and_two_pow_sub_one_eq_mod]
  rfl
set_option maxHeartbeats 400000 in
theorem abs_any (x : Nat) (w : World) (h : x < 18446744073709551616) :
    Calls Try.prog 48 #[.float .f64 x] w fun e w' => e = .returned (.float .f64 (Fl.absW x)) ∧ w' = w := by
  have h1 := bits_run x
  have h2 := fun y => frombits_run y
  have h3 : bits .andNot .u64 (x : Int) 9223372036854775808 = ((Fl.absW x : Nat) : Int) := by
    rw [u64_andNot (x : Int) 9223372036854775808 (by omega) (by omega) (by decide) (by decide)]
    have : (9223372036854775808 : Int).toNat = 9223372036854775808 := rfl
    rw [this, Int.toNat_natCast, and63 x]
  go_enter Try.func48, Try.ntmps48
  go_wp2
  go_ret
  exact ⟨rfl, rfl⟩
set_option maxHeartbeats 1000000 in
theorem implPoles_any (a b : Nat) (w : World) (hx : a < 18446744073709551616) :
    Calls Try.prog 33 #[.float .f64 a, .float .f64 b] w fun e w' => e = .returned (.int .i64 (Fl.poles a b)) ∧ w' = w := by
  unfold Fl.poles
  cases h1 : Fl.measB a
  · simp only [Bool.false_and, Bool.false_eq_true, if_false]
    go_enter Try.func33, Try.ntmps33
    go_wp2_with (first | (go_at_call 47; refine (implMeas_any _ _).mono ?_; rintro e w' ⟨rfl, rfl⟩))
    go_ret
    exact ⟨rfl, rfl⟩
  · cases h2 : Fl.measB b
    · simp only [Bool.and_false, Bool.false_eq_true, if_false]
      go_enter Try.func33, Try.ntmps33
      go_wp2_with (first | (go_at_call 47; refine (implMeas_any _ _).mono ?_; rintro e w' ⟨rfl, rfl⟩))
      go_ret
      exact ⟨rfl, rfl⟩
    · simp only [Bool.and_self, if_true]
      have q := fun (wx : World) => run_float_arith (P := Try.prog) (w := wx) .sub 23 .f64 4607182418800017408 (Fl.absW a) _ (Fl.sub_abs (Fl.meas_bd h1)).1
      generalize Fl.subW Fl.oneW (Fl.absW a) = r at *
      by_cases g1 : FloatKind.f64.format.order b 13830554455654793216 = some .gt
      · have g1' : (FloatKind.f64.format.order b 13830554455654793216 == some .gt) = true := by rw [g1]; rfl
        by_cases g2 : FloatKind.f64.format.order b r = some .lt
        · have g2' : (FloatKind.f64.format.order b r == some .lt) = true := by rw [g2]; rfl
          rw [if_pos ⟨g1, g2⟩]
          clear g1 g2
          go_enter Try.func33, Try.ntmps33
          go_wp2_with (first | (go_at_call 47; refine (implMeas_any _ _).mono ?_; rintro e w' ⟨rfl, rfl⟩) | (go_at_call 48; refine (abs_any _ _ hx).mono ?_; rintro e w' ⟨rfl, rfl⟩))
          go_ret
          exact ⟨rfl, rfl⟩
        · have g2' : (FloatKind.f64.format.order b r == some .lt) = false := by simpa using g2
          rw [if_neg (fun h => g2 h.2)]
          clear g1 g2
          go_enter Try.func33, Try.ntmps33
          go_wp2_with (first | (go_at_call 47; refine (implMeas_any _ _).mono ?_; rintro e w' ⟨rfl, rfl⟩) | (go_at_call 48; refine (abs_any _ _ hx).mono ?_; rintro e w' ⟨rfl, rfl⟩))
          go_ret
          exact ⟨rfl, rfl⟩
      · have g1' : (FloatKind.f64.format.order b 13830554455654793216 == some .gt) = false := by simpa using g1
        rw [if_neg (fun h => g1 h.1)]
        clear g1
        go_enter Try.func33, Try.ntmps33
        go_wp2_with (first | (go_at_call 47; refine (implMeas_any _ _).mono ?_; rintro e w' ⟨rfl, rfl⟩) | (go_at_call 48; refine (abs_any _ _ hx).mono ?_; rintro e w' ⟨rfl, rfl⟩))
        go_ret
        exact ⟨rfl, rfl⟩
set_option maxHeartbeats 1000000 in
theorem specPoles_any (a b : Nat) (w : World) :
    Calls Try.prog 32 #[.float .f64 a, .float .f64 b] w fun e w' => e = .returned (.int .i64 (Fl.poles a b)) ∧ w' = w := by
  have hn := pneg_run a
  unfold Fl.poles
  cases h1 : Fl.measB a
  · simp only [Bool.false_and, Bool.false_eq_true, if_false]
    go_enter Try.func32, Try.ntmps32
    go_wp2_with (first | (go_at_call 44; refine (specMeas_any _ _).mono ?_; rintro e w' ⟨rfl, rfl⟩))
    go_ret
    exact ⟨rfl, rfl⟩
  · cases h2 : Fl.measB b
    · simp only [Bool.and_false, Bool.false_eq_true, if_false]
      go_enter Try.func32, Try.ntmps32
      go_wp2_with (first | (go_at_call 44; refine (specMeas_any _ _).mono ?_; rintro e w' ⟨rfl, rfl⟩))
      go_ret
      exact ⟨rfl, rfl⟩
    · simp only [Bool.and_self, if_true]
      have hsub := (Fl.sub_abs (Fl.meas_bd h1)).2
      unfold Fl.magW at hsub
      by_cases hlt : FloatKind.f64.format.order a 0 = some .lt
      · rw [if_pos hlt] at hsub
        have hl' : (FloatKind.f64.format.order a 0 == some .lt) = true := by rw [hlt]; rfl
        have q := fun (wx : World) => run_float_arith (P := Try.prog) (w := wx) .sub 23 .f64 4607182418800017408 (Fl.ng a) _ hsub
        clear hsub hlt
        generalize Fl.subW Fl.oneW (Fl.absW a) = r at *
        by_cases g1 : FloatKind.f64.format.order b 13830554455654793216 = some .gt
        · have g1' : (FloatKind.f64.format.order b 13830554455654793216 == some .gt) = true := by rw [g1]; rfl
          by_cases g2 : FloatKind.f64.format.order b r = some .lt
          · have g2' : (FloatKind.f64.format.order b r == some .lt) = true := by rw [g2]; rfl
            rw [if_pos ⟨g1, g2⟩]
            clear g1 g2
            go_enter Try.func32, Try.ntmps32
            go_wp2_with (first | (go_at_call 44; refine (specMeas_any _ _).mono ?_; rintro e w' ⟨rfl, rfl⟩))
            go_ret
            exact ⟨rfl, rfl⟩
          · have g2' : (FloatKind.f64.format.order b r == some .lt) = false := by simpa using g2
            rw [if_neg (fun h => g2 h.2)]
            clear g1 g2
            go_enter Try.func32, Try.ntmps32
            go_wp2_with (first | (go_at_call 44; refine (specMeas_any _ _).mono ?_; rintro e w' ⟨rfl, rfl⟩))
            go_ret
            exact ⟨rfl, rfl⟩
        · have g1' : (FloatKind.f64.format.order b 13830554455654793216 == some .gt) = false := by simpa using g1
          rw [if_neg (fun h => g1 h.1)]
          clear g1
          go_enter Try.func32, Try.ntmps32
          go_wp2_with (first | (go_at_call 44; refine (specMeas_any _ _).mono ?_; rintro e w' ⟨rfl, rfl⟩))
          go_ret
          exact ⟨rfl, rfl⟩
      · rw [if_neg hlt] at hsub
        have hl' : (FloatKind.f64.format.order a 0 == some .lt) = false := by simpa using hlt
        have q := fun (wx : World) => run_float_arith (P := Try.prog) (w := wx) .sub 23 .f64 4607182418800017408 a _ hsub
        clear hsub hlt
        generalize Fl.subW Fl.oneW (Fl.absW a) = r at *
        by_cases g1 : FloatKind.f64.format.order b 13830554455654793216 = some .gt
        · have g1' : (FloatKind.f64.format.order b 13830554455654793216 == some .gt) = true := by rw [g1]; rfl
          by_cases g2 : FloatKind.f64.format.order b r = some .lt
          · have g2' : (FloatKind.f64.format.order b r == some .lt) = true := by rw [g2]; rfl
            rw [if_pos ⟨g1, g2⟩]
            clear g1 g2
            go_enter Try.func32, Try.ntmps32
            go_wp2_with (first | (go_at_call 44; refine (specMeas_any _ _).mono ?_; rintro e w' ⟨rfl, rfl⟩))
            go_ret
            exact ⟨rfl, rfl⟩
          · have g2' : (FloatKind.f64.format.order b r == some .lt) = false := by simpa using g2
            rw [if_neg (fun h => g2 h.2)]
            clear g1 g2
            go_enter Try.func32, Try.ntmps32
            go_wp2_with (first | (go_at_call 44; refine (specMeas_any _ _).mono ?_; rintro e w' ⟨rfl, rfl⟩))
            go_ret
            exact ⟨rfl, rfl⟩
        · have g1' : (FloatKind.f64.format.order b 13830554455654793216 == some .gt) = false := by simpa using g1
          rw [if_neg (fun h => g1 h.1)]
          clear g1
          go_enter Try.func32, Try.ntmps32
          go_wp2_with (first | (go_at_call 44; refine (specMeas_any _ _).mono ?_; rintro e w' ⟨rfl, rfl⟩))
          go_ret
          exact ⟨rfl, rfl⟩
set_option maxHeartbeats 1000000 in
theorem poles_law (w : World) (a : Nat) (ha : a < 18446744073709551616) (b : Nat) (_hb : b < 18446744073709551616) :
    Calls Try.prog 9 #[.float .f64 a, .float .f64 b] w fun e w' => e = .returned (.bool true) ∧ Below w.heap.size w w' := by
  have HI := Lib.hid (fun wx => implPoles_any a b wx ha)
  have HS := Lib.hid (fun wx => specPoles_any a b wx)
  generalize Fl.poles a b = r at *
  clear ha _hb
  go_enter Try.func9, Try.ntmps9
  go_wp2_with fail
  refine (HS.out _).mono ?_
  rintro e w1 ⟨rfl, rfl⟩
  go_wp2_with fail
  refine (HI.out _).mono ?_
  rintro e w2 ⟨rfl, rfl⟩
  go_wp2_with fail
  go_ret
  exact ⟨rfl, Below.refl _ _⟩
end Go.Proofs.Ytplghjghecfeoaa
