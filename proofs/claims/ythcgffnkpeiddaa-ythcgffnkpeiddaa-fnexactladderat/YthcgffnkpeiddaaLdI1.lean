/-
  The program's parts of a ladder: sizes and quotients of whatever Cnums come up there, the test of rungs.
-/
import Derived.Test.YthcgffnkpeiddaaLdMath
import Derived.Test.YthcgffnkpeiddaaLpI1
import Derived.Test.YthcgffnkpeiddaaSgIn
import Derived.Test.YthcgffnkpeiddaaLpFl
import Derived.Laws.NewFold
namespace Go.Proofs.Ythcgffnkpeiddaa
open Go.RowKit Go.Deep

attribute [local go_sem] lrun_store_float lrun_store_complex
theorem arith_nan {P : Program} (x y : Nat) (h : floatBits .add .f64 x y = none) : ∃ X : World → Nat, ∀ w, (Op.Complex.arith .add .f64 x y).run P w = .ok (X w) (w.drewN 1) := by
  refine ⟨fun w => (Question.nanBits .f64 x y).cut (w.tape w.drawn (.nanBits .f64 x y)), fun w => ?_⟩
  have hf : (Question.nanBits .f64 x y).forced = false := rfl
  simp only [floatBits] at h
  simp [Op.Complex.arith, Op.floatArith, h, hf]
  rfl
/-- A product whose second part may be no number: what the first one is. -/
theorem run_mul_re {P : Program} (t : TypeId) (a b c d ac bd re ad bc : Nat) (h1 : floatBits .mul .f64 a c = some ac) (h2 : floatBits .mul .f64 b d = some bd) (h3 : floatBits .sub .f64 ac bd = some re) (h4 : floatBits .mul .f64 a d = some ad) (h5 : floatBits .mul .f64 b c = some bc) :
    ∃ (X : World → Nat) (k : Nat), ∀ w, (binOp .mul t (.complex .f64 a b) (.complex .f64 c d)).run P w = .ok (.complex .f64 re (X w)) (w.drewN k) := by
  cases h6 : floatBits .add .f64 ad bc with
  | some im =>
    refine ⟨fun _ => im, 0, fun w => ?_⟩
    exact run_complex_mul (P := P) (w := w) t a b c d re im (by unfold cMulBits; rw [h1, h2, h4, h5]; simp only [Option.bind_some]; rw [h3, h6]; rfl)
  | none =>
    obtain ⟨X, hX⟩ := arith_nan (P := P) ad bc h6
    refine ⟨X, 1, fun w => ?_⟩
    simp [binOp, Op.complexOp, Op.Complex.conv, Op.Complex.product, Op.Complex.mul, Op.Complex.sub, Op.Complex.add, run_carith w h1, run_carith w h2, run_carith w h3, run_carith w h4, run_carith w h5, hX]
set_option maxHeartbeats 400000 in
theorem sizeBig_any (p q : Nat) (w : World) (hp : Fl.Bd 545 p) (hq : Fl.Bd 545 q) :
    Calls Try.prog 39 #[.complex .f64 p q] w fun e w' => e = .returned (.complex .f64 (Fl.szW p q) 0) ∧ ∃ k, w' = w.drewN k := by
  have C := Fl.cinv_bd hp hq
  obtain ⟨r1, hr1, rr1⟩ := Fl.mul_opp hq.nm hq.nm
  obtain ⟨r2, hr2, _⟩ := Fl.mul_opp hp.nm hq.nm
  have hsub : floatBits .sub .f64 (Fl.mulW p p) r1 = some (Fl.szW p q) := by
    rw [Fl.sub_ng, Fl.add_of_read rfl (y' := Fl.mulW q q) (by rw [Fl.read_ng, rr1, Fl.opp_opp])]
    exact C.sz
  obtain ⟨X, k, hX⟩ := run_mul_re (P := Try.prog) 56 p q p (Fl.ng q) _ _ _ _ _ C.pp hr1 hsub hr2 (Fl.mul_nm hq.nm hp.nm)
  clear C hr1 rr1 hr2 hsub hp hq
  go_enter Try.func39, Try.ntmps39
  go_wp2_with (go_at_call 42; refine (conj_any _ _ _).mono ?_; rintro e w' ⟨rfl, rfl⟩)
  go_ret
  exact ⟨rfl, _, rfl⟩
set_option maxHeartbeats 1000000 in
theorem quotOne_any (p q : Nat) (w : World) (hp : Fl.Bd 545 p) (hq : Fl.Bd 545 q) :
    Calls Try.prog 32 #[.complex .f64 4607182418800017408 0, .complex .f64 p q] w fun e w' => e = .returned (.complex .f64 (Fl.qRe p q) (Fl.qIm p q)) ∧ ∃ k, w' = w.drewN k := by
  unfold Fl.qRe Fl.qIm Fl.posB
  have C := Fl.cinv_bd hp hq
  have HC : Hid (Fl.Bd 545 p ∧ Fl.Bd 545 q) := ⟨hp, hq⟩
  have z0 := Fl.zz_order
  rcases Fl.order_zero C.nn with ⟨ho, hm⟩ | ho
  · have hp1 : (FloatKind.f64.format.order (Fl.szW p q) 0 == some .gt) = true := by rw [ho]; rfl
    rw [if_pos hp1, if_pos hp1]
    have hqq := fun (wx : World) => run_complex_mul (P := Try.prog) (w := wx) 56 4607182418800017408 0 p (Fl.ng q) _ _ C.bits
    have hd1 := fun (wx : World) => run_float_arith (P := Try.prog) (w := wx) .quo 22 .f64 (Fl.dRe Fl.one 0 p q) (Fl.szW p q) _ (Fl.inv_re hp hq hm).1
    have hd2 := fun (wx : World) => run_float_arith (P := Try.prog) (w := wx) .quo 22 .f64 (Fl.dIm Fl.one 0 p q) (Fl.szW p q) _ (Fl.inv_im hp hq hm).1
    have os := Fl.order_self C.nn
    clear hp1 C hm hp hq
    go_enter Try.func32, Try.ntmps32
    go_wp2_with (first | (go_at_call 39; refine (sizeBig_any _ _ _ HC.out.1 HC.out.2).mono ?_; rintro e w' ⟨rfl, k, rfl⟩) | (go_at_call 42; refine (conj_any _ _ _).mono ?_; rintro e w' ⟨rfl, rfl⟩))
    go_ret
    exact ⟨rfl, _, rfl⟩
  · have hp1 : ¬ ((FloatKind.f64.format.order (Fl.szW p q) 0 == some .gt) = true) := by rw [ho]; decide
    rw [if_neg hp1, if_neg hp1]
    clear hp1 C hp hq
    go_enter Try.func32, Try.ntmps32
    go_wp2_with (first | (go_at_call 39; refine (sizeBig_any _ _ _ HC.out.1 HC.out.2).mono ?_; rintro e w' ⟨rfl, k, rfl⟩))
    go_ret
    exact ⟨rfl, _, rfl⟩

/-- Rungs in a row of their own. -/
def RgBlk (g n : Nat) (f : (Nat → Nat) × (Nat → Nat) × (Nat → Nat)) (w : World) : Prop := ∃ M F, n * 3 ≤ M ∧ w.rowIs g 52 M F ∧ ∀ i, i < n → F (i * 3) = .float .f64 (f.1 i) ∧ F (i * 3 + 1) = .float .f64 (f.2.1 i) ∧ F (i * 3 + 2) = .float .f64 (f.2.2 i)
theorem RgBlk.lt {g n : Nat} {f : (Nat → Nat) × (Nat → Nat) × (Nat → Nat)} {w : World} (k : RgBlk g n f w) : g < w.heap.size := by obtain ⟨M, F, h1, h2, h3⟩ := k; exact h2.lt
theorem RgBlk.below {g n : Nat} {f : (Nat → Nat) × (Nat → Nat) × (Nat → Nat)} {w w' : World} (k : RgBlk g n f w) (hb : Below w.heap.size w w') : RgBlk g n f w' := by obtain ⟨M, F, h1, h2, h3⟩ := k; exact ⟨M, F, h1, h2.of_block (hb.block _ h2.lt), h3⟩
theorem RgBlk.cell {g n i : Nat} {f : (Nat → Nat) × (Nat → Nat) × (Nat → Nat)} {w : World} (k : RgBlk g n f w) (hi : i < n) : w.cell? ⟨g, i * 3, none⟩ = some (.float .f64 (f.1 i)) ∧ w.cell? ⟨g, i * 3 + 1, none⟩ = some (.float .f64 (f.2.1 i)) ∧ w.cell? ⟨g, i * 3 + 2, none⟩ = some (.float .f64 (f.2.2 i)) := by
  obtain ⟨M, F, h1, h2, h3⟩ := k
  rw [h2.cell (i := i * 3) (by omega), h2.cell (i := i * 3 + 1) (by omega), h2.cell (i := i * 3 + 2) (by omega), (h3 i hi).1, (h3 i hi).2.1, (h3 i hi).2.2]
  exact ⟨rfl, rfl, rfl⟩
/-- Are all rungs' floats measures, of the first k? -/
def rgB (f : (Nat → Nat) × (Nat → Nat) × (Nat → Nat)) (i : Nat) : Bool := (Fl.measB (f.1 i) && Fl.measB (f.2.1 i)) && Fl.measB (f.2.2 i)
def rgsB (f : (Nat → Nat) × (Nat → Nat) × (Nat → Nat)) : Nat → Bool
  | 0 => true
  | k + 1 => rgsB f k && rgB f k
theorem rgsB_at {f : (Nat → Nat) × (Nat → Nat) × (Nat → Nat)} {n : Nat} (h : rgsB f n = true) : ∀ i, i < n → rgB f i = true := by
  induction n with
  | zero => intro i hi; omega
  | succ n ih =>
    intro i hi
    have h' := Bool.and_eq_true_iff.1 h
    by_cases e : i = n
    · subst e; exact h'.2
    · exact ih h'.1 i (by omega)
theorem rgsB_no {f : (Nat → Nat) × (Nat → Nat) × (Nat → Nat)} {n k : Nat} (hk : k < n) (h : rgB f k = false) : rgsB f n = false := by
  cases h' : rgsB f n with
  | false => rfl
  | true => have := rgsB_at h' k hk; rw [h] at this; cases this
theorem rgB_bd {f : (Nat → Nat) × (Nat → Nat) × (Nat → Nat)} {i : Nat} (h : rgB f i = true) : Fl.Bd 29 (f.1 i) ∧ Fl.Bd 29 (f.2.1 i) ∧ Fl.Bd 29 (f.2.2 i) := by
  have h1 := Bool.and_eq_true_iff.1 h
  have h2 := Bool.and_eq_true_iff.1 h1.1
  exact ⟨Fl.meas_bd h2.1, Fl.meas_bd h2.2, Fl.meas_bd h1.2⟩
set_option maxRecDepth 100000 in
set_option maxHeartbeats 2000000 in
theorem rungsRight_any (g n cap : Nat) (f : (Nat → Nat) × (Nat → Nat) × (Nat → Nat)) (w : World) (h : RgBlk g n f w) (hn : n ≤ 1048576) :
    Calls Try.prog 30 #[.slice (some ⟨g, 0, none⟩) n cap] w fun e w' => e = .returned (.bool (rgsB f n)) ∧ Below w.heap.size w w' := by
  have H := Lib.hid h
  have HG : Hid (g < w.heap.size) := h.lt
  clear h
  go_enter Try.func30, Try.ntmps30
  go_wp2
  go_loopw [7] (fun i wx => ∃ k : Nat, k ≤ n ∧ i = .int .i64 k ∧ rgsB f k = true ∧ Hid (Below w.heap.size w wx)) (fun i _ => n - (intOf i).toNat)
  case atStart => exact ⟨0, Nat.zero_le _, rfl, rfl, Below.refl _ _⟩
  case round =>
    obtain ⟨k, hk, rfl, hy, hB⟩ := hrel
    by_cases hlt : k < n
    · have hltz : (k : Int) < (n : Int) := by omega
      have hk0 : (0 : Int) ≤ (k : Int) := by omega
      obtain ⟨c0, c1, c2⟩ := (H.out.below hB.out).cell hlt
      have HL : Hid (g < wr.heap.size) := Nat.lt_of_lt_of_le HG.out hB.out.size
      have hg := HL.out
      cases m0 : Fl.measB (f.1 k)
      · have HN : Hid (rgsB f n = false) := rgsB_no hlt (by unfold rgB; rw [m0]; rfl)
        go_wp2_with (go_at_call 27; refine (implMeas_any _ _).mono ?_; rintro e w' ⟨rfl, rfl⟩)
        go_ret
        exact ⟨by rw [HN.out]; rfl, hB.out.trans ((bel_alloc _ _).mono hB.out.size)⟩
      · cases m1 : Fl.measB (f.2.1 k)
        · have HN : Hid (rgsB f n = false) := rgsB_no hlt (by unfold rgB; rw [m0, m1]; rfl)
          go_wp2_with (go_at_call 27; refine (implMeas_any _ _).mono ?_; rintro e w' ⟨rfl, rfl⟩)
          go_ret
          exact ⟨by rw [HN.out]; rfl, hB.out.trans ((bel_alloc _ _).mono hB.out.size)⟩
        · cases m2 : Fl.measB (f.2.2 k)
          · have HN : Hid (rgsB f n = false) := rgsB_no hlt (by unfold rgB; rw [m0, m1, m2]; rfl)
            go_wp2_with (go_at_call 27; refine (implMeas_any _ _).mono ?_; rintro e w' ⟨rfl, rfl⟩)
            go_ret
            exact ⟨by rw [HN.out]; rfl, hB.out.trans ((bel_alloc _ _).mono hB.out.size)⟩
          · have HY : Hid (rgsB f (k + 1) = true) := by show (rgsB f k && rgB f k) = true; unfold rgB; rw [hy, m0, m1, m2]; rfl
            go_wp2_with (go_at_call 27; refine (implMeas_any _ _).mono ?_; rintro e w' ⟨rfl, rfl⟩)
            go_roundw
            case rel => exact ⟨k + 1, by omega, by go_num, HY.out, hB.out.trans ((bel_alloc _ _).mono hB.out.size)⟩
            case measure => simp [intOf]; omega
    · obtain rfl : k = n := by omega
      go_wp2
      go_ret
      exact ⟨by rw [hy]; rfl, hB.out⟩
set_option maxHeartbeats 400000 in
theorem backward_any (a : Option Addr) (n cap : Nat) (w : World) :
    Calls Try.prog 31 #[.slice a n cap] w fun e w' => e = .returned (.func (.func 41) #[] #[.pointer (some ⟨w.heap.size, 0, none⟩)]) ∧ w' = w.alloc (.cells #[.slice a n cap] 35) := by
  go_enter Try.func31, Try.ntmps31
  go_wp2
  go_ret
  exact ⟨rfl, rfl⟩
end Go.Proofs.Ythcgffnkpeiddaa
