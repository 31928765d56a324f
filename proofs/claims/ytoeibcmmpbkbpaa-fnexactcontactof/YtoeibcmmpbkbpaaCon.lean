/-
  Contact of doses: the numbers, both packages' functions, and the law FnExactContactOf.
-/
import Derived.Test.YtoeibcmmpbkbpaaProg
import Derived.Test.YtoeibcmmpbkbpaaSumMath
import Derived.WalkKit
import Derived.WalkSpells
import Derived.WalkLawsBesides
import Derived.WalkMore
import Derived.Below
import Derived.Lib.Hide
import Derived.Deep.OwnRows
import Derived.Deep.QuietTactic
import Derived.Deep.RegionWith
import Derived.BigQuiet
namespace Go.Proofs.Ytoeibcmmpbkbpaa
namespace Con
open Ieee Fl

theorem log2_mul (m n : Nat) (hm : m ≠ 0) (hn : n ≠ 0) : (m * n).log2 ≤ m.log2 + n.log2 + 1 := by
  have h1 := lt_two_pow_log2 m
  have h2 := lt_two_pow_log2 n
  have h3 : m * n < 2 ^ (m.log2 + n.log2 + 1 + 1) := by
    have : 2 ^ (m.log2 + n.log2 + 1 + 1) = 2 ^ (m.log2 + 1) * 2 ^ (n.log2 + 1) := by rw [← Nat.pow_add]; congr 1; omega
    rw [this]
    exact Nat.mul_lt_mul_of_lt_of_le h1 (Nat.le_of_lt h2) (Nat.two_pow_pos _)
  have := (Nat.log2_lt (by exact Nat.mul_ne_zero hm hn)).2 h3
  omega
/-- A number that is not too great is written as a number. -/
theorem num_write (s : Bool) (m : Nat) (e : Int) (h : m = 0 ∨ e + m.log2 ≤ 100) : ∃ s' m' e', double.read (double.nearest s m e) = .number s' m' e' := by
  have hd : ∃ rg, double.nearest s m e = double.word s rg ∧ rg < double.infRung := by
    unfold Format.nearest
    dsimp only
    by_cases hm : m = 0
    · rw [if_pos hm]; exact ⟨0, rfl, by rw [double_inf]; decide⟩
    · rw [if_neg hm]
      refine ⟨_, rfl, ?_⟩
      have hE : e + m.log2 ≤ 100 := by omega
      have hl1 : e + m.log2 - (double.fractionBits : Nat) ≤ max (e + m.log2 - (double.fractionBits : Nat)) double.leastPlace := Int.le_max_left _ _
      have hk := kept_le s m e _ _ hl1
      have hF : double.fractionBits = 52 := rfl
      have hl2 : max (e + m.log2 - (double.fractionBits : Nat)) double.leastPlace ≤ 75 := by rw [double_least, hF]; omega
      generalize max (e + m.log2 - (double.fractionBits : Nat)) double.leastPlace = last at *
      rw [hF] at hk
      generalize Toward.even.cut s (m <<< (e - last).toNat) (last - e).toNat = kept at *
      rw [double_inf, double_binade, double_least]
      have : 2 ^ (52 + 1) = 9007199254740992 := by decide
      omega
  obtain ⟨rg, hw2, hlt2⟩ := hd
  rw [hw2]
  rw [double_inf] at hlt2
  have hm : double.word s rg % double.signWeight = rg := by
    unfold Format.word; rw [double_sw]; split <;> omega
  unfold Format.read
  simp only [hm]
  rw [double_binade, double_inf]
  split
  · exact ⟨_, _, _, rfl⟩
  · exact ⟨_, _, _, rfl⟩
/-- A product of measures is a number. -/
theorem mul_num (x y : Nat) (hx : measB x = true) (hy : measB y = true) : ∃ r, floatBits .mul .f64 x y = some r ∧ ∃ s m e, double.read r = .number s m e := by
  obtain ⟨s1, m1, e1, r1, b1⟩ := meas_read x hx
  obtain ⟨s2, m2, e2, r2, b2⟩ := meas_read y hy
  show ∃ r, double.mul x y = some r ∧ _
  unfold Format.mul
  rw [r1, r2]
  refine ⟨_, rfl, ?_⟩
  show ∃ s m e, double.read (double.nearest _ _ _) = _
  apply num_write
  by_cases h1 : m1 = 0
  · left; rw [h1]; simp
  by_cases h2 : m2 = 0
  · left; rw [h2]; simp
  right
  have := log2_mul m1 m2 h1 h2
  omega
/-- What is not below nought (and no NaN). -/
def nnB (x : Nat) : Bool := FloatKind.f64.format.order x 0 == some .gt || FloatKind.f64.format.order x 0 == some .eq
def okB (x y : Nat) : Bool := measB x && (measB y && (nnB x && nnB y))
def mulF (x y : Nat) : Nat := (floatBits .mul .f64 x y).getD 0
def addM (acc x y : Nat) : Nat := if okB x y then (floatBits .add .f64 acc (mulF x y)).getD 0 else acc
def conTo (f g : List Nat) : Nat → Nat
  | 0 => 0
  | k + 1 => addM (conTo f g k) (el f k) (el g k)
theorem addM_good (acc x y : Nat) (h : good (double.read acc)) : good (double.read (addM acc x y)) ∧ (okB x y = true → floatBits .mul .f64 x y = some (mulF x y) ∧ floatBits .add .f64 acc (mulF x y) = some (addM acc x y)) := by
  unfold addM
  cases hk : okB x y with
  | false => exact ⟨h, fun h => by cases h⟩
  | true =>
    simp only [okB, Bool.and_eq_true] at hk
    obtain ⟨r, hr, hn⟩ := mul_num x y hk.1 hk.2.1
    have hm : mulF x y = r := by unfold mulF; rw [hr]; rfl
    rw [hm]
    obtain ⟨q, hq, hg⟩ := add_good acc r h hn
    rw [hq]
    exact ⟨hg, fun _ => ⟨hr, rfl⟩⟩
theorem conTo_good (f g : List Nat) : ∀ k, good (double.read (conTo f g k)) := by
  intro k
  induction k with
  | zero => exact good_zero
  | succ k ih => exact (addM_good _ _ _ ih).1
end Con
open Go.RowKit Go.Deep

set_option maxHeartbeats 400000 in
theorem cMeas_any (x : Nat) (w : World) :
    Calls Try.prog 35 #[.float .f64 x] w fun e w' => e = .returned (.bool (Fl.measB x)) ∧ w' = w := by
  unfold Fl.measB
  go_enter Try.func35, Try.ntmps35
  go_wp2
  · go_ret
    exact ⟨rfl, rfl⟩
  · go_ret
    rename_i h
    refine ⟨?_, rfl⟩
    have : (FloatKind.f64.format.order x 13965043853221167104 == some Ordering.gt || FloatKind.f64.format.order x 13965043853221167104 == some Ordering.eq) = false := by
      rw [Bool.eq_false_iff]; intro k; apply h; simpa using k
    rw [this]
    rfl
set_option maxHeartbeats 400000 in
theorem csMeas_any (x : Nat) (w : World) :
    Calls Try.prog 34 #[.float .f64 x] w fun e w' => e = .returned (.bool (Fl.measB x)) ∧ w' = w := by
  unfold Fl.measB
  go_enter Try.func34, Try.ntmps34
  go_wp2
  · go_ret
    exact ⟨rfl, rfl⟩
  · go_ret
    rename_i h
    refine ⟨?_, rfl⟩
    have : (FloatKind.f64.format.order x 13965043853221167104 == some Ordering.gt || FloatKind.f64.format.order x 13965043853221167104 == some Ordering.eq) = false := by
      rw [Bool.eq_false_iff]; intro k; apply h; simpa using k
    rw [this]
    rfl
set_option maxRecDepth 100000 in
set_option maxHeartbeats 4000000 in
theorem implCon_any (b1 b2 n c1 c2 : Nat) (f g : List Nat) (w : World) (h1 : ∀ i, i < n → w.cell? ⟨b1, i, none⟩ = some (.float .f64 (Fl.el f i))) (h2 : ∀ i, i < n → w.cell? ⟨b2, i, none⟩ = some (.float .f64 (Fl.el g i))) (hn : n ≤ 400) :
    Calls Try.prog 19 #[.slice (some ⟨b1, 0, none⟩) n c1, .slice (some ⟨b2, 0, none⟩) n c2] w fun e w' => e = .returned (.float .f64 (Con.conTo f g n)) ∧ w' = w := by
  have hz : ¬ (400 : Int) < (n : Int) := by omega
  have H1 := Lib.hid h1
  have H2 := Lib.hid h2
  clear h1 h2
  go_enter Try.func19, Try.ntmps19
  go_wp2_with fail
  go_loop [5, 21] (fun s i => ∃ k : Nat, k ≤ n ∧ i = .int .i64 k ∧ s = .float .f64 (Con.conTo f g k)) (fun _ i => n - (intOf i).toNat)
  case atStart => exact ⟨0, Nat.zero_le _, rfl, rfl⟩
  case round =>
    obtain ⟨k, hk, rfl, rfl⟩ := hrel
    by_cases hlt : k < n
    · have hltz : (k : Int) < (n : Int) := by omega
      have x1 := H1.out k hlt
      have x2 := H2.out k hlt
      have hg := Con.addM_good _ (Fl.el f k) (Fl.el g k) (Con.conTo_good f g k)
      have HG := Lib.hid hg
      have Hs : Hid (Con.conTo f g (k + 1) = Con.addM (Con.conTo f g k) (Fl.el f k) (Fl.el g k)) := rfl
      generalize Con.conTo f g k = acc at *
      generalize Fl.el f k = x at *
      generalize Fl.el g k = y at *
      clear hg
      have hno : Con.okB x y = false → Hid (Con.addM acc x y = acc) := fun h => by show _ = _; unfold Con.addM; rw [h]; rfl
      cases m1 : Fl.measB x with
      | false =>
        have Ha := hno (by simp [Con.okB, m1])
        clear hno
        go_wp2_with (go_at_call 35; refine (cMeas_any _ _).mono ?_; rintro e w' ⟨rfl, rfl⟩)
        go_round
        case rel => exact ⟨k + 1, by omega, by go_num, by rw [Hs.out, Ha.out]⟩
        case measure => simp [intOf]; omega
      | true =>
      cases m2 : Fl.measB y with
      | false =>
        have Ha := hno (by simp [Con.okB, m2])
        clear hno
        go_wp2_with (go_at_call 35; refine (cMeas_any _ _).mono ?_; rintro e w' ⟨rfl, rfl⟩)
        go_round
        case rel => exact ⟨k + 1, by omega, by go_num, by rw [Hs.out, Ha.out]⟩
        case measure => simp [intOf]; omega
      | true =>
      cases n1 : Con.nnB x with
      | false =>
        have Ha := hno (by simp [Con.okB, n1])
        clear hno
        unfold Con.nnB at n1
        go_wp2_with (go_at_call 35; refine (cMeas_any _ _).mono ?_; rintro e w' ⟨rfl, rfl⟩)
        go_round
        case rel => exact ⟨k + 1, by omega, by go_num, by rw [Hs.out, Ha.out]⟩
        case measure => simp [intOf]; omega
      | true =>
      cases n2 : Con.nnB y with
      | false =>
        have Ha := hno (by simp [Con.okB, n2])
        clear hno
        unfold Con.nnB at n1 n2
        go_wp2_with (go_at_call 35; refine (cMeas_any _ _).mono ?_; rintro e w' ⟨rfl, rfl⟩)
        go_round
        case rel => exact ⟨k + 1, by omega, by go_num, by rw [Hs.out, Ha.out]⟩
        case measure => simp [intOf]; omega
      | true =>
        obtain ⟨hm, ha⟩ := HG.out.2 (by simp [Con.okB, m1, m2, n1, n2])
        have hq1 := fun (wx : World) => run_float_arith (P := Try.prog) (w := wx) .mul 44 .f64 _ _ _ hm
        have hq2 := fun (wx : World) => run_float_arith (P := Try.prog) (w := wx) .add 44 .f64 _ _ _ ha
        clear hno hm ha
        unfold Con.nnB at n1 n2
        go_wp2_with (go_at_call 35; refine (cMeas_any _ _).mono ?_; rintro e w' ⟨rfl, rfl⟩)
        go_round
        case rel => exact ⟨k + 1, by omega, by go_num, by rw [Hs.out]⟩
        case measure => simp [intOf]; omega
    · obtain rfl : k = n := by omega
      go_wp2
      go_ret
      exact ⟨rfl, rfl⟩
set_option maxRecDepth 100000 in
set_option maxHeartbeats 4000000 in
theorem sCon_any (b1 b2 n c1 c2 : Nat) (f g : List Nat) (w : World) (h1 : ∀ i, i < n → w.cell? ⟨b1, i, none⟩ = some (.float .f64 (Fl.el f i))) (h2 : ∀ i, i < n → w.cell? ⟨b2, i, none⟩ = some (.float .f64 (Fl.el g i))) (hn : n ≤ 400) :
    Calls Try.prog 17 #[.slice (some ⟨b1, 0, none⟩) n c1, .slice (some ⟨b2, 0, none⟩) n c2] w fun e w' => e = .returned (.float .f64 (Con.conTo f g n)) ∧ ∃ m, w' = w.drewN m := by
  have hz : ¬ (400 : Int) < (n : Int) := by omega
  have H1 := Lib.hid h1
  have H2 := Lib.hid h2
  clear h1 h2
  go_enter Try.func17, Try.ntmps17
  go_wp2_with fail
  go_loopw [5, 6] (fun s i wx => ∃ k m : Nat, k ≤ n ∧ i = .int .i64 k ∧ s = .float .f64 (Con.conTo f g k) ∧ Hid (wx = w.drewN m)) (fun _ i _ => n - (intOf i).toNat)
  case atStart => exact ⟨0, 0, Nat.zero_le _, rfl, rfl, rfl⟩
  case round =>
    obtain ⟨k, m, hk, rfl, rfl, HW⟩ := hrel
    by_cases hlt : k < n
    · have hltz : (k : Int) < (n : Int) := by omega
      have x1 : wr.cell? ⟨b1, k, none⟩ = some (.float .f64 (Fl.el f k)) := by rw [HW.out]; exact H1.out k hlt
      have x2 : wr.cell? ⟨b2, k, none⟩ = some (.float .f64 (Fl.el g k)) := by rw [HW.out]; exact H2.out k hlt
      have hg := Con.addM_good _ (Fl.el f k) (Fl.el g k) (Con.conTo_good f g k)
      have HG := Lib.hid hg
      have Hs : Hid (Con.conTo f g (k + 1) = Con.addM (Con.conTo f g k) (Fl.el f k) (Fl.el g k)) := rfl
      generalize Con.conTo f g k = acc at *
      generalize Fl.el f k = x at *
      generalize Fl.el g k = y at *
      clear hg
      have hno : Con.okB x y = false → Hid (Con.addM acc x y = acc) := fun h => by show _ = _; unfold Con.addM; rw [h]; rfl
      cases m1 : Fl.measB x with
      | false =>
        have Ha := hno (by simp [Con.okB, m1])
        clear hno
        go_wp2_with (go_at_call 34; refine (csMeas_any _ _).mono ?_; rintro e w' ⟨rfl, rfl⟩)
        go_roundw
        case rel => exact ⟨k + 1, m, by omega, by go_num, by rw [Hs.out, Ha.out], HW⟩
        case measure => simp [intOf]; omega
      | true =>
      cases m2 : Fl.measB y with
      | false =>
        have Ha := hno (by simp [Con.okB, m2])
        clear hno
        go_wp2_with (go_at_call 34; refine (csMeas_any _ _).mono ?_; rintro e w' ⟨rfl, rfl⟩)
        go_roundw
        case rel => exact ⟨k + 1, m, by omega, by go_num, by rw [Hs.out, Ha.out], HW⟩
        case measure => simp [intOf]; omega
      | true =>
      cases n1 : Con.nnB x with
      | false =>
        have Ha := hno (by simp [Con.okB, n1])
        clear hno
        unfold Con.nnB at n1
        go_wp2_with (go_at_call 34; refine (csMeas_any _ _).mono ?_; rintro e w' ⟨rfl, rfl⟩)
        go_roundw
        case rel => exact ⟨k + 1, m, by omega, by go_num, by rw [Hs.out, Ha.out], HW⟩
        case measure => simp [intOf]; omega
      | true =>
      cases n2 : Con.nnB y with
      | false =>
        have Ha := hno (by simp [Con.okB, n2])
        clear hno
        unfold Con.nnB at n1 n2
        go_wp2_with (go_at_call 34; refine (csMeas_any _ _).mono ?_; rintro e w' ⟨rfl, rfl⟩)
        go_roundw
        case rel => exact ⟨k + 1, m, by omega, by go_num, by rw [Hs.out, Ha.out], HW⟩
        case measure => simp [intOf]; omega
      | true =>
        obtain ⟨hm, ha⟩ := HG.out.2 (by simp [Con.okB, m1, m2, n1, n2])
        have hq1 := fun (wx : World) => run_float_arith (P := Try.prog) (w := wx) .mul 44 .f64 _ _ _ hm
        have hq2 := fun (wx : World) => run_float_arith (P := Try.prog) (w := wx) .add 44 .f64 _ _ _ ha
        clear hno hm ha
        unfold Con.nnB at n1 n2
        go_wp2_with (go_at_call 34; refine (csMeas_any _ _).mono ?_; rintro e w' ⟨rfl, rfl⟩)
        go_quiet (fail)
        go_wp2_with fail
        go_roundw
        case rel => exact ⟨k + 1, _, by omega, by go_num, by rw [Hs.out], by show _ = _; rw [HW.out]; exact World.drewN_drewN _ _ _⟩
        case measure => simp [intOf]; omega
    · obtain rfl : k = n := by omega
      go_wp2_with fail
      go_ret
      exact ⟨rfl, m, HW.out⟩
/-- Lists that are not taken. -/
def NoCon (n m : Nat) : Prop := 400 < n ∨ n ≠ m
set_option maxRecDepth 100000 in
set_option maxHeartbeats 1000000 in
theorem implCon_no (a b : Option Addr) (n m c1 c2 : Nat) (w : World) (h : NoCon n m) :
    Calls Try.prog 19 #[.slice a n c1, .slice b m c2] w fun e w' => e = .returned (.float .f64 0) ∧ w' = w := by
  by_cases h1 : 400 < n
  · have hz : (400 : Int) < (n : Int) := by omega
    clear h
    go_enter Try.func19, Try.ntmps19
    go_wp2_with fail
    go_ret
    exact ⟨rfl, rfl⟩
  · have hz : ¬ (400 : Int) < (n : Int) := by omega
    have hne : ((n : Int) != (m : Int)) = true := by
      rcases h with h | h
      · omega
      · simp; omega
    clear h
    go_enter Try.func19, Try.ntmps19
    go_wp2_with fail
    go_ret
    exact ⟨rfl, rfl⟩
set_option maxRecDepth 100000 in
set_option maxHeartbeats 1000000 in
theorem sCon_no (a b : Option Addr) (n m c1 c2 : Nat) (w : World) (h : NoCon n m) :
    Calls Try.prog 17 #[.slice a n c1, .slice b m c2] w fun e w' => e = .returned (.float .f64 0) ∧ w' = w := by
  by_cases h1 : 400 < n
  · have hz : (400 : Int) < (n : Int) := by omega
    clear h
    go_enter Try.func17, Try.ntmps17
    go_wp2_with fail
    go_ret
    exact ⟨rfl, rfl⟩
  have hz : ¬ (400 : Int) < (n : Int) := by omega
  by_cases h2 : 400 < m
  · have hz2 : (400 : Int) < (m : Int) := by omega
    clear h
    go_enter Try.func17, Try.ntmps17
    go_wp2_with fail
    go_ret
    exact ⟨rfl, rfl⟩
  have hz2 : ¬ (400 : Int) < (m : Int) := by omega
  have hne : ((n : Int) != (m : Int)) = true := by
    rcases h with h | h
    · omega
    · simp; omega
  clear h
  go_enter Try.func17, Try.ntmps17
  go_wp2_with fail
  go_ret
  exact ⟨rfl, rfl⟩
end Go.Proofs.Ytoeibcmmpbkbpaa
