/-
  The contracts of the copy and the comparison of lists of float64, and of both packages' sums and means.
-/
import Derived.Test.YtlipgnjknfmikaaKeep
import Derived.Test.YtlipgnjknfmikaaSumMath
import Derived.Deep.OwnRows
import Derived.Deep.QuietTactic
import Derived.BigQuiet
namespace Go.Proofs.Ytlipgnjknfmikaa
open Go.RowKit Go.Deep

/-- A float is stored as any value of one cell. -/
theorem run_store_float {P : Program} {w : World} {a : Addr} {m : Mode} (k : FloatKind) (x : Nat) : (store a (.float k x) m).run P w = stored P w a (.float k x) m := run_store P w a _ m rfl
attribute [local go_sem] run_store_float

theorem info_f64 : (Try.prog.info? 27).map (fun i => (i.zero, i.size, i.bytes)) = some (some (.float .f64 0), 1, 8) := by kernel_rfl

set_option maxHeartbeats 1000000 in
theorem toF_any (a : Option Addr) (b off n cap : Nat) (zs : List Nat) (w : World) (ha : 0 < n → a = some ⟨b, off, none⟩) (hc : ∀ i, i < n → w.cell? ⟨b, off + i, none⟩ = some (.float .f64 (Fl.el zs i))) (hn : n ≤ 1048576) :
    Calls Try.prog 21 #[.slice a n cap] w fun e w' => e = .returned (.slice (some ⟨w.heap.size, 0, none⟩) n n) ∧ w'.rowIs w.heap.size 27 n (fun i => .float .f64 (Fl.el zs i)) ∧ Below w.heap.size w w' := by
  have hmk := run_make_row' (P := Try.prog) 23 27 (.float .f64 0) 8 Try.underlying23 info_f64 rfl .i64 .i64 n (by omega) (by omega)
  go_enter Try.func21, Try.ntmps21
  go_wp2
  clear hmk
  go_loopw [4] (fun i wx => ∃ k : Nat, k ≤ n ∧ i = .int .i64 k ∧ wx.rowIs w.heap.size 27 n (fun j => .float .f64 (if j < k then Fl.el zs j else 0)) ∧ Below w.heap.size w wx) (fun i _ => n - (intOf i).toNat)
  case atStart => exact ⟨0, Nat.zero_le _, rfl, (World.rowIs_made w (.float .f64 0) n 27).congr (fun i _ => by simp), (Below.refl _ _).alloc (Nat.le_refl _) _⟩
  case round =>
    obtain ⟨k, hk, rfl, hrow, hbel⟩ := hrel
    by_cases hlt : k < n
    · obtain rfl := ha (by omega)
      have hltz : (k : Int) < (n : Int) := by omega
      have hblt : b < w.heap.size := World.block_lt_of_cell? _ _ (hc k hlt)
      have c0 := (hbel.cell (p := ⟨b, off + k, none⟩) hblt).trans (hc k hlt)
      have c1 := hrow.cell hlt
      have c2 := hrow.frozen k
      have Hrow : Hid (World.rowIs _ w.heap.size 27 n _) := hrow
      clear hrow
      go_wp2
      go_roundw
      case rel => exact ⟨k + 1, by omega, by go_num, (Hrow.out.set k _).congr (fun j hj => by
        by_cases e : j = k
        · subst e; simp
        · rw [if_neg e]; congr 1; by_cases e2 : j < k
          · rw [if_pos e2, if_pos (by omega)]
          · rw [if_neg e2, if_neg (by omega)]), hbel.setCell (Nat.le_refl _) _⟩
      case measure => simp [intOf]; omega
    · obtain rfl : k = n := by omega
      have Hrow : Hid (World.rowIs _ w.heap.size 27 k _) := hrow
      clear hrow
      go_wp2
      go_ret
      exact ⟨rfl, Hrow.out.congr (fun j hj => by rw [if_pos hj]), hbel⟩

set_option maxHeartbeats 1000000 in
theorem eqF_any (b1 b2 n c1 c2 : Nat) (zs : List Nat) (w : World) (h1 : ∀ i, i < n → w.cell? ⟨b1, i, none⟩ = some (.float .f64 (Fl.el zs i))) (h2 : ∀ i, i < n → w.cell? ⟨b2, i, none⟩ = some (.float .f64 (Fl.el zs i))) (hn : n ≤ 1048576) :
    Calls Try.prog 23 #[.slice (some ⟨b1, 0, none⟩) n c1, .slice (some ⟨b2, 0, none⟩) n c2] w fun e w' => e = .returned (.bool true) ∧ ∃ m, w' = w.drewN m := by
  have hne : ((n : Int) != (n : Int)) = false := by simp
  go_enter Try.func23, Try.ntmps23
  go_wp2
  go_loopw [5] (fun i wx => ∃ k m : Nat, k ≤ n ∧ i = .int .i64 k ∧ wx = w.drewN m) (fun i _ => n - (intOf i).toNat)
  case atStart => exact ⟨0, 0, Nat.zero_le _, rfl, rfl⟩
  case round =>
    obtain ⟨k, m, hk, rfl, hw⟩ := hrel
    have Hw : Hid (_ = w.drewN m) := hw
    by_cases hlt : k < n
    · have hltz : (k : Int) < (n : Int) := by omega
      have hk0 : (0 : Int) ≤ (k : Int) := by omega
      have g1 : World.cell? _ ⟨b1, k, none⟩ = some (.float .f64 (Fl.el zs k)) := (congrArg (fun v => World.cell? v ⟨b1, k, none⟩) hw).trans (h1 k hlt)
      have g2 : World.cell? _ ⟨b2, k, none⟩ = some (.float .f64 (Fl.el zs k)) := (congrArg (fun v => World.cell? v ⟨b2, k, none⟩) hw).trans (h2 k hlt)
      clear hw
      go_wp2_with fail
      go_quiet ((go_at_call 22; exact Calls.quiet_of_same (same_any _ _)))
      go_wp2
      go_roundw
      case rel => exact ⟨k + 1, _, by omega, by go_num, by rw [Hw.out]; exact World.drewN_drewN _ _ _⟩
      case measure => simp [intOf]; omega
    · clear hw
      go_wp2
      go_ret
      exact ⟨rfl, m, Hw.out⟩

set_option maxHeartbeats 1000000 in
theorem specSum_any (b n cap : Nat) (zs : List Nat) (w : World) (hl : zs.length = n) (hc : ∀ i, i < n → w.cell? ⟨b, i, none⟩ = some (.float .f64 (Fl.el zs i))) (hn : n ≤ 400) :
    Calls Try.prog 31 #[.slice (some ⟨b, 0, none⟩) n cap] w fun e w' => e = .returned (.float .f64 (Fl.sumTo zs n)) ∧ w' = w := by
  have hnz : ¬ (400 : Int) < (n : Int) := by omega
  go_enter Try.func31, Try.ntmps31
  go_wp2
  go_loop [3, 4] (fun s i => ∃ k : Nat, k ≤ n ∧ i = .int .i64 k ∧ s = .float .f64 (Fl.sumTo zs k)) (fun _ i => n - (intOf i).toNat)
  case atStart => exact ⟨0, Nat.zero_le _, rfl, rfl⟩
  case round =>
    obtain ⟨k, hk, rfl, rfl⟩ := hrel
    by_cases hlt : k < n
    · have hltz : (k : Int) < (n : Int) := by omega
      have g1 := hc k hlt
      have hg := Fl.good_addF _ (Fl.el zs k) (Fl.good_sumTo zs k)
      have Hs : Hid (Fl.sumTo zs (k + 1) = Fl.addF (Fl.sumTo zs k) (Fl.el zs k)) := Fl.sumTo_succ zs k (by omega)
      cases hm : Fl.measB (Fl.el zs k)
      · have Ha : Hid (Fl.addF (Fl.sumTo zs k) (Fl.el zs k) = Fl.sumTo zs k) := by show _ = _; unfold Fl.addF; rw [hm]; rfl
        clear hg
        go_wp2_with (go_at_call 39; refine (specMeas_any _ _).mono ?_; rintro e w' ⟨rfl, rfl⟩)
        go_round
        case rel => exact ⟨k + 1, by omega, by go_num, by rw [Hs.out, Ha.out]⟩
        case measure => simp [intOf]; omega
      · have hq := fun (wx : World) => run_float_arith (P := Try.prog) (w := wx) .add 27 .f64 _ _ _ (hg.2 hm)
        clear hg
        go_wp2_with (go_at_call 39; refine (specMeas_any _ _).mono ?_; rintro e w' ⟨rfl, rfl⟩)
        go_round
        case rel => exact ⟨k + 1, by omega, by go_num, by rw [Hs.out]⟩
        case measure => simp [intOf]; omega
    · obtain rfl : k = n := by omega
      go_wp2
      go_ret
      exact ⟨rfl, rfl⟩

set_option maxHeartbeats 400000 in
theorem specSum_long (a : Option Addr) (n cap : Nat) (w : World) (hn : 400 < n) :
    Calls Try.prog 31 #[.slice a n cap] w fun e w' => e = .returned (.float .f64 0) ∧ w' = w := by
  have hnz : (400 : Int) < (n : Int) := by omega
  go_enter Try.func31, Try.ntmps31
  go_wp2
  go_ret
  exact ⟨rfl, rfl⟩

set_option maxHeartbeats 400000 in
theorem implSumM_long (a : Option Addr) (n cap : Nat) (w : World) (hn : 400 < n) :
    Calls Try.prog 32 #[.slice a n cap] w fun e w' => e = .returned (.tuple #[.float .f64 0, .int .i64 0]) ∧ w' = w := by
  have hnz : (400 : Int) < (n : Int) := by omega
  go_enter Try.func32, Try.ntmps32
  go_wp2
  go_ret2
  exact ⟨rfl, rfl⟩

set_option maxHeartbeats 1000000 in
theorem implSumM_any (b n cap : Nat) (zs : List Nat) (w : World) (hl : zs.length = n) (hc : ∀ i, i < n → w.cell? ⟨b, i, none⟩ = some (.float .f64 (Fl.el zs i))) (hn : n ≤ 400) :
    Calls Try.prog 32 #[.slice (some ⟨b, 0, none⟩) n cap] w fun e w' => e = .returned (.tuple #[.float .f64 (Fl.sumTo zs n), .int .i64 (Fl.cntTo zs n)]) ∧ w' = w := by
  have hnz : ¬ (400 : Int) < (n : Int) := by omega
  go_enter Try.func32, Try.ntmps32
  go_wp2
  go_loop [4, 5, 7, 13] (fun s c _ i => ∃ k : Nat, k ≤ n ∧ i = .int .i64 k ∧ s = .float .f64 (Fl.sumTo zs k) ∧ c = .int .i64 (Fl.cntTo zs k)) (fun _ _ _ i => n - (intOf i).toNat)
  case atStart => exact ⟨0, Nat.zero_le _, rfl, rfl, rfl⟩
  case round =>
    obtain ⟨k, hk, rfl, rfl, rfl⟩ := hrel
    by_cases hlt : k < n
    · have hltz : (k : Int) < (n : Int) := by omega
      have g1 := hc k hlt
      have hg := Fl.good_addF _ (Fl.el zs k) (Fl.good_sumTo zs k)
      have Hs : Hid (Fl.sumTo zs (k + 1) = Fl.addF (Fl.sumTo zs k) (Fl.el zs k)) := Fl.sumTo_succ zs k (by omega)
      have Hc : Hid (Fl.cntTo zs (k + 1) = Fl.cntTo zs k + if Fl.measB (Fl.el zs k) then 1 else 0) := Fl.cntTo_succ zs k (by omega)
      have hcl := Fl.cntTo_le zs k
      cases hm : Fl.measB (Fl.el zs k)
      · have Ha : Hid (Fl.addF (Fl.sumTo zs k) (Fl.el zs k) = Fl.sumTo zs k) := by show _ = _; unfold Fl.addF; rw [hm]; rfl
        clear hg
        go_wp2_with (go_at_call 36; refine (implMeas_any _ _).mono ?_; rintro e w' ⟨rfl, rfl⟩)
        go_round
        case rel => exact ⟨k + 1, by omega, by go_num, by rw [Hs.out, Ha.out], by rw [Hc.out, hm]; rfl⟩
        case measure => simp [intOf]; omega
      · have hq := fun (wx : World) => run_float_arith (P := Try.prog) (w := wx) .add 27 .f64 _ _ _ (hg.2 hm)
        clear hg
        go_wp2_with (go_at_call 36; refine (implMeas_any _ _).mono ?_; rintro e w' ⟨rfl, rfl⟩)
        go_round
        case rel => exact ⟨k + 1, by omega, by go_num, by rw [Hs.out], by rw [Hc.out, hm]; rfl⟩
        case measure => simp [intOf]; omega
    · obtain rfl : k = n := by omega
      go_wp2
      go_ret2
      exact ⟨rfl, rfl⟩

set_option maxHeartbeats 400000 in
theorem implSum_long (a : Option Addr) (n cap : Nat) (w : World) (hn : 400 < n) :
    Calls Try.prog 14 #[.slice a n cap] w fun e w' => e = .returned (.float .f64 0) ∧ w' = w := by
  go_enter Try.func14, Try.ntmps14
  go_wp2_with fail
  refine (implSumM_long _ _ _ _ hn).mono ?_
  rintro e w' ⟨rfl, rfl⟩
  go_wp2_with fail
  go_ret
  exact ⟨rfl, rfl⟩

set_option maxHeartbeats 400000 in
theorem implSum_any (b n cap : Nat) (zs : List Nat) (w : World) (hl : zs.length = n) (hc : ∀ i, i < n → w.cell? ⟨b, i, none⟩ = some (.float .f64 (Fl.el zs i))) (hn : n ≤ 400) :
    Calls Try.prog 14 #[.slice (some ⟨b, 0, none⟩) n cap] w fun e w' => e = .returned (.float .f64 (Fl.sumTo zs n)) ∧ w' = w := by
  have Hc : Hid (∀ i, i < n → w.cell? ⟨b, i, none⟩ = some (.float .f64 (Fl.el zs i))) := hc
  have Hl : Hid (zs.length = n) := hl
  clear hc hl
  go_enter Try.func14, Try.ntmps14
  go_wp2_with fail
  refine (implSumM_any b n cap zs _ Hl.out Hc.out hn).mono ?_
  rintro e w' ⟨rfl, rfl⟩
  go_wp2_with fail
  go_ret
  exact ⟨rfl, rfl⟩

/-- The mean of the measures. -/
def meanF (zs : List Nat) (n : Nat) : Nat := if Fl.cntTo zs n = 0 then 0 else (floatBits .quo .f64 (Fl.sumTo zs n) (floatOfInt .f64 (Fl.cntTo zs n : Int))).getD 0

theorem meanF_zero (zs : List Nat) (n : Nat) (h : Fl.cntTo zs n = 0) : meanF zs n = 0 := by unfold meanF; rw [if_pos h]
theorem meanF_quo (zs : List Nat) (n : Nat) (h : Fl.cntTo zs n ≠ 0) (hn : n ≤ 400) : floatBits .quo .f64 (Fl.sumTo zs n) (floatOfInt .f64 (Fl.cntTo zs n : Int)) = some (meanF zs n) := by
  unfold meanF
  rw [if_neg h]
  obtain ⟨r, hr⟩ := Fl.mean_some zs n (Fl.cntTo zs n) h (by have := Fl.cntTo_le zs n; omega)
  rw [hr]; rfl

set_option maxHeartbeats 400000 in
theorem implMean_long (a : Option Addr) (n cap : Nat) (w : World) (hn : 400 < n) :
    Calls Try.prog 49 #[.slice a n cap] w fun e w' => e = .returned (.float .f64 0) ∧ w' = w := by
  go_enter Try.func49, Try.ntmps49
  go_wp2_with fail
  refine (implSumM_long _ _ _ _ hn).mono ?_
  rintro e w' ⟨rfl, rfl⟩
  go_wp2_with fail
  go_ret
  exact ⟨rfl, rfl⟩

set_option maxHeartbeats 400000 in
theorem implMean_any (b n cap : Nat) (zs : List Nat) (w : World) (hl : zs.length = n) (hc : ∀ i, i < n → w.cell? ⟨b, i, none⟩ = some (.float .f64 (Fl.el zs i))) (hn : n ≤ 400) :
    Calls Try.prog 49 #[.slice (some ⟨b, 0, none⟩) n cap] w fun e w' => e = .returned (.float .f64 (meanF zs n)) ∧ w' = w := by
  have Hc : Hid (∀ i, i < n → w.cell? ⟨b, i, none⟩ = some (.float .f64 (Fl.el zs i))) := hc
  have Hl : Hid (zs.length = n) := hl
  clear hc hl
  by_cases h0 : Fl.cntTo zs n = 0
  · rw [meanF_zero zs n h0]
    have hz : (((Fl.cntTo zs n : Nat) : Int) == 0) = true := by simp; omega
    have H0 : Hid (Fl.cntTo zs n = 0) := h0
    clear h0
    go_enter Try.func49, Try.ntmps49
    go_wp2_with fail
    refine (implSumM_any b n cap zs _ Hl.out Hc.out hn).mono ?_
    rintro e w' ⟨rfl, rfl⟩
    go_wp2_with fail
    go_ret
    exact ⟨rfl, rfl⟩
  · have hq := fun (wx : World) => run_float_arith (P := Try.prog) (w := wx) .quo 27 .f64 _ _ _ (meanF_quo zs n h0 hn)
    have hz : (((Fl.cntTo zs n : Nat) : Int) == 0) = false := by simp; omega
    go_enter Try.func49, Try.ntmps49
    go_wp2_with fail
    refine (implSumM_any b n cap zs _ Hl.out Hc.out hn).mono ?_
    rintro e w' ⟨rfl, rfl⟩
    go_wp2_with fail
    go_ret
    exact ⟨rfl, rfl⟩

set_option maxHeartbeats 1000000 in
theorem specMean_any (b n cap : Nat) (zs : List Nat) (w : World) (hl : zs.length = n) (hc : ∀ i, i < n → w.cell? ⟨b, i, none⟩ = some (.float .f64 (Fl.el zs i))) (hn : n ≤ 400) :
    Calls Try.prog 40 #[.slice (some ⟨b, 0, none⟩) n cap] w fun e w' => e = .returned (.float .f64 (meanF zs n)) ∧ w' = w := by
  have hnz : (n : Int) ≤ 400 := by omega
  go_enter Try.func40, Try.ntmps40
  go_wp2
  go_loop [3, 4] (fun c i => ∃ k : Nat, k ≤ n ∧ i = .int .i64 k ∧ c = .int .i64 (Fl.cntTo zs k)) (fun _ i => n - (intOf i).toNat)
  case atStart => exact ⟨0, Nat.zero_le _, rfl, rfl⟩
  case round =>
    obtain ⟨k, hk, rfl, rfl⟩ := hrel
    by_cases hlt : k < n
    · have hltz : (k : Int) < (n : Int) := by omega
      have g1 := hc k hlt
      have Hc : Hid (Fl.cntTo zs (k + 1) = Fl.cntTo zs k + if Fl.measB (Fl.el zs k) then 1 else 0) := Fl.cntTo_succ zs k (by omega)
      have hcl := Fl.cntTo_le zs k
      cases hm : Fl.measB (Fl.el zs k)
      · go_wp2_with (go_at_call 39; refine (specMeas_any _ _).mono ?_; rintro e w' ⟨rfl, rfl⟩)
        go_round
        case rel => exact ⟨k + 1, by omega, by go_num, by rw [Hc.out, hm]; rfl⟩
        case measure => simp [intOf]; omega
      · go_wp2_with (go_at_call 39; refine (specMeas_any _ _).mono ?_; rintro e w' ⟨rfl, rfl⟩)
        go_round
        case rel => exact ⟨k + 1, by omega, by go_num, by rw [Hc.out, hm]; rfl⟩
        case measure => simp [intOf]; omega
    · obtain rfl : k = n := by omega
      have hlz : decide ((k : Int) < (k : Int)) = false := by simp
      have Hc : Hid (∀ i, i < k → w.cell? ⟨b, i, none⟩ = some (.float .f64 (Fl.el zs i))) := hc
      have Hl : Hid (zs.length = k) := hl
      clear hc hl
      by_cases h0 : Fl.cntTo zs k = 0
      · have hz : (((Fl.cntTo zs k : Nat) : Int) == 0) = true := by simp; omega
        have H0 : Hid (Fl.cntTo zs k = 0) := h0
        clear h0
        go_wp2_with fail
        go_ret
        exact ⟨by rw [meanF_zero zs k H0.out]; rfl, rfl⟩
      · have hq := fun (wx : World) => run_float_arith (P := Try.prog) (w := wx) .quo 27 .f64 _ _ _ (meanF_quo zs k h0 hn)
        have hz : (((Fl.cntTo zs k : Nat) : Int) == 0) = false := by simp; omega
        go_wp2_with fail
        refine (specSum_any b k cap zs _ Hl.out Hc.out hn).mono ?_
        rintro e w' ⟨rfl, rfl⟩
        go_wp2_with fail
        go_ret
        exact ⟨rfl, rfl⟩

set_option maxHeartbeats 400000 in
theorem specMean_long (a : Option Addr) (n cap : Nat) (w : World) (hn : 400 < n) :
    Calls Try.prog 40 #[.slice a n cap] w fun e w' => e = .returned (.float .f64 0) ∧ w' = w := by
  have hnz : (400 : Int) < (n : Int) := by omega
  have h0 : (0 : Int) < (n : Int) := by omega
  go_enter Try.func40, Try.ntmps40
  go_wp2
  refine wp_loop_rounds 1 ?_
  rw [rounds_succ]
  go_wp2
  go_ret
  exact ⟨rfl, rfl⟩
end Go.Proofs.Ytlipgnjknfmikaa
