/-
  The model's sums and tests of parts of a list; its night line.
-/
import Derived.Test.YtlipgnjknfmikaaLkI2
namespace Go.Proofs.Ytlipgnjknfmikaa
open Go.RowKit Go.Deep
attribute [local go_sem] lrun_store_float

/-- Floats from a place on. -/
def FlO (g off n : Nat) (zs : List Nat) (w : World) : Prop := zs.length = n ∧ ∀ i, i < n → w.cell? ⟨g, off + i, none⟩ = some (.float .f64 (Fl.el zs i))
set_option maxHeartbeats 1000000 in
theorem ospecSum_any (b off n cap : Nat) (zs : List Nat) (w : World) (h : FlO b off n zs w) (hn : n ≤ 400) :
    Calls Try.prog 31 #[.slice (some ⟨b, off, none⟩) n cap] w fun e w' => e = .returned (.float .f64 (Fl.sumL zs)) ∧ w' = w := by
  have hnz : ¬ (400 : Int) < (n : Int) := by omega
  obtain ⟨hl, hc⟩ := h
  go_enter Try.func31, Try.ntmps31
  go_wp2
  go_loop [3, 4] (fun s i => ∃ k : Nat, k ≤ n ∧ i = .int .i64 k ∧ s = .float .f64 (Fl.sumTo zs k)) (fun _ i => n - (intOf i).toNat)
  case atStart => exact ⟨0, Nat.zero_le _, rfl, rfl⟩
  case round =>
    obtain ⟨k, hk, rfl, rfl⟩ := hrel
    by_cases hlt : k < n
    · have hltz : (k : Int) < (n : Int) := by omega
      have g1 := hc k hlt
      have hg := Fl.good_addF _ (Fl.el zs k) (Fl.good_sumTo zs k)
      have Hs : Hid (Fl.sumTo zs (k + 1) = Fl.addF (Fl.sumTo zs k) (Fl.el zs k)) := Fl.sumTo_succ zs k (by omega)
      cases hm : Fl.measB (Fl.el zs k)
      · have Ha : Hid (Fl.addF (Fl.sumTo zs k) (Fl.el zs k) = Fl.sumTo zs k) := by show _ = _; unfold Fl.addF; rw [hm]; rfl
        clear hg
        go_wp2_with (go_at_call 39; refine (specMeas_any _ _).mono ?_; rintro e w' ⟨rfl, rfl⟩)
        go_round
        case rel => exact ⟨k + 1, by omega, by go_num, by rw [Hs.out, Ha.out]⟩
        case measure => simp [intOf]; omega
      · have hq := fun (wx : World) => run_float_arith (P := Try.prog) (w := wx) .add 27 .f64 _ _ _ (hg.2 hm)
        clear hg
        go_wp2_with (go_at_call 39; refine (specMeas_any _ _).mono ?_; rintro e w' ⟨rfl, rfl⟩)
        go_round
        case rel => exact ⟨k + 1, by omega, by go_num, by rw [Hs.out]⟩
        case measure => simp [intOf]; omega
    · obtain rfl : k = n := by omega
      have HE : Hid (Fl.sumTo zs k = Fl.sumL zs) := by show _ = _; rw [← sumTo_all, hl]
      go_wp2
      go_ret
      exact ⟨by rw [HE.out]; rfl, rfl⟩

set_option maxHeartbeats 1000000 in
theorem omeasures_any (b off n cap : Nat) (f : Nat → Nat) (w : World) (hc : ∀ i, i < n → w.cell? ⟨b, off + i, none⟩ = some (.float .f64 (f i))) (hn : n ≤ 400) :
    Calls Try.prog 30 #[.slice (some ⟨b, off, none⟩) n cap] w fun e w' => e = .returned (.bool (Fl.allB f n)) ∧ w' = w := by
  go_enter Try.func30, Try.ntmps30
  go_wp2
  go_loop [3] (fun i => ∃ k : Nat, k ≤ n ∧ i = .int .i64 k ∧ Hid (Fl.allB f k = true)) (fun i => n - (intOf i).toNat)
  case atStart => exact ⟨0, Nat.zero_le _, rfl, rfl⟩
  case round =>
    obtain ⟨k, hk, rfl, hA⟩ := hrel
    by_cases hlt : k < n
    · have hltz : (k : Int) < (n : Int) := by omega
      have g1 := hc k hlt
      cases hm : Fl.measB (f k)
      · have HN := Lib.hid (Fl.allB_no hlt hm)
        go_wp2_with (go_at_call 39; refine (specMeas_any _ _).mono ?_; rintro e w' ⟨rfl, rfl⟩)
        go_ret
        exact ⟨by rw [HN.out]; rfl, rfl⟩
      · go_wp2_with (go_at_call 39; refine (specMeas_any _ _).mono ?_; rintro e w' ⟨rfl, rfl⟩)
        go_round
        case rel => exact ⟨k + 1, by omega, by go_num, by show (Fl.allB f k && Fl.measB (f k)) = true; rw [hA.out, hm]; rfl⟩
        case measure => simp [intOf]; omega
    · obtain rfl : k = n := by omega
      go_wp2
      go_ret
      exact ⟨by rw [hA.out]; rfl, rfl⟩

theorem m4_all (f : Nat → Nat) (i : Nat) : Fl.allB (fun j => f (i + j)) 4 = Lk.m4 f i := by
  rw [Bool.eq_iff_iff]
  constructor
  · intro h; exact List.all_eq_true.2 (fun j hj => Fl.allB_at h j (List.mem_range.1 hj))
  · intro h; exact Fl.allB_of (fun j hj => List.all_eq_true.1 h j (List.mem_range.2 hj))
theorem m4_any (b i cap : Nat) (f : Nat → Nat) (w : World) (hc : ∀ j, j < 4 → w.cell? ⟨b, i + j, none⟩ = some (.float .f64 (f (i + j)))) :
    Calls Try.prog 30 #[.slice (some ⟨b, i, none⟩) 4 cap] w fun e w' => e = .returned (.bool (Lk.m4 f i)) ∧ w' = w := by
  rw [← m4_all]
  exact omeasures_any b i 4 cap (fun j => f (i + j)) w hc (by omega)
theorem w4_any (b i cap : Nat) (f : Nat → Nat) (w : World) (hc : ∀ j, j < 4 → w.cell? ⟨b, i + j, none⟩ = some (.float .f64 (f (i + j)))) :
    Calls Try.prog 31 #[.slice (some ⟨b, i, none⟩) 4 cap] w fun e w' => e = .returned (.float .f64 (Fl.sumL (Lk.w4 f i))) ∧ w' = w :=
  ospecSum_any b i 4 cap (Lk.w4 f i) w ⟨rfl, fun j hj => by
    rw [hc j hj]
    match j, hj with
    | 0, _ => rfl
    | 1, _ => rfl
    | 2, _ => rfl
    | 3, _ => rfl⟩ (by omega)

set_option maxHeartbeats 4000000 in
theorem sNightAt_any (a : Option Addr) (n cap : Nat) (f : Nat → Nat) (w : World) (h : FlAt a n f w) (hcap : n ≤ cap) (hn : n ≤ 400) :
    Calls Try.prog 11 #[.slice a n cap] w fun e w' => e = .returned (.int .i64 (Lk.best f n).1) ∧ w' = w := by
  have hnz : ¬ (400 : Int) < (n : Int) := by omega
  have H := Lib.hid h
  clear h
  go_enter Try.func11, Try.ntmps11
  go_wp2
  go_loop [3, 4, 5, 6, 7] (fun av lv i _ _ => ∃ k : Nat, k + 3 ≤ max n 3 ∧ i = .int .i64 k ∧ av = .int .i64 (Lk.best f (k + 3)).1 ∧ lv = .float .f64 (Lk.best f (k + 3)).2) (fun _ _ i _ _ => n - (intOf i).toNat)
  case atStart => exact ⟨0, by omega, rfl, by rw [Lk.best_low 3 (by omega)], by rw [Lk.best_low 3 (by omega)]⟩
  case round =>
    obtain ⟨k, hk, rfl, rfl, rfl⟩ := hrel
    by_cases hlt : k + 4 ≤ n
    · have hltz : (k : Int) + 4 ≤ (n : Int) := by omega
      have hk0 : (0 : Int) ≤ (k : Int) := by omega
      have hc4 : (k : Int) + 4 ≤ (cap : Int) := by omega
      obtain ⟨g, rfl, _⟩ := H.out.at_ (i := k) (by omega)
      have HC : Hid (∀ j, j < 4 → w.cell? ⟨g, k + j, none⟩ = some (.float .f64 (f (k + j)))) := fun j hj => by
        obtain ⟨g2, e, hc⟩ := H.out.at_ (i := k + j) (by omega)
        cases e; exact hc
      go_wp2_with fail
      refine (m4_any g k _ f _ HC.out).mono ?_
      rintro e w2 ⟨rfl, rfl⟩
      cases hm : Lk.m4 f k
      · have HB := Lib.hid (Lk.best_no hm)
        go_wp2
        go_round
        case rel => exact ⟨k + 1, by omega, by go_num, by rw [HB.out], by rw [HB.out]⟩
        case measure => simp [intOf]; omega
      · go_wp2_with fail
        refine (w4_any g k _ f _ HC.out).mono ?_
        rintro e w3 ⟨rfl, rfl⟩
        by_cases h1 : (Lk.best f (k + 3)).1 = -1
        · have HB := Lib.hid (Lk.best_yes hm (Or.inl h1))
          have h1b : ((Lk.best f (k + 3)).1 == -1) = true := by rw [h1]; rfl
          clear h1
          go_wp2
          go_round
          case rel => exact ⟨k + 1, by omega, by go_num, by rw [HB.out], by rw [HB.out]⟩
          case measure => simp [intOf]; omega
        · have h1b : ((Lk.best f (k + 3)).1 == -1) = false := by simpa using h1
          cases h2 : Fl.ltW (Fl.sumL (Lk.w4 f k)) (Lk.best f (k + 3)).2
          · have HB := Lib.hid (Lk.best_stay hm (by rw [h2]; simpa using h1))
            unfold Fl.ltW at h2
            clear h1
            go_wp2
            go_round
            case rel => exact ⟨k + 1, by omega, by go_num, by rw [HB.out], by rw [HB.out]⟩
            case measure => simp [intOf]; omega
          · have HB := Lib.hid (Lk.best_yes hm (Or.inr h2))
            unfold Fl.ltW at h2
            clear h1
            go_wp2
            go_round
            case rel => exact ⟨k + 1, by omega, by go_num, by rw [HB.out], by rw [HB.out]⟩
            case measure => simp [intOf]; omega
    · have HE : Hid (Lk.best f (k + 3) = Lk.best f n) := by
        show _ = _
        by_cases e : k + 3 = n
        · rw [e]
        · rw [Lk.best_low (k + 3) (by omega), Lk.best_low n (by omega)]
      have hltz : ¬ (k : Int) + 4 ≤ (n : Int) := by omega
      go_wp2
      go_ret
      exact ⟨by rw [HE.out]; rfl, rfl⟩
theorem sNightAt_long (a : Option Addr) (n cap : Nat) (w : World) (hn : 400 < n) :
    Calls Try.prog 11 #[.slice a n cap] w fun e w' => e = .returned (.int .i64 0) ∧ w' = w := by
  have hnz : (400 : Int) < (n : Int) := by omega
  go_enter Try.func11, Try.ntmps11
  go_wp2
  go_ret
  exact ⟨rfl, rfl⟩
set_option maxHeartbeats 1000000 in
theorem sNightLine_any (a : Option Addr) (n cap : Nat) (f : Nat → Nat) (w : World) (h : FlAt a n f w) (hcap : n ≤ cap) (hn : n ≤ 400) :
    Calls Try.prog 20 #[.slice a n cap] w fun e w' => e = .returned (.float .f64 (Lk.lineW f n)) ∧ w' = w := by
  have hnz : ¬ (400 : Int) < (n : Int) := by omega
  have H := Lib.hid h
  clear h
  go_enter Try.func20, Try.ntmps20
  go_wp2_with fail
  refine (sNightAt_any a n cap f w H.out hcap hn).mono ?_
  rintro e w2 ⟨rfl, rfl⟩
  rcases Lk.best_f f n with ⟨hb, _⟩ | ⟨i, hi, hm, hb, _⟩
  · have HE : Hid (Lk.lineW f n = 0) := by show _ = _; unfold Lk.lineW; rw [hb]; exact Lk.zero_four
    rw [hb]
    go_wp2
    go_ret
    exact ⟨by rw [HE.out]; rfl, rfl⟩
  · have hq := fun (wx : World) => run_float_arith (P := Try.prog) (w := wx) .quo 27 .f64 _ _ _ (Lk.line_some f n).1
    rw [hb] at hq ⊢
    have hk0 : (0 : Int) ≤ (i : Int) := by omega
    have hc4 : (i : Int) + 4 ≤ (cap : Int) := by omega
    obtain ⟨g, rfl, _⟩ := H.out.at_ (i := i) (by omega)
    have HC : Hid (∀ j, j < 4 → w2.cell? ⟨g, i + j, none⟩ = some (.float .f64 (f (i + j)))) := fun j hj => by
      obtain ⟨g2, e, hc⟩ := H.out.at_ (i := i + j) (by omega)
      cases e; exact hc
    unfold Lk.four at hq
    go_wp2_with fail
    refine (w4_any g i _ f _ HC.out).mono ?_
    rintro e w3 ⟨rfl, rfl⟩
    go_wp2
    go_ret
    exact ⟨rfl, rfl⟩
theorem sNightLine_long (a : Option Addr) (n cap : Nat) (w : World) (hn : 400 < n) :
    Calls Try.prog 20 #[.slice a n cap] w fun e w' => e = .returned (.float .f64 0) ∧ w' = w := by
  have hnz : (400 : Int) < (n : Int) := by omega
  go_enter Try.func20, Try.ntmps20
  go_wp2
  go_ret
  exact ⟨rfl, rfl⟩
set_option maxHeartbeats 1000000 in
theorem iNightLine_any (a : Option Addr) (n cap : Nat) (f : Nat → Nat) (w : World) (h : FlAt a n f w) (hn : n ≤ 400) :
    Calls Try.prog 13 #[.slice a n cap] w fun e w' => e = .returned (.float .f64 (Lk.lineW f n)) ∧ Below w.heap.size w w' := by
  have hnz : ¬ (400 : Int) < (n : Int) := by omega
  have hq := fun (wx : World) => run_float_arith (P := Try.prog) (w := wx) .quo 27 .f64 _ _ _ (Lk.line_some f n).1
  unfold Lk.four at hq
  have H := Lib.hid h
  clear h
  go_enter Try.func13, Try.ntmps13
  go_wp2_with fail
  refine (nightLine_any a n cap f w H.out hn).mono ?_
  rintro e w2 ⟨rfl, hB⟩
  have HB := Lib.hid hB
  clear hB
  go_wp2
  go_ret
  exact ⟨rfl, HB.out⟩
theorem iNightLine_long (a : Option Addr) (n cap : Nat) (w : World) (hn : 400 < n) :
    Calls Try.prog 13 #[.slice a n cap] w fun e w' => e = .returned (.float .f64 0) ∧ w' = w := by
  have hnz : (400 : Int) < (n : Int) := by omega
  go_enter Try.func13, Try.ntmps13
  go_wp2
  go_ret
  exact ⟨rfl, rfl⟩
set_option maxHeartbeats 1000000 in
theorem iNightAt_any (a : Option Addr) (n cap : Nat) (f : Nat → Nat) (w : World) (h : FlAt a n f w) (hn : n ≤ 400) :
    Calls Try.prog 10 #[.slice a n cap] w fun e w' => e = .returned (.int .i64 (Lk.best f n).1) ∧ Below w.heap.size w w' := by
  have hnz : ¬ (400 : Int) < (n : Int) := by omega
  have H := Lib.hid h
  clear h
  go_enter Try.func10, Try.ntmps10
  go_wp2_with fail
  refine (nightLine_any a n cap f w H.out hn).mono ?_
  rintro e w2 ⟨rfl, hB⟩
  have HB := Lib.hid hB
  clear hB
  go_wp2
  go_ret
  exact ⟨rfl, HB.out⟩
theorem iNightAt_long (a : Option Addr) (n cap : Nat) (w : World) (hn : 400 < n) :
    Calls Try.prog 10 #[.slice a n cap] w fun e w' => e = .returned (.int .i64 0) ∧ w' = w := by
  have hnz : (400 : Int) < (n : Int) := by omega
  go_enter Try.func10, Try.ntmps10
  go_wp2
  go_ret
  exact ⟨rfl, rfl⟩
end Go.Proofs.Ytlipgnjknfmikaa
