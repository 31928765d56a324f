/-
  The program's night line.
-/
import Derived.Test.YtlipgnjknfmikaaLkI1
namespace Go.Proofs.Ytlipgnjknfmikaa
open Go.RowKit Go.Deep
attribute [local go_sem] lrun_store_float

theorem sumTo_all (zs : List Nat) : Fl.sumTo zs zs.length = Fl.sumL zs := by unfold Fl.sumTo Fl.sumL; rw [List.take_length]
/-- What a window and the reads hold between two reads. -/
def NL (w : World) (s n : Nat) (f : Nat → Nat) (ys : List Nat) (W : World) : Prop := Win w.heap.size s ys W ∧ W.rowIs (w.heap.size + 1) 27 n (fun j => .float .f64 (Lk.rd f j)) ∧ Below w.heap.size w W
theorem NL.chg {w W W' : World} {s n : Nat} {f : Nat → Nat} {ys zs : List Nat} (h : NL w s n f ys W) (hw : Win w.heap.size s zs W') (hc : Chg w.heap.size W W') : NL w s n f zs W' :=
  ⟨hw, h.2.1.of_block (hc.2.2.2.2 _ h.2.1.lt (by omega)), h.2.2.trans (hc.below (Nat.le_refl _) h.2.2.size)⟩
theorem NL.below {w W W' : World} {s n : Nat} {f : Nat → Nat} {ys : List Nat} (h : NL w s n f ys W) (hb : Below W.heap.size W W') : NL w s n f ys W' :=
  ⟨wrow_below h.1 hb, wrow_below h.2.1 hb, h.2.2.trans (hb.mono h.2.2.size)⟩
theorem linfo_sg : (Try.prog.info? 67).map (fun i => (i.zero, i.size, i.bytes)) = some (some (.agg #[.float .f64 0, .bool false]), 2, 16) := by kernel_rfl
/-- A new window. -/
def winO (s : Nat) : Obj := .cells (madeCells #[.float .f64 0, .bool false] (s * 2)) 67
theorem mk_win (s : Nat) (hs : s ≤ 400) (w : World) : (Instr.makeSlice 60 (.int .i64 (s : Int)) (.int .i64 (s : Int))).run Try.prog w = .ok (.slice (some ⟨w.heap.size, 0, none⟩) s s) (w.alloc (winO s)) := by
  obtain ⟨i0, hi, hz0, hz1, hz2⟩ := info_parts linfo_sg
  have := run_make (P := Try.prog) w 60 67 i0 _ Try.underlying60 hi hz0 .i64 .i64 s s (by omega) (Int.le_refl _) (by rw [hz2]; omega) (by omega)
  rw [hz1] at this
  simp only [Int.toNat_natCast] at this
  exact this
theorem made_win (w : World) (s : Nat) : Win w.heap.size s [] (w.alloc (winO s)) := by
  refine ⟨_, blk_alloc_new _ _, size_madeCells _ _, fun i hi => ?_⟩
  have e : wcell s [] i = if i % 2 = 0 then .float .f64 0 else .bool false := by
    unfold wcell; rw [Lk.slotR_nil (by omega), Lk.slotS_nil (by omega)]
  rw [e]
  have h5 : i % 2 = 0 ∨ i % 2 = 1 := by omega
  rcases h5 with k | k <;> simp [madeCells, hi, k]

theorem missing_no (f : Nat → Nat) (k : Nat) (hm : Fl.measB (f k) = false) (W : World) :
    Calls Try.prog 42 #[.float .f64 (Lk.rd f k)] W fun e w' => e = .returned (.bool true) ∧ w' = W := by
  refine (missing_any _ W).mono ?_
  rintro e w' ⟨rfl, rfl⟩
  rw [Lk.rd_order, hm]; exact ⟨rfl, rfl⟩
theorem missing_yes (f : Nat → Nat) (k : Nat) (hm : Fl.measB (f k) = true) (W : World) :
    Calls Try.prog 42 #[.float .f64 (f k)] W fun e w' => e = .returned (.bool false) ∧ w' = W := by
  refine (missing_any _ W).mono ?_
  rintro e w' ⟨rfl, rfl⟩
  have := Lk.rd_order f k
  rw [hm, show Lk.rd f k = f k by unfold Lk.rd; rw [hm]; rfl] at this
  rw [this]; exact ⟨rfl, rfl⟩
/-- The sum of what a full window holds. -/
theorem sumW_any (g s cap : Nat) (ys : List Nat) (W : World) (h : W.rowIs g 27 s (fun j => .float .f64 (Lk.slotR s ys j))) (hf : s ≤ ys.length) (hs : s ≤ 400) :
    Calls Try.prog 14 #[.slice (some ⟨g, 0, none⟩) s cap] W fun e w' => e = .returned (.float .f64 (Fl.sumL (Lk.lastN s ys))) ∧ w' = W := by
  refine (implSum_any g s cap (Lk.lastN s ys) W (Lk.lastN_len hf) (fun i hi => ?_) hs).mono ?_
  · rw [h.cell hi, Lk.slotR_full hf]
  · rintro e w' ⟨rfl, rfl⟩
    have := sumTo_all (Lk.lastN s ys)
    rw [Lk.lastN_len hf] at this
    rw [this]; exact ⟨rfl, rfl⟩

set_option maxHeartbeats 4000000 in
theorem nightLine_any (a : Option Addr) (n cap : Nat) (f : Nat → Nat) (w : World) (h : FlAt a n f w) (hn : n ≤ 400) :
    Calls Try.prog 29 #[.slice a n cap] w fun e w' => e = .returned (.tuple #[.int .i64 (Lk.best f n).1, .float .f64 (Lk.best f n).2]) ∧ Below w.heap.size w w' := by
  have hmk : (Instr.makeSlice 60 (.int .i64 4) (.int .i64 4)).run Try.prog w = .ok (.slice (some ⟨w.heap.size, 0, none⟩) 4 4) (w.alloc (winO 4)) := mk_win 4 (by omega) w
  have H := Lib.hid h
  clear h
  go_enter Try.func29, Try.ntmps29
  go_wp2_with (first | (go_at_call 38; refine (readsOf_any _ _ _ f _ (H.out.below (bel_alloc _ _)) hn).mono ?_))
  rintro e w1 ⟨rfl, hr1, hb1⟩
  have HN : Hid (NL w 4 n f [] w1) := ⟨wrow_below (made_win w 4) hb1, by simpa using hr1, (bel_alloc _ _).trans (hb1.mono (by simp))⟩
  clear hr1 hb1 hmk
  go_wp2_with fail
  go_loopw [4, 5, 7, 8, 9, 14] (fun av lv _ _ _ i wx => ∃ k : Nat, k ≤ n ∧ i = .int .i64 k ∧ av = .int .i64 (Lk.best f k).1 ∧ lv = .float .f64 (Lk.best f k).2 ∧ Hid (NL w 4 n f (Lk.run f k) wx)) (fun _ _ _ _ _ i _ => n - (intOf i).toNat)
  case atStart => exact ⟨0, Nat.zero_le _, rfl, rfl, rfl, HN⟩
  case round =>
    obtain ⟨k, hk, rfl, rfl, rfl, hN⟩ := hrel
    clear HN
    by_cases hlt : k < n
    · have hltz : (k : Int) < (n : Int) := by omega
      have hk0 : (0 : Int) ≤ (k : Int) := by omega
      have c0 := hN.out.2.1.cell hlt
      cases hm : Fl.measB (f k)
      · go_wp2_with fail
        refine (missing_no f k hm _).mono ?_
        rintro e w2 ⟨rfl, rfl⟩
        go_wp2_with fail
        refine (anew_any _ _ _ _ hN.out.1 (by omega)).mono ?_
        rintro e w3 ⟨rfl, hW, hC⟩
        have HN3 := Lib.hid (hN.out.chg hW hC)
        clear hN hW hC c0
        rw [← Lk.run_no hm] at HN3
        have HB : Hid (Lk.best f (k + 1) = Lk.best f k) := Lk.best_short (by rw [Lk.run_no hm]; decide)
        go_wp2
        go_roundw
        case rel => exact ⟨k + 1, by omega, by go_num, by rw [HB.out], by rw [HB.out], HN3⟩
        case measure => simp [intOf]; omega
      · have hrd : Lk.rd f k = f k := by unfold Lk.rd; rw [hm]; rfl
        rw [hrd] at c0
        clear hrd
        go_wp2_with fail
        refine (missing_yes f k hm _).mono ?_
        rintro e w2 ⟨rfl, rfl⟩
        go_wp2_with fail
        refine (see_any _ _ _ _ _ hN.out.1 (by omega) (by omega)).mono ?_
        rintro e w3 ⟨rfl, hW, hC⟩
        have HN3 := Lib.hid (hN.out.chg hW hC)
        clear hN hW hC c0
        rw [← Lk.run_yes hm] at HN3
        go_wp2_with fail
        refine (full_any _ _ _ _ HN3.out.1 (by omega)).mono ?_
        rintro e w4 ⟨rfl, rfl⟩
        by_cases hf : 4 ≤ (Lk.run f (k + 1)).length
        · have HF := Lib.hid hf
          have hd : decide (4 ≤ (Lk.run f (k + 1)).length) = true := decide_eq_true hf
          rw [hd]
          clear hd hf
          go_wp2_with fail
          refine (wreads_any _ _ _ _ HN3.out.1 (by omega) (by omega)).mono ?_
          rintro e w5 ⟨rfl, hR, hB⟩
          have HN5 := Lib.hid (HN3.out.below hB)
          have HR := Lib.hid hR
          clear HN3 hR hB
          go_wp2_with fail
          refine (sumW_any _ _ _ _ _ HR.out HF.out (by omega)).mono ?_
          rintro e w6 ⟨rfl, rfl⟩
          by_cases h1 : (Lk.best f k).1 = -1
          · have HB := Lib.hid (Lk.best_take HF.out (Or.inl h1))
            have h1b : ((Lk.best f k).1 == -1) = true := by rw [h1]; rfl
            clear h1
            go_wp2
            go_roundw
            case rel => exact ⟨k + 1, by omega, by go_num, by rw [HB.out], by rw [HB.out], HN5⟩
            case measure => simp [intOf]; omega
          · have h1b : ((Lk.best f k).1 == -1) = false := by simpa using h1
            cases h2 : Fl.ltW (Fl.sumL (Lk.lastN 4 (Lk.run f (k + 1)))) (Lk.best f k).2
            · have HB := Lib.hid (Lk.best_keep HF.out (by rw [h2]; simpa using h1))
              unfold Fl.ltW at h2
              clear h1
              go_wp2
              go_roundw
              case rel => exact ⟨k + 1, by omega, by go_num, by rw [HB.out], by rw [HB.out], HN5⟩
              case measure => simp [intOf]; omega
            · have HB := Lib.hid (Lk.best_take HF.out (Or.inr h2))
              unfold Fl.ltW at h2
              clear h1
              go_wp2
              go_roundw
              case rel => exact ⟨k + 1, by omega, by go_num, by rw [HB.out], by rw [HB.out], HN5⟩
              case measure => simp [intOf]; omega
        · have hd : decide (4 ≤ (Lk.run f (k + 1)).length) = false := decide_eq_false hf
          have HB : Hid (Lk.best f (k + 1) = Lk.best f k) := Lk.best_short (by omega)
          rw [hd]
          clear hd hf
          go_wp2
          go_roundw
          case rel => exact ⟨k + 1, by omega, by go_num, by rw [HB.out], by rw [HB.out], HN3⟩
          case measure => simp [intOf]; omega
    · obtain rfl : k = n := by omega
      go_wp2
      go_ret2
      exact ⟨rfl, hN.out.2.2⟩
end Go.Proofs.Ytlipgnjknfmikaa
