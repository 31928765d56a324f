/-
  The program's bursts.
-/
import Derived.Test.YtlipgnjknfmikaaLkI2
namespace Go.Proofs.Ytlipgnjknfmikaa
open Go.RowKit Go.Deep
attribute [local go_sem] lrun_store_float

namespace Fl
theorem cnt_all_meas (zs : List Nat) (h : ∀ i, i < zs.length → measB (el zs i) = true) : cntTo zs zs.length = zs.length := by
  unfold cntTo
  rw [List.take_length, List.filter_eq_self.2]
  intro x hx
  obtain ⟨i, hi, rfl⟩ := List.mem_iff_getElem.1 hx
  have := h i hi
  unfold el at this
  rwa [List.getD_eq_getElem?_getD, List.getElem?_eq_getElem hi] at this
end Fl
theorem mean_eq (zs : List Nat) (n : Nat) (hl : zs.length = n) (h : ∀ i, i < zs.length → Fl.measB (Fl.el zs i) = true) (h0 : n ≠ 0) : meanF zs n = Fl.meanL zs := by
  subst hl
  unfold meanF Fl.meanL Fl.divW
  rw [Fl.cnt_all_meas zs h, if_neg h0, sumTo_all]

set_option maxHeartbeats 1000000 in
theorem spread_any (b n cap : Nat) (zs : List Nat) (m v : Nat) (w : World) (hl : zs.length = n) (hc : ∀ i, i < n → w.cell? ⟨b, i, none⟩ = some (.float .f64 (Fl.el zs i)))
    (hF : ∀ k, k < n → Fl.OffF m zs k) (hv : floatBits .quo .f64 (Fl.offTo m zs n) (floatOfInt .f64 (n : Int)) = some v) (hn : n ≤ 400) :
    Calls Try.prog 50 #[.slice (some ⟨b, 0, none⟩) n cap, .float .f64 m] w fun e w' => e = .returned (.float .f64 v) ∧ w' = w := by
  have hq := fun (wx : World) => run_float_arith (P := Try.prog) (w := wx) .quo 27 .f64 _ _ _ hv
  have HF := Lib.hid hF
  clear hF
  go_enter Try.func50, Try.ntmps50
  go_wp2
  go_loop [5, 7, 8, 11] (fun s _ _ i => ∃ k : Nat, k ≤ n ∧ i = .int .i64 k ∧ s = .float .f64 (Fl.offTo m zs k)) (fun _ _ _ i => n - (intOf i).toNat)
  case atStart => exact ⟨0, Nat.zero_le _, rfl, rfl⟩
  case round =>
    obtain ⟨k, hk, rfl, rfl⟩ := hrel
    by_cases hlt : k < n
    · have hltz : (k : Int) < (n : Int) := by omega
      have g1 := hc k hlt
      have q1 := fun (wx : World) => run_float_arith (P := Try.prog) (w := wx) .sub 27 .f64 _ _ _ (HF.out k hlt).sub
      have q2 := fun (wx : World) => run_float_arith (P := Try.prog) (w := wx) .mul 27 .f64 _ _ _ (HF.out k hlt).mul
      have q3 := fun (wx : World) => run_float_arith (P := Try.prog) (w := wx) .add 27 .f64 _ _ _ (HF.out k hlt).add
      clear hq
      go_wp2
      go_round
      case rel => exact ⟨k + 1, by omega, by go_num, rfl⟩
      case measure => simp [intOf]; omega
    · obtain rfl : k = n := by omega
      go_wp2
      go_ret
      exact ⟨rfl, rfl⟩

set_option maxHeartbeats 2000000 in
theorem far_any (b n cap : Nat) (zs : List Nat) (x t : Nat) (w : World) (hl : zs.length = n) (hc : ∀ i, i < n → w.cell? ⟨b, i, none⟩ = some (.float .f64 (Fl.el zs i)))
    (hx : Fl.measB x = true) (ht : Fl.measB t = true) (hm : ∀ i, i < zs.length → Fl.measB (Fl.el zs i) = true) (h0 : n ≠ 0) (hn : n ≤ 400) :
    Calls Try.prog 47 #[.float .f64 x, .slice (some ⟨b, 0, none⟩) n cap, .float .f64 t] w fun e w' => e = .returned (.tuple #[.float .f64 (Fl.subW x (Fl.meanL zs)), .bool (Fl.farB x t zs)]) ∧ w' = w := by
  have hFF := Fl.far_f hx ht hm (by omega) (by omega)
  have HFF := Lib.hid hFF
  have Hc := Lib.hid hc
  have Hm := Lib.hid hm
  have q1 := fun (wx : World) => run_float_arith (P := Try.prog) (w := wx) .sub 27 .f64 _ _ _ hFF.d
  have q2 := fun (wx : World) => run_float_arith (P := Try.prog) (w := wx) .mul 27 .f64 _ _ _ hFF.dd
  have q3 := fun (wx : World) => run_float_arith (P := Try.prog) (w := wx) .mul 27 .f64 _ _ _ hFF.tt
  have q4 := fun (wx : World) => run_float_arith (P := Try.prog) (w := wx) .mul 27 .f64 _ _ _ hFF.te
  clear hFF hc hm
  unfold Fl.farB Fl.gtW
  cases h1 : FloatKind.f64.format.order (Fl.subW x (Fl.meanL zs)) 0 == some .gt
  · go_enter Try.func47, Try.ntmps47
    go_wp2_with fail
    refine (implMean_any b n cap zs _ hl Hc.out hn).mono ?_
    rintro e w1 ⟨rfl, rfl⟩
    rw [mean_eq zs n hl Hm.out h0]
    go_wp2_with fail
    go_ret2
    exact ⟨rfl, rfl⟩
  · go_enter Try.func47, Try.ntmps47
    go_wp2_with fail
    refine (implMean_any b n cap zs _ hl Hc.out hn).mono ?_
    rintro e w1 ⟨rfl, rfl⟩
    rw [mean_eq zs n hl Hm.out h0]
    go_wp2_with fail
    refine (spread_any b n cap zs _ (Fl.varL zs) _ hl Hc.out (fun k hk => HFF.out.off k (by omega)) (by have := HFF.out.var; rw [hl] at this; exact this) hn).mono ?_
    rintro e w2 ⟨rfl, rfl⟩
    go_wp2_with fail
    go_ret2
    exact ⟨rfl, rfl⟩

/-- A burst, as a value. -/
abbrev buV (z : Int) (x : Nat) : Value := .agg #[.int .i64 z, .float .f64 x]
abbrev buL (z : Int) (x : Nat) : List Value := [.int .i64 z, .float .f64 x]
namespace Lk
def buAt (f : Nat → Nat) (s t n : Nat) : Int := match burst f s t n with
  | some i => (i : Int)
  | none => -1
def buAb (f : Nat → Nat) (s t n : Nat) : Nat := match burst f s t n with
  | some i => Fl.subW (f i) (Fl.meanL (lastN s (seen f i)))
  | none => 0
theorem bu_some {f : Nat → Nat} {s t n i : Nat} (h : burst f s t n = some i) : buAt f s t n = (i : Int) ∧ buAb f s t n = Fl.subW (f i) (Fl.meanL (lastN s (seen f i))) := by
  unfold buAt buAb; rw [h]; exact ⟨rfl, rfl⟩
theorem bu_none {f : Nat → Nat} {s t n : Nat} (h : burst f s t n = none) : buAt f s t n = -1 ∧ buAb f s t n = 0 := by
  unfold buAt buAb; rw [h]; exact ⟨rfl, rfl⟩
end Lk
/-- What stands between two reads of a search for bursts. -/
def FB (w : World) (s : Nat) (ys : List Nat) (W : World) : Prop := Win (w.heap.size + 1) s ys W ∧ W.rowIs w.heap.size 35 2 (rowL (buL 0 0)) ∧ Below w.heap.size w W
theorem FB.chg {w W W' : World} {s : Nat} {ys zs : List Nat} (h : FB w s ys W) (hw : Win (w.heap.size + 1) s zs W') (hc : Chg (w.heap.size + 1) W W') : FB w s zs W' :=
  ⟨hw, h.2.1.of_block (hc.2.2.2.2 _ h.2.1.lt (by omega)), h.2.2.trans (hc.below (by omega) h.2.2.size)⟩
theorem FB.below {w W W' : World} {s : Nat} {ys : List Nat} (h : FB w s ys W) (hb : Below W.heap.size W W') : FB w s ys W' :=
  ⟨wrow_below h.1 hb, wrow_below h.2.1 hb, h.2.2.trans (hb.mono h.2.2.size)⟩
/-- What a full window holds, as a list. -/
theorem full_cells {g s : Nat} {ys : List Nat} {W : World} (h : W.rowIs g 27 s (fun j => .float .f64 (Lk.slotR s ys j))) (hf : s ≤ ys.length) : ∀ i, i < s → W.cell? ⟨g, i, none⟩ = some (.float .f64 (Fl.el (Lk.lastN s ys) i)) := fun i hi => by
  rw [h.cell hi, Lk.slotR_full hf]

set_option maxHeartbeats 4000000 in
theorem firstBurst_any (gr n cap s t : Nat) (f : Nat → Nat) (w : World) (h : w.rowIs gr 27 n (fun j => .float .f64 (Lk.rd f j))) (hs : 2 ≤ s) (hs2 : s ≤ 400) (ht : Fl.measB t = true) (hn : n ≤ 400) :
    Calls Try.prog 37 #[.slice (some ⟨gr, 0, none⟩) n cap, .int .i64 s, .float .f64 t] w fun e w' => e = .returned (buV (Lk.buAt f s t n) (Lk.buAb f s t n)) ∧ Below w.heap.size w w' := by
  have hmk := mk_win s hs2 (w.alloc (.cells #[.int .i64 0, .float .f64 0] 35))
  have H := Lib.hid h
  have HS : Hid (FB w s [] ((w.alloc (.cells #[.int .i64 0, .float .f64 0] 35)).alloc (winO s))) := by
    refine ⟨?_, ?_, ?_⟩
    · have := made_win (w.alloc (.cells #[.int .i64 0, .float .f64 0] 35)) s
      simpa using this
    · exact wrow_below (rowL_alloc w (buL 0 0) 35) (bel_alloc _ _)
    · exact (bel_alloc _ _).alloc (by simp) _
  clear h
  go_enter Try.func37, Try.ntmps37
  go_wp2_with fail
  generalize ((w.alloc (.cells #[.int .i64 0, .float .f64 0] 35)).alloc (winO s)) = wS at *
  clear hmk
  go_loopw [8, 9, 10, 11, 16] (fun _ _ _ _ i wx => ∃ k : Nat, k ≤ n ∧ i = .int .i64 k ∧ Hid (Lk.burst f s t k = none) ∧ Hid (FB w s (Lk.seen f k) wx)) (fun _ _ _ _ i _ => n - (intOf i).toNat)
  case atStart => exact ⟨0, Nat.zero_le _, rfl, rfl, HS⟩
  case round =>
    obtain ⟨k, hk, rfl, hU, hN⟩ := hrel
    clear HS
    by_cases hlt : k < n
    · have hltz : (k : Int) < (n : Int) := by omega
      have hk0 : (0 : Int) ≤ (k : Int) := by omega
      have c0 := (hN.out.2.2.cell (p := ⟨gr, k, none⟩) H.out.lt).trans (H.out.cell hlt)
      cases hm : Fl.measB (f k)
      · have HE := Lib.hid (Lk.burst_none (f := f) (s := s) (t := t) hU.out (by unfold Lk.atB; rw [hm]; rfl))
        have HY := Lib.hid (Lk.seen_no hm)
        go_wp2_with fail
        refine (missing_no f k hm _).mono ?_
        rintro e w2 ⟨rfl, rfl⟩
        go_wp2_with fail
        go_roundw
        case rel => exact ⟨k + 1, by omega, by go_num, HE, by rw [HY.out]; exact hN⟩
        case measure => simp [intOf]; omega
      · have hrd : Lk.rd f k = f k := by unfold Lk.rd; rw [hm]; rfl
        have HY := Lib.hid (Lk.seen_yes hm)
        rw [hrd] at c0
        clear hrd
        go_wp2_with fail
        refine (missing_yes f k hm _).mono ?_
        rintro e w2 ⟨rfl, rfl⟩
        go_wp2_with fail
        refine (full_any _ _ _ _ hN.out.1 hs).mono ?_
        rintro e w3 ⟨rfl, rfl⟩
        by_cases hf : s ≤ (Lk.seen f k).length
        · have HF := Lib.hid hf
          have hd : decide (s ≤ (Lk.seen f k).length) = true := decide_eq_true hf
          rw [hd]
          clear hd hf c0
          go_wp2_with fail
          refine (wreads_any _ _ _ _ hN.out.1 hs hs2).mono ?_
          rintro e w4 ⟨rfl, hR, hB⟩
          have HN4 := Lib.hid (hN.out.below hB)
          have HR := Lib.hid hR
          clear hN hR hB
          go_wp2_with fail
          refine (far_any _ s _ (Lk.lastN s (Lk.seen f k)) (f k) t _ (Lk.lastN_len HF.out) (full_cells HR.out HF.out) hm ht (Lk.last_meas HF.out) (by omega) hs2).mono ?_
          rintro e w5 ⟨rfl, rfl⟩
          cases hfar : Fl.farB (f k) t (Lk.lastN s (Lk.seen f k))
          · have HE := Lib.hid (Lk.burst_none (f := f) (s := s) (t := t) hU.out (by unfold Lk.atB; rw [hfar, Bool.and_false, Bool.and_false]))
            go_wp2_with fail
            refine (see_any _ _ _ _ _ HN4.out.1 hs hs2).mono ?_
            rintro e w6 ⟨rfl, hW, hC⟩
            have HN6 := Lib.hid (HN4.out.chg hW hC)
            clear HN4 hW hC
            rw [← HY.out] at HN6
            go_wp2_with fail
            go_roundw
            case rel => exact ⟨k + 1, by omega, by go_num, HE, HN6⟩
            case measure => simp [intOf]; omega
          · have hE := Lk.burst_mono (Lk.burst_here (f := f) (s := s) (t := t) hU.out (by unfold Lk.atB; rw [hm, hfar, decide_eq_true HF.out]; rfl)) (show k + 1 ≤ n by omega)
            have HE1 := Lib.hid (Lk.bu_some hE).1
            have HE2 := Lib.hid (Lk.bu_some hE).2
            clear hE
            obtain ⟨c0, c1, f0, f1, l0⟩ := told2 HN4.out.2.1
            go_wp2_with fail
            refine bodyPost_ret (v := buV (k : Int) (Fl.subW (f k) (Fl.meanL (Lk.lastN s (Lk.seen f k))))) (by simp [results, Try.results37, go_sem, c0, c1]) rfl ⟨by rw [HE1.out, HE2.out], lbelow_set2 HN4.out.2.2 (Nat.le_refl _) _ _⟩
        · have hd : decide (s ≤ (Lk.seen f k).length) = false := decide_eq_false hf
          have HE := Lib.hid (Lk.burst_none (f := f) (s := s) (t := t) hU.out (by unfold Lk.atB; rw [hd, Bool.false_and, Bool.and_false]))
          rw [hd]
          clear hd hf
          go_wp2_with fail
          refine (see_any _ _ _ _ _ hN.out.1 hs hs2).mono ?_
          rintro e w6 ⟨rfl, hW, hC⟩
          have HN6 := Lib.hid (hN.out.chg hW hC)
          clear hN hW hC
          rw [← HY.out] at HN6
          go_wp2_with fail
          go_roundw
          case rel => exact ⟨k + 1, by omega, by go_num, HE, HN6⟩
          case measure => simp [intOf]; omega
    · obtain rfl : k = n := by omega
      have HE1 := Lib.hid (Lk.bu_none hU.out).1
      have HE2 := Lib.hid (Lk.bu_none hU.out).2
      obtain ⟨c0, c1, f0, f1, l0⟩ := told2 hN.out.2.1
      go_wp2_with fail
      exact bodyPost_ret (v := buV (-1) 0) (by simp [results, Try.results37, go_sem, c0, c1]) rfl ⟨by rw [HE1.out, HE2.out], lbelow_set2 hN.out.2.2 (Nat.le_refl _) _ _⟩
end Go.Proofs.Ytlipgnjknfmikaa
