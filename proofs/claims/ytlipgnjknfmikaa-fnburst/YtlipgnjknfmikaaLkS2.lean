/-
  The model's means of parts of a list; its bursts.
-/
import Derived.Test.YtlipgnjknfmikaaLkS1
import Derived.Test.YtlipgnjknfmikaaLkI4
import Derived.Test.YtlipgnjknfmikaaLkOwn
namespace Go.Proofs.Ytlipgnjknfmikaa
open Go.RowKit Go.Deep
attribute [local go_sem] lrun_store_float

set_option maxHeartbeats 1000000 in
theorem ospecMean_any (b off n cap : Nat) (zs : List Nat) (w : World) (h : FlO b off n zs w) (hm : ∀ i, i < zs.length → Fl.measB (Fl.el zs i) = true) (h0 : n ≠ 0) (hn : n ≤ 400) :
    Calls Try.prog 40 #[.slice (some ⟨b, off, none⟩) n cap] w fun e w' => e = .returned (.float .f64 (Fl.meanL zs)) ∧ w' = w := by
  have hnz : (n : Int) ≤ 400 := by omega
  have HO := Lib.hid h
  obtain ⟨hl, hc⟩ := h
  have hq := fun (wx : World) => run_float_arith (P := Try.prog) (w := wx) .quo 27 .f64 _ _ _ (Fl.meanL_bd (ys := zs) (by omega) (by omega)).1
  rw [hl] at hq
  have HM := Lib.hid hm
  clear hm
  go_enter Try.func40, Try.ntmps40
  go_wp2
  go_loop [3, 4] (fun c i => ∃ k : Nat, k ≤ n ∧ i = .int .i64 k ∧ c = .int .i64 k) (fun _ i => n - (intOf i).toNat)
  case atStart => exact ⟨0, Nat.zero_le _, rfl, rfl⟩
  case round =>
    obtain ⟨k, hk, rfl, rfl⟩ := hrel
    by_cases hlt : k < n
    · have hltz : (k : Int) < (n : Int) := by omega
      have g1 := hc k hlt
      have hm := HM.out k (by omega)
      go_wp2_with (go_at_call 39; refine (specMeas_any _ _).mono ?_; rintro e w' ⟨rfl, rfl⟩)
      go_round
      case rel => exact ⟨k + 1, by omega, by go_num, by go_num⟩
      case measure => simp [intOf]; omega
    · obtain rfl : k = n := by omega
      have hlz : decide ((k : Int) < (k : Int)) = false := by simp
      have hz : ((k : Int) == 0) = false := by simp; omega
      clear hc hl
      go_wp2_with fail
      refine (ospecSum_any b off k cap zs _ HO.out hn).mono ?_
      rintro e w' ⟨rfl, rfl⟩
      go_wp2_with fail
      go_ret
      exact ⟨rfl, rfl⟩

set_option maxRecDepth 100000 in
set_option maxHeartbeats 8000000 in
theorem sBurst_any (a : Option Addr) (n cap : Nat) (f : Nat → Nat) (z : Int) (t : Nat) (w : World) (h : FlAt a n f w) :
    Calls Try.prog 19 #[.slice a n cap, .int .i64 z, .float .f64 t] w fun e w' => e = .returned (buV (Lk.bAt f n z t) (Lk.bAb f n z t)) ∧ Below w.heap.size w w' := by
  have H := Lib.hid h
  clear h
  by_cases hn : n ≤ 400
  rotate_left
  · have HA := Lib.hid (Lk.b_long (f := f) (z := z) (t := t) hn)
    have hz : (400 : Int) < (n : Int) := by omega
    clear hn
    go_enter Try.func19, Try.ntmps19
    go_wp2_with fail
    exact bodyPost_ret (v := buV 0 0) (by simp [results, Try.results19, go_sem]) rfl ⟨by rw [HA.out.1, HA.out.2], (bel_alloc _ _).alloc (by simp) _⟩
  have hz : ¬ (400 : Int) < (n : Int) := by omega
  by_cases h2 : z < 2
  · have HA := Lib.hid (Lk.b_no (f := f) (z := z) (t := t) hn (by unfold Lk.buOk; rw [decide_eq_false (fun h => by omega)]; rfl))
    go_enter Try.func19, Try.ntmps19
    go_wp2_with fail
    exact bodyPost_ret (v := buV (-1) 0) (by simp [results, Try.results19, go_sem]) rfl ⟨by rw [HA.out.1, HA.out.2], (bel_alloc _ _).alloc (by simp) _⟩
  by_cases h4 : 400 < z
  · have HA := Lib.hid (Lk.b_no (f := f) (z := z) (t := t) hn (by unfold Lk.buOk; rw [decide_eq_false (fun h => by omega)]; rfl))
    go_enter Try.func19, Try.ntmps19
    go_wp2_with fail
    exact bodyPost_ret (v := buV (-1) 0) (by simp [results, Try.results19, go_sem]) rfl ⟨by rw [HA.out.1, HA.out.2], (bel_alloc _ _).alloc (by simp) _⟩
  cases hm : Fl.measB t
  · have HA := Lib.hid (Lk.b_no (f := f) (z := z) (t := t) hn (by unfold Lk.buOk; rw [hm, Bool.false_and, Bool.and_false]))
    go_enter Try.func19, Try.ntmps19
    go_wp2_with fail
    refine (specMeas_any _ _).mono ?_
    rintro e w1 ⟨rfl, rfl⟩
    go_wp2_with fail
    exact bodyPost_ret (v := buV (-1) 0) (by simp [results, Try.results19, go_sem]) rfl ⟨by rw [HA.out.1, HA.out.2], (bel_alloc _ _).alloc (by simp) _⟩
  cases hl : Fl.ltW t 0
  rotate_left
  · have HA := Lib.hid (Lk.b_no (f := f) (z := z) (t := t) hn (by unfold Lk.buOk; rw [hl, Bool.not_true, Bool.and_false, Bool.and_false]))
    unfold Fl.ltW at hl
    go_enter Try.func19, Try.ntmps19
    go_wp2_with fail
    refine (specMeas_any _ _).mono ?_
    rintro e w1 ⟨rfl, rfl⟩
    go_wp2_with fail
    exact bodyPost_ret (v := buV (-1) 0) (by simp [results, Try.results19, go_sem]) rfl ⟨by rw [HA.out.1, HA.out.2], (bel_alloc _ _).alloc (by simp) _⟩
  have HA := Lib.hid (Lk.b_yes (f := f) (z := z) (t := t) hn (by unfold Lk.buOk; rw [hm, hl, decide_eq_true (show 2 ≤ z ∧ z ≤ 400 from ⟨by omega, by omega⟩)]; rfl))
  unfold Fl.ltW at hl
  obtain ⟨s, hs, hzs⟩ : ∃ s : Nat, z.toNat = s ∧ z = (s : Int) := ⟨z.toNat, rfl, by omega⟩
  rw [hs] at HA
  subst hzs
  obtain ⟨i0, hi, hz0, hz1, hz2⟩ := info_parts info_float
  go_enter Try.func19, Try.ntmps19
  go_wp2_with fail
  refine (specMeas_any _ _).mono ?_
  rintro e w1 ⟨rfl, hw1⟩
  have HW := Lib.hid hw1
  clear hw1
  have HB1 : Hid (Below w.heap.size w w1) := by show Below _ _ _; rw [HW.out]; exact (bel_alloc _ _).alloc (by simp) _
  have HR1 : Hid (w1.rowIs w.heap.size 35 2 (rowL (buL 0 0))) := by show World.rowIs _ _ _ _ _; rw [HW.out]; exact wrow_below (rowL_alloc w (buL 0 0) _) (bel_alloc _ _)
  have HR2 : Hid (w1.rowIs (w.heap.size + 1) 35 2 (rowL (buL (-1) 0))) := by show World.rowIs _ _ _ _ _; rw [HW.out]; exact rowL_alloc' (by simp) (buL (-1) 0) _
  clear HW
  go_wp2_with fail
  clear hs hl
  go_loopw [8, 9, 10, 11, 12, 13, 14, 15, 16, 17, 18, 19] (fun sv iv _ _ _ _ _ _ _ _ _ _ wx => ∃ k : Nat, k ≤ n ∧ iv = .int .i64 k ∧ Hid (Lk.burst f s t k = none) ∧ Hid (Own w1.heap.size sv (Lk.seen f k) wx ∧ Below w1.heap.size w1 wx)) (fun _ iv _ _ _ _ _ _ _ _ _ _ _ => n - (intOf iv).toNat)
  case atStart => exact ⟨0, Nat.zero_le _, rfl, rfl, own_start w1, bel_alloc _ _⟩
  case round =>
    obtain ⟨k, hk, rfl, hU, hO⟩ := hrel
    by_cases hlt : k < n
    · have hltz : (k : Int) < (n : Int) := by omega
      have hk0 : (0 : Int) ≤ (k : Int) := by omega
      obtain ⟨g, rfl, c0⟩ := ((H.out.below HB1.out).below hO.out.2).at_ hlt
      cases hmk : Fl.measB (f k)
      · have HE := Lib.hid (Lk.burst_none (f := f) (s := s) (t := t) hU.out (by unfold Lk.atB; rw [hmk]; rfl))
        have HY := Lib.hid (Lk.seen_no hmk)
        go_wp2_with fail
        refine (specMeas_any _ _).mono ?_
        rintro e w2 ⟨rfl, rfl⟩
        go_wp2_with fail
        go_roundw
        case rel => exact ⟨k + 1, by omega, by go_num, HE, by rw [HY.out]; exact hO⟩
        case measure => simp [intOf]; omega
      · have HY := Lib.hid (Lk.seen_yes hmk)
        obtain ⟨gs, cs, rfl, hgs, hgs2, hroom, hcells⟩ := hO.out.1.room
        have HCS := Lib.hid hcells
        clear hcells
        go_wp2_with fail
        refine (specMeas_any _ _).mono ?_
        rintro e w2 ⟨rfl, rfl⟩
        by_cases hf : s ≤ (Lk.seen f k).length
        · obtain ⟨m, hL⟩ : ∃ m, (Lk.seen f k).length = m + s := ⟨(Lk.seen f k).length - s, by omega⟩
          have HF := Lib.hid hf
          have HL := Lib.hid hL
          have hms : (s : Int) ≤ (m : Int) + (s : Int) := by omega
          rw [hL]
          rw [hL] at hroom
          have hmn : m + s ≤ 400 := by have := Lk.seen_len f k; omega
          have hm4 : (m : Int) ≤ 400 := by omega
          have hm0 : (0 : Int) ≤ (m : Int) := by omega
          have hmc : (m : Int) < (cs : Int) := by omega
          have hmc2 : m < cs := by omega
          clear hf hL
          go_wp2_with fail
          have hlast : (Lk.lastN s (Lk.seen f k)).length = s := Lk.lastN_len HF.out
          have hLC : ∀ i, i < s → w2.cell? ⟨gs, m + i, none⟩ = some (.float .f64 (Fl.el (Lk.lastN s (Lk.seen f k)) i)) := fun i hi => by
            rw [Lk.lastN_el, HL.out, show m + s - s + i = m + i by omega]
            exact HCS.out (m + i) (by rw [HL.out]; omega)
          have HFF := Lib.hid (Fl.far_f (x := f k) (t := t) (ys := Lk.lastN s (Lk.seen f k)) hmk hm (Lk.last_meas HF.out) (by omega) (by omega))
          have HLM := Lib.hid (Lk.last_meas (f := f) (k := k) HF.out)
          have HFB := Lib.hid (show Lk.atB f s t k = Fl.farB (f k) t (Lk.lastN s (Lk.seen f k)) by unfold Lk.atB; rw [hmk, decide_eq_true HF.out]; rfl)
          have HBU := Lib.hid (Lk.bu_some (f := f) (s := s) (t := t) (n := n) (i := k))
          have HOW : Hid (w2.ownsRow w1.heap.size 27 1 (.slice (some ⟨gs, 0, none⟩) (m + s) cs) (m + s) ((Lk.seen f k).map (Value.float .f64))) := by have := hO.out.1.1; rw [HL.out] at this; exact this
          have HOB := Lib.hid hO.out.2
          have HSL := Lib.hid (show ((Lk.seen f k).map (Value.float .f64)).length = m + s by simpa using HL.out)
          generalize Lk.lastN s (Lk.seen f k) = ys at *
          refine (ospecMean_any gs m s _ ys _ ⟨hlast, hLC⟩ HLM.out (by omega) (by omega)).mono ?_
          rintro e w4 ⟨rfl, hw4⟩
          subst hw4
          have qv := fun (wx : World) => run_float_arith (P := Try.prog) (w := wx) .quo 27 .f64 _ _ _ HFF.out.var
          rw [hlast] at qv
          go_wp2_with fail
          go_loop [12, 13, 14, 15] (fun ev jv _ _ => ∃ j : Nat, j ≤ s ∧ jv = .int .i64 j ∧ ev = .float .f64 (Fl.offTo (Fl.meanL ys) ys j)) (fun _ jv _ _ => s - (intOf jv).toNat)
          case atStart => exact ⟨0, Nat.zero_le _, rfl, rfl⟩
          case round =>
            obtain ⟨j, hj, rfl, rfl⟩ := hrel
            by_cases hjs : j < s
            · have hjz : (j : Int) < (s : Int) := by omega
              have g1 := hLC j hjs
              have hoff := HFF.out.off j (by omega)
              have q1 := fun (wx : World) => run_float_arith (P := Try.prog) (w := wx) .sub 27 .f64 _ _ _ hoff.sub
              have q2 := fun (wx : World) => run_float_arith (P := Try.prog) (w := wx) .mul 27 .f64 _ _ _ hoff.mul
              have q3 := fun (wx : World) => run_float_arith (P := Try.prog) (w := wx) .add 27 .f64 _ _ _ hoff.add
              clear qv hoff
              go_wp2_with fail
              go_round
              case rel => exact ⟨j + 1, by omega, by go_num, rfl⟩
              case measure => simp [intOf]; omega
            · obtain rfl : j = s := by omega
              have q1 := fun (wx : World) => run_float_arith (P := Try.prog) (w := wx) .sub 27 .f64 _ _ _ HFF.out.d
              have q2 := fun (wx : World) => run_float_arith (P := Try.prog) (w := wx) .mul 27 .f64 _ _ _ HFF.out.dd
              have q3 := fun (wx : World) => run_float_arith (P := Try.prog) (w := wx) .mul 27 .f64 _ _ _ HFF.out.tt
              have q4 := fun (wx : World) => run_float_arith (P := Try.prog) (w := wx) .mul 27 .f64 _ _ _ HFF.out.te
              cases hfar : Fl.farB (f k) t ys
              · have HE := Lib.hid (Lk.burst_none (f := f) (s := j) (t := t) hU.out (by rw [HFB.out]; exact hfar))
                unfold Fl.farB Fl.gtW at hfar
                cases hfa : (FloatKind.f64.format.order (Fl.subW (f k) (Fl.meanL ys)) 0 == some .gt)
                · clear hfar
                  go_wp2_with (at_builtin; refine wpList_append_own _ rfl _ _ 23 rfl w1.heap.size 27 i0 (.float .f64 0) 1 8 Try.underlying23 hi hz0 hz1 hz2 rfl (by decide) _ _ _ rfl (HOW.out.alloc _) ⟨w4.heap.size, 0, none⟩ 1 1 [.float .f64 (f k)] rfl rfl ?c1x ?c2x ?c3x ?c4x ?c5x ?_)
                  case c2x => first | rfl | (intro u hu; simp at hu; subst hu; rfl)
                  case c3x => unfold maxLen; omega
                  case c4x => omega
                  case c5x => have := HOB.out.size; simp; omega
                  · intro v' w3 hown hgrow hnil
                    have HP : Hid (Own w1.heap.size v' (Lk.seen f (k + 1)) w3 ∧ Below w1.heap.size w1 w3) := by rw [HY.out]; exact own_push rfl hO.out.1 hO.out.2 (by rw [HL.out]; exact hgrow) (by rw [HL.out]; exact hown) (by simpa using hnil)
                    clear hown hgrow hnil hO
                    go_wp2_with fail
                    go_roundw
                    case rel => exact ⟨k + 1, by omega, by go_num, HE, HP⟩
                    case measure => simp [intOf]; omega
                · rw [hfa, Bool.true_and] at hfar
                  go_wp2_with (at_builtin; refine wpList_append_own _ rfl _ _ 23 rfl w1.heap.size 27 i0 (.float .f64 0) 1 8 Try.underlying23 hi hz0 hz1 hz2 rfl (by decide) _ _ _ rfl (HOW.out.alloc _) ⟨w4.heap.size, 0, none⟩ 1 1 [.float .f64 (f k)] rfl rfl ?c1y ?c2y ?c3y ?c4y ?c5y ?_)
                  case c2y => first | rfl | (intro u hu; simp at hu; subst hu; rfl)
                  case c3y => unfold maxLen; omega
                  case c4y => omega
                  case c5y => have := HOB.out.size; simp; omega
                  · intro v' w3 hown hgrow hnil
                    have HP : Hid (Own w1.heap.size v' (Lk.seen f (k + 1)) w3 ∧ Below w1.heap.size w1 w3) := by rw [HY.out]; exact own_push rfl hO.out.1 hO.out.2 (by rw [HL.out]; exact hgrow) (by rw [HL.out]; exact hown) (by simpa using hnil)
                    clear hown hgrow hnil hO
                    go_wp2_with fail
                    go_roundw
                    case rel => exact ⟨k + 1, by omega, by go_num, HE, HP⟩
                    case measure => simp [intOf]; omega
              · have hE := Lk.burst_mono (Lk.burst_here (f := f) (s := j) (t := t) hU.out (by rw [HFB.out]; exact hfar)) (show k + 1 ≤ n by omega)
                have HE1 := Lib.hid (HBU.out hE).1
                have HE2 := Lib.hid (HBU.out hE).2
                have HRa := Lib.hid (wrow_below HR1.out hO.out.2)
                obtain ⟨r0, r1, f0, f1, l0⟩ := told2 HRa.out
                unfold Fl.farB Fl.gtW at hfar
                have hfa := (Bool.and_eq_true_iff.1 hfar).1
                have hfb := (Bool.and_eq_true_iff.1 hfar).2
                clear hE hfar
                go_wp2_with fail
                exact bodyPost_ret (v := buV (k : Int) (Fl.subW (f k) (Fl.meanL ys))) (by simp [results, Try.results19, go_sem, r0, r1]) rfl ⟨by rw [HA.out.1, HA.out.2, HE1.out, HE2.out], lbelow_set2 (HB1.out.trans (hO.out.2.mono HB1.out.size)) (Nat.le_refl _) _ _⟩
        · have HE := Lib.hid (Lk.burst_none (f := f) (s := s) (t := t) hU.out (by unfold Lk.atB; rw [decide_eq_false hf, Bool.false_and, Bool.and_false]))
          have hfz : ¬ (s : Int) ≤ ((Lk.seen f k).length : Int) := by omega
          clear hf
          go_wp2_with (at_builtin; refine wpList_append_own _ rfl _ _ 23 rfl w1.heap.size 27 i0 (.float .f64 0) 1 8 Try.underlying23 hi hz0 hz1 hz2 rfl (by decide) _ _ _ rfl (hO.out.1.1.alloc _) ⟨w2.heap.size, 0, none⟩ 1 1 [.float .f64 (f k)] rfl rfl ?c1z ?c2z ?c3z ?c4z ?c5z ?_)
          case c1z =>
            intro j u hj
            match j, hj with
            | 0, hj => simp at hj; subst hj; simp [Addr.add]
          case c2z => first | rfl | (intro u hu; simp at hu; subst hu; rfl)
          case c3z => have := Lk.seen_len f k; unfold maxLen; omega
          case c4z => have := Lk.seen_len f k; omega
          case c5z => have := hO.out.2.size; simp; omega
          · intro v' w3 hown hgrow hnil
            have HP : Hid (Own w1.heap.size v' (Lk.seen f (k + 1)) w3 ∧ Below w1.heap.size w1 w3) := by rw [HY.out]; exact own_push rfl hO.out.1 hO.out.2 hgrow hown (by simpa using hnil)
            clear hown hgrow hnil hO
            go_wp2_with fail
            go_roundw
            case rel => exact ⟨k + 1, by omega, by go_num, HE, HP⟩
            case measure => simp [intOf]; omega

    · obtain rfl : k = n := by omega
      have HE1 := Lib.hid (Lk.bu_none hU.out).1
      have HE2 := Lib.hid (Lk.bu_none hU.out).2
      have HRa := Lib.hid (wrow_below HR1.out hO.out.2)
      have HRb := Lib.hid (wrow_below HR2.out hO.out.2)
      obtain ⟨c0, c1, f0, f1, l0⟩ := told2 HRa.out
      obtain ⟨d0, d1, _, _, _⟩ := told2 HRb.out
      go_wp2_with fail
      exact bodyPost_ret (v := buV (-1) 0) (by simp [results, Try.results19, go_sem, c0, c1]) rfl ⟨by rw [HA.out.1, HA.out.2, HE1.out, HE2.out], lbelow_set2 (HB1.out.trans (hO.out.2.mono HB1.out.size)) (Nat.le_refl _) _ _⟩
end Go.Proofs.Ytlipgnjknfmikaa
