/-
  The contract of the model's StoreYield.
-/
import Derived.Test.YtdpghhmcibiplaaStS1
import Derived.Test.YtdpghhmcibiplaaStY1
namespace Go.Proofs.Ytdpghhmcibiplaa
open Go.RowKit Go.Deep

set_option maxRecDepth 100000 in
set_option maxHeartbeats 2000000 in
theorem sAll_any (a : Option Addr) (m cap : Nat) (f : Nat → Int) (w : World) (h : IntsAt a m f w) (hm : m ≤ 4194304) :
    Calls Try.prog 14 #[.slice a m cap, .int .i64 0, .int .i64 1000000] w fun e w' => BoolEnd (St.FlowsOk m f) e ∧ w' = w := by
  have H := Lib.hid h
  clear h
  go_enter Try.func14, Try.ntmps14
  go_wp2_with fail
  go_loopw [7] (fun iv wr => ∃ (i : Nat), i ≤ m ∧ iv = .int .i64 i ∧ wr = w ∧ Hid (∀ j, j < i → 0 ≤ f j ∧ f j ≤ 1000000)) (fun iv _ => m - (intOf iv).toNat)
  case atStart => exact ⟨0, Nat.zero_le _, rfl, rfl, fun j hj => absurd hj (Nat.not_lt_zero _)⟩
  case round =>
    obtain ⟨i, hi, rfl, rfl, hP⟩ := hrel
    by_cases hlt : i < m
    · have hltz : (i : Int) < (m : Int) := by omega
      obtain ⟨b, rfl, c0⟩ := H.out.at_ hlt
      by_cases h1 : f i < 0
      · go_wp2_with fail
        go_ret
        exact ⟨.ff (fun h => by have := (h i hlt).1; omega), rfl⟩
      · by_cases h2 : 1000000 < f i
        · go_wp2_with fail
          go_ret
          exact ⟨.ff (fun h => by have := (h i hlt).2; omega), rfl⟩
        · go_wp2_with fail
          go_roundw
          case rel =>
            refine ⟨i + 1, by omega, by go_num, by first | rfl | trivial, fun j hj => ?_⟩
            by_cases e : j = i
            · subst e; omega
            · exact hP.out j (by omega)
          case measure => simp [intOf]; omega
    · obtain rfl : i = m := by omega
      go_wp2_with fail
      go_ret
      exact ⟨.tt hP.out, by first | rfl | trivial⟩
theorem sMin_any (x y : Int) (w : World) : Calls Try.prog 29 #[.int .i64 x, .int .i64 y] w fun e w' => e = .returned (.int .i64 (min x y)) ∧ w' = w := by
  by_cases h : x < y
  · go_enter Try.func29, Try.ntmps29
    go_wp2_with fail
    go_ret
    exact ⟨ret_int (a := x) (by omega), rfl⟩
  · go_enter Try.func29, Try.ntmps29
    go_wp2_with fail
    go_ret
    exact ⟨ret_int (a := y) (by omega), rfl⟩
set_option maxRecDepth 100000 in
set_option maxHeartbeats 4000000 in
theorem sMeets_any (ca : Option Addr) (cn ck : Nat) (c : Nat → St.Pr) (ra : Option Addr) (rn rk : Nat) (v y : Int) (a : Option Addr) (n ic : Nat) (ins : Nat → Int) (w : World) (h : PrsAt ca cn c w) (hI : IntsAt a n ins w) (hn : n ≤ 400) (hf : St.FlowsOk n ins) (hc : St.CurveOk cn c) (v0 : 0 ≤ v) (v1 : v ≤ St.full cn c) (y0 : 0 ≤ y) (y1 : y ≤ 1000000) :
    Calls Try.prog 15 #[stV ca cn ck ra rn rk v, .slice a n ic, .int .i64 y] w fun e w' => BoolEnd (St.Meets (St.full cn c) ins v y n) e ∧ Gr w w' := by
  have fb := St.full_bounds hc
  obtain ⟨W, hW⟩ : ∃ W, W = w.alloc (.cells #[.slice ca cn ck, .slice ra rn rk, .int .i64 v] 32) := ⟨_, rfl⟩
  have hGW : Gr w W := by rw [hW]; exact (Gr.refl _).alloc _
  have HGW := Lib.hid hGW
  have HW := Lib.hid hW
  have HP := Lib.hid (h.below hGW.bel)
  have HI := Lib.hid (hI.below hGW.bel)
  have HF := Lib.hid hf
  have HC := Lib.hid hc
  obtain ⟨f, hfe⟩ : ∃ f, f = St.full cn c := ⟨_, rfl⟩
  rw [← hfe] at fb v1 ⊢
  have HFE := Lib.hid hfe
  clear hGW hW h hI hf hc hfe
  obtain ⟨fb0, fb1⟩ := fb
  go_enter Try.func15, Try.ntmps15
  go_wp2_with fail
  rw [← HW.out]
  go_loopw [8, 7] (fun iv vv wr => ∃ (i : Nat), i ≤ n ∧ iv = .int .i64 i ∧ vv = .int .i64 (St.volOf f ins v y i) ∧ Hid (Gr W wr) ∧ Hid (St.Meets f ins v y i)) (fun iv _ _ => n - (intOf iv).toNat)
  case atStart => exact ⟨0, Nat.zero_le _, rfl, rfl, Gr.refl _, fun j hj => absurd hj (Nat.not_lt_zero _)⟩
  case round =>
    obtain ⟨i, hi, rfl, rfl, hG, hM⟩ := hrel
    by_cases hlt : i < n
    · have hltz : (i : Int) < (n : Int) := by omega
      obtain ⟨b, hab, q0⟩ := (HI.out.below hG.out.bel).at_ hlt
      subst hab
      obtain ⟨d0, d1, d2⟩ := box3_gr HW.out hG.out
      have hvb := St.vol_bounds v0 v1 hM.out i (Nat.le_refl _)
      have hib := HF.out i hlt
      unfold St.FlowOk at hib
      obtain ⟨u, hu⟩ : ∃ u, u = St.volOf f ins v y i := ⟨_, rfl⟩
      have HU := Lib.hid hu
      rw [← hu] at hvb ⊢
      clear hu
      obtain ⟨hvb0, hvb1⟩ := hvb
      obtain ⟨hib0, hib1⟩ := hib
      by_cases hs : u + ins i - y < 0
      · have NM : Hid (¬ St.Meets f ins v y n) := fun h => by
          have h1 := h i hlt
          have h2 := HU.out
          rw [← h2] at h1
          omega
        go_wp2_with fail
        go_ret
        exact ⟨.ff NM.out, HGW.out.trans hG.out⟩
      · go_wp2_with fail
        refine (sFull_any ca cn ck c ra rn rk v _ (HP.out.below hG.out.bel) (by have := HC.out.1; omega) (by have := HC.out.1; omega)).mono ?_
        rintro e W1 ⟨rfl, hG1⟩
        have HG1 : Hid (Gr W W1) := hG.out.trans hG1
        have hfe := HFE.out
        rw [← hfe]
        clear hG1 d0 d1 d2 q0 hfe
        go_wp2_with fail
        refine (sMin_any _ _ _).mono ?_
        rintro e W2 ⟨rfl, rfl⟩
        have HM : Hid (St.Meets f ins v y (i + 1)) := fun j hj => by
          by_cases e : j = i
          · subst e
            have h2 := HU.out
            rw [← h2]; omega
          · exact hM.out j (by omega)
        have HV : Hid (min (u + ins i - y) f = St.volOf f ins v y (i + 1)) := by
          show _ = _
          have h2 := HU.out
          simp only [St.volOf]
          rw [← h2]
        go_wp2_with fail
        go_roundw
        case rel => exact ⟨i + 1, by omega, by go_num, by rw [HV.out], HG1, HM⟩
        case measure => simp [intOf]; omega
    · obtain rfl : i = n := by omega
      go_wp2_with fail
      go_ret
      exact ⟨.tt hM.out, HGW.out.trans hG.out⟩
set_option maxRecDepth 100000 in
set_option maxHeartbeats 4000000 in
theorem sYield_any (ca : Option Addr) (cn ck : Nat) (c : Nat → St.Pr) (ra : Option Addr) (rn rk : Nat) (r : Nat → St.Pr) (v : Int) (a : Option Addr) (n ic : Nat) (ins : Nat → Int) (w : World) (h : StAt ca cn c ra rn r w) (hI : IntsAt a n ins w) (hn : n ≤ 1048576) :
    Calls Try.prog 5 #[stV ca cn ck ra rn rk v, .slice a n ic] w fun e w' => (∃ z, e = .returned (.int .i64 z) ∧ Hid (YEnd n cn c rn r v ins z)) ∧ Gr w w' := by
  obtain ⟨W, hW⟩ : ∃ W, W = w.alloc (.cells #[.slice ca cn ck, .slice ra rn rk, .int .i64 v] 32) := ⟨_, rfl⟩
  have hGW : Gr w W := by rw [hW]; exact (Gr.refl _).alloc _
  have HGW := Lib.hid hGW
  have HW := Lib.hid hW
  have HS := Lib.hid (h.gr hGW)
  have HI := Lib.hid (hI.below hGW.bel)
  obtain ⟨b1, h1⟩ := bool_of (St.StoreOk cn c rn r v)
  obtain ⟨b2, h2⟩ := bool_of (St.FlowsOk n ins)
  have K1 := Lib.hid h1
  have K2 := Lib.hid h2
  clear hGW hW h hI h1 h2
  by_cases hbig : 400 < n
  · have hz : (400 : Int) < (n : Int) := by omega
    go_enter Try.func5, Try.ntmps5
    go_wp2_with fail
    go_ret
    have hG := HGW.out
    rw [HW.out] at hG
    exact ⟨⟨0, rfl, ⟨fun _ => rfl, fun h => absurd hbig h, fun h => absurd hbig h⟩⟩, hG⟩
  have hz : ¬ (400 : Int) < (n : Int) := by omega
  go_enter Try.func5, Try.ntmps5
  go_wp2_with fail
  rw [← HW.out]
  refine ((sRight_any ca cn ck c ra rn rk r v _ HS.out).mono fun e w' ⟨g1, g2⟩ => ⟨g1.eq K1.out, g2⟩ : Calls Try.prog 13 #[stV ca cn ck ra rn rk v] W fun e w' => e = .returned (.bool b1) ∧ Gr W w').mono ?_
  rintro e W1 ⟨rfl, hG1⟩
  have HG1 := Lib.hid hG1
  have HI1 := Lib.hid (HI.out.below hG1.bel)
  clear hG1
  cases b1 with
  | false =>
    go_wp2_with fail
    go_ret
    have hno : ¬ St.StoreOk cn c rn r v := fun h => by have := K1.out.2 h; cases this
    exact ⟨⟨-1, rfl, ⟨fun h => absurd h hbig, fun _ _ => rfl, fun _ h => absurd h.1 hno⟩⟩, HGW.out.trans HG1.out⟩
  | true =>
  have hso : St.StoreOk cn c rn r v := by have := K1.out; simpa using this
  have HSO := Lib.hid hso
  clear hso
  go_wp2_with fail
  refine ((sAll_any a n ic ins _ HI1.out (by omega)).mono fun e w' ⟨g1, g2⟩ => ⟨g1.eq K2.out, g2⟩ : Calls Try.prog 14 #[.slice a n ic, .int .i64 0, .int .i64 1000000] W1 fun e w' => e = .returned (.bool b2) ∧ w' = W1).mono ?_
  rintro e W2 ⟨rfl, rfl⟩
  cases b2 with
  | false =>
    go_wp2_with fail
    go_ret
    have hno : ¬ St.FlowsOk n ins := fun h => by have := K2.out.2 h; cases this
    exact ⟨⟨-1, rfl, ⟨fun h => absurd h hbig, fun _ _ => rfl, fun _ h => absurd h.2 hno⟩⟩, HGW.out.trans HG1.out⟩
  | true =>
  have hfo : St.FlowsOk n ins := by have := K2.out; simpa using this
  have HFO := Lib.hid hfo
  clear hfo
  obtain ⟨f, hfe⟩ : ∃ f, f = St.full cn c := ⟨_, rfl⟩
  have HFE := Lib.hid hfe
  clear hfe
  go_wp2_with fail
  go_loopw [5, 6] (fun lv hv wr => ∃ (l u : Int), lv = .int .i64 l ∧ hv = .int .i64 u ∧ 0 ≤ l ∧ l ≤ u ∧ u ≤ 1000000 ∧ Hid (Gr W wr) ∧ Hid (St.Meets f ins v l n) ∧ Hid (u = 1000000 ∨ ¬ St.Meets f ins v (u + 1) n)) (fun lv hv _ => (intOf hv - intOf lv).toNat)
  case atStart => exact ⟨0, 1000000, rfl, rfl, by omega, by omega, by omega, HG1, St.meets_zero HSO.out.2.2.1 (by have := (St.full_bounds HSO.out.1).1; have := HFE.out; omega) HFO.out, Or.inl rfl⟩
  case round =>
    obtain ⟨l, u, rfl, rfl, hl0, hlu, hu1, hG, hM, hN⟩ := hrel
    by_cases hlt : l < u
    · obtain ⟨d0, d1, d2⟩ := box3_gr HW.out hG.out
      obtain ⟨mid, hmid⟩ : ∃ mid, mid = (l + u + 1) / 2 := ⟨_, rfl⟩
      have hm0 : l < mid := by omega
      have hm1 : mid ≤ u := by omega
      have hdv : 0 ≤ l + u + 1 := by omega
      have hmid2 : (l + u + 1) / 2 = mid := hmid.symm
      obtain ⟨b, hb⟩ := bool_of (St.Meets f ins v mid n)
      have KB := Lib.hid hb
      have HMID := Lib.hid hmid2
      clear hb hmid
      go_wp2_with fail
      refine ((sMeets_any ca cn ck c ra rn rk v mid a n ic ins _ (HS.out.gr hG.out).cu (HI.out.below hG.out.bel) (by omega) HFO.out HSO.out.1 HSO.out.2.2.1 HSO.out.2.2.2 (by omega) (by omega)).mono fun e w' ⟨g1, g2⟩ => ⟨g1.eq (by rw [← HFE.out]; exact KB.out), g2⟩ : Calls Try.prog 15 #[stV ca cn ck ra rn rk v, .slice a n ic, .int .i64 mid] wr fun e w' => e = .returned (.bool b) ∧ Gr wr w').mono ?_
      rintro e W3 ⟨rfl, hG3⟩
      have HG3 : Hid (Gr W W3) := hG.out.trans hG3
      clear hG3 d0 d1 d2 hmid2
      cases b with
      | true =>
        have hM2 : Hid (St.Meets f ins v mid n) := Lib.hid (by have := KB.out; simpa using this)
        go_wp2_with fail
        go_roundw
        case rel => exact ⟨mid, u, by rw [HMID.out], rfl, by omega, by omega, by omega, HG3, hM2, hN⟩
        case measure => have e := HMID.out; simp [intOf]; omega
      | false =>
        have hN2 : Hid (mid - 1 = 1000000 ∨ ¬ St.Meets f ins v (mid - 1 + 1) n) := Or.inr (fun h => by
          have e : mid - 1 + 1 = mid := by omega
          rw [e] at h
          have := KB.out.2 h; cases this)
        go_wp2_with fail
        go_roundw
        case rel => exact ⟨l, mid - 1, rfl, by rw [← HMID.out], by omega, by omega, by omega, HG3, hM, hN2⟩
        case measure => have e := HMID.out; simp [intOf]; omega
    · obtain rfl : l = u := by omega
      have YE : Hid (YEnd n cn c rn r v ins l) := ⟨fun h => absurd h hbig, fun _ h => absurd ⟨HSO.out, HFO.out⟩ h, fun _ _ => by rw [← HFE.out]; exact ⟨⟨hl0, hu1⟩, hM.out, hN.out⟩⟩
      go_wp2_with fail
      go_ret
      exact ⟨⟨_, rfl, YE⟩, HGW.out.trans hG.out⟩
end Go.Proofs.Ytdpghhmcibiplaa
