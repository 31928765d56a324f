/-
  Right tariffs: the model's.
-/
import Derived.Test.YtnbnfifgajfomaaDoorBiMem
import Derived.BigQuiet
namespace Go.Proofs.YtnbnfifgajfomaaDoor
open Go.RowKit Go.Deep

set_option maxRecDepth 100000 in
set_option maxHeartbeats 8000000 in
theorem specTariff_any (t : Bi.T) (a : Option Addr) (k : Nat) (w : World) (h : IsAt a (t.bn * 2) t.B w) (hn : t.bn ≤ 9223372036854775807) :
    Calls Tryd.prog 38 #[tfV t a k] w fun e w' => e = .returned (.bool (Bi.dB (Bi.Right t))) ∧ Below w.heap.size w w' := by
  obtain ⟨W, hW⟩ : ∃ W, W = w.alloc (.cells #[.int .i64 t.day, .slice a t.bn k, .int .i64 t.sew, .int .i64 t.tax] 25) := ⟨_, rfl⟩
  have HB : Hid (Below w.heap.size w W) := by show Below _ _ _; rw [hW]; exact nbel_alloc _ _
  have HR : Hid (W.rowIs w.heap.size 25 4 (rowN (tfL t a k))) := by show W.rowIs _ _ _ _; rw [hW]; exact rowN_alloc w _ _
  have H := Lib.hid (h.below HB.out)
  have HW := Lib.hid hW
  clear hW h
  have hnz : (t.bn : Int) ≤ 9223372036854775807 := by omega
  by_cases k0 : t.day < 0
  · have HE : Hid (Bi.dB (Bi.Right t) = false) := Bi.dB_ff (fun h => by have := h.1; omega)
    go_enter Tryd.func38, Tryd.ntmps38
    go_wp2_with fail
    go_ret
    exact ⟨by rw [HE.out]; rfl, by have := HB.out; rw [HW.out] at this; exact this⟩
  by_cases k1 : 10000 < t.day
  · have HE : Hid (Bi.dB (Bi.Right t) = false) := Bi.dB_ff (fun h => by have := h.1; omega)
    go_enter Tryd.func38, Tryd.ntmps38
    go_wp2_with fail
    go_ret
    exact ⟨by rw [HE.out]; rfl, by have := HB.out; rw [HW.out] at this; exact this⟩
  by_cases k2 : (t.bn : Int) < 1
  · have HE : Hid (Bi.dB (Bi.Right t) = false) := Bi.dB_ff (fun h => by have := h.2.1.1; omega)
    go_enter Tryd.func38, Tryd.ntmps38
    go_wp2_with fail
    go_ret
    exact ⟨by rw [HE.out]; rfl, by have := HB.out; rw [HW.out] at this; exact this⟩
  by_cases k3 : (10 : Int) < (t.bn : Int)
  · have HE : Hid (Bi.dB (Bi.Right t) = false) := Bi.dB_ff (fun h => by have := h.2.1.1; omega)
    go_enter Tryd.func38, Tryd.ntmps38
    go_wp2_with fail
    go_ret
    exact ⟨by rw [HE.out]; rfl, by have := HB.out; rw [HW.out] at this; exact this⟩
  by_cases k4 : t.sew < 0
  · have HE : Hid (Bi.dB (Bi.Right t) = false) := Bi.dB_ff (fun h => by have := h.2.2.1; omega)
    go_enter Tryd.func38, Tryd.ntmps38
    go_wp2_with fail
    go_ret
    exact ⟨by rw [HE.out]; rfl, by have := HB.out; rw [HW.out] at this; exact this⟩
  by_cases k5 : 200 < t.sew
  · have HE : Hid (Bi.dB (Bi.Right t) = false) := Bi.dB_ff (fun h => by have := h.2.2.1; omega)
    go_enter Tryd.func38, Tryd.ntmps38
    go_wp2_with fail
    go_ret
    exact ⟨by rw [HE.out]; rfl, by have := HB.out; rw [HW.out] at this; exact this⟩
  by_cases k6 : t.tax < 0
  · have HE : Hid (Bi.dB (Bi.Right t) = false) := Bi.dB_ff (fun h => by have := h.2.2.2; omega)
    go_enter Tryd.func38, Tryd.ntmps38
    go_wp2_with fail
    go_ret
    exact ⟨by rw [HE.out]; rfl, by have := HB.out; rw [HW.out] at this; exact this⟩
  by_cases k7 : 100 < t.tax
  · have HE : Hid (Bi.dB (Bi.Right t) = false) := Bi.dB_ff (fun h => by have := h.2.2.2; omega)
    go_enter Tryd.func38, Tryd.ntmps38
    go_wp2_with fail
    go_ret
    exact ⟨by rw [HE.out]; rfl, by have := HB.out; rw [HW.out] at this; exact this⟩
  have HBL : Hid ((0 ≤ t.day ∧ t.day ≤ 10000) ∧ (1 ≤ t.bn ∧ t.bn ≤ 10) ∧ (0 ≤ t.sew ∧ t.sew ≤ 200) ∧ (0 ≤ t.tax ∧ t.tax ≤ 100)) := by show _ ∧ _ ∧ _ ∧ _; omega
  have hb1 : 1 ≤ t.bn ∧ t.bn ≤ 10 := HBL.out.2.1
  go_enter Tryd.func38, Tryd.ntmps38
  go_wp2_with fail
  rw [← HW.out]
  clear HW
  go_loopw [3] (fun iv wr => ∃ (i : Nat), i ≤ t.bn ∧ iv = .int .i64 i ∧ Hid (∀ j, j < i → Bi.BlkOk t j) ∧ Hid (wr.rowIs w.heap.size 25 4 (rowN (tfL t a k))) ∧ Hid (Below w.heap.size w wr) ∧ Hid (IsAt a (t.bn * 2) t.B wr)) (fun iv _ => t.bn - (intOf iv).toNat)
  case atStart => exact ⟨0, Nat.zero_le _, rfl, fun j hj => absurd hj (Nat.not_lt_zero _), HR, HB, H⟩
  case round =>
    obtain ⟨i, hi, rfl, hP, hR, hB, hA⟩ := hrel
    clear H HR HB
    obtain ⟨⟨p0, p1, p2, p3⟩, _⟩ := rowN4 hR.out
    have hwl : w.heap.size < wr.heap.size := hR.out.lt
    by_cases hlt : i < t.bn
    · have hltz : (i : Int) < (t.bn : Int) := by omega
      have ha := Bi.ahead_bd i hP.out hlt
      obtain ⟨b, rfl, q0, q1⟩ := hA.out.at2 hlt
      have hwb : b < wr.heap.size := World.block_lt_of_cell? _ _ q0
      obtain ⟨x, hx⟩ : ∃ x, x = t.B (i * 2) := ⟨_, rfl⟩
      obtain ⟨y, hy⟩ : ∃ y, y = t.B (i * 2 + 1) := ⟨_, rfl⟩
      rw [← hx] at q0
      rw [← hy] at q1
      have HX := Lib.hid hx
      have HY := Lib.hid hy
      clear hx hy
      obtain ⟨V, hV⟩ : ∃ V, V = wr.alloc (.cells #[.int .i64 x, .int .i64 y] 73) := ⟨_, rfl⟩
      have hbV : Below wr.heap.size wr V := by rw [hV]; exact nbel_alloc _ _
      have HBV : Hid (Below w.heap.size w V) := hB.out.trans (hbV.mono hB.out.size)
      have HRT : Hid (V.rowIs w.heap.size 25 4 (rowN (tfL t (some ⟨b, 0, none⟩) k))) := nrow_below hR.out hbV
      have HAV : Hid (IsAt (some ⟨b, 0, none⟩) (t.bn * 2) t.B V) := hA.out.below hbV
      have HRV : Hid (V.rowIs wr.heap.size 73 2 (rowN [.int .i64 x, .int .i64 y])) := by show V.rowIs _ _ _ _; rw [hV]; exact rowN_alloc _ _ _
      have HV := Lib.hid hV
      clear hV hbV
      by_cases e1 : y < 0
      · have HE : Hid (Bi.dB (Bi.Right t) = false) := Bi.dB_ff (fun h => by have := (h.2.1.2 i hlt).1; rw [← HY.out] at this; omega)
        go_wp2_with fail
        go_ret
        exact ⟨by rw [HE.out]; rfl, by rw [← HV.out]; exact HBV.out⟩
      by_cases e2 : 10000 < y
      · have HE : Hid (Bi.dB (Bi.Right t) = false) := Bi.dB_ff (fun h => by have := (h.2.1.2 i hlt).1; rw [← HY.out] at this; omega)
        go_wp2_with fail
        go_ret
        exact ⟨by rw [HE.out]; rfl, by rw [← HV.out]; exact HBV.out⟩
      have HY2 : Hid (0 ≤ t.B (i * 2 + 1) ∧ t.B (i * 2 + 1) ≤ 10000) := by show _ ∧ _; rw [← HY.out]; omega
      have HP3 : (i + 1 < t.bn → Bi.ahead t i + 1 ≤ t.B (i * 2) ∧ t.B (i * 2) ≤ 1000000) → Hid (∀ j, j < i + 1 → Bi.BlkOk t j) := fun hq j hj => by
        by_cases e : j = i
        · subst e; exact ⟨HY2.out, hq⟩
        · exact hP.out j (by omega)
      have HX3 : ¬ (i + 1 < t.bn → Bi.ahead t i + 1 ≤ x ∧ x ≤ 1000000) → Hid (Bi.dB (Bi.Right t) = false) := fun hq => Bi.dB_ff (fun h => hq (fun h2 => by rw [HX.out]; exact (h.2.1.2 i hlt).2 h2))
      have hwr1 : IntKind.i64.wrap ((t.bn : Int) - 1) = (t.bn : Int) - 1 := biwrap (by omega) (by omega)
      have HDR : Hid (∀ n : Nat, Below w.heap.size w (V.drewN n) ∧ (V.drewN n).rowIs w.heap.size 25 4 (rowN (tfL t (some ⟨b, 0, none⟩) k)) ∧ IsAt (some ⟨b, 0, none⟩) (t.bn * 2) t.B (V.drewN n)) := fun n => ⟨⟨HBV.out.os, HBV.out.tape, HBV.out.output, HBV.out.size, HBV.out.block⟩, HRT.out.of_block rfl, HAV.out.same (fun _ _ _ => rfl)⟩
      rw [HV.out] at HDR
      clear HRT HRV hB hR HAV
      by_cases e3 : i + 1 < t.bn
      case neg =>
        have e4 : ¬ (i : Int) < (t.bn : Int) - 1 := by omega
        have d4 : decide ((i : Int) < (t.bn : Int) - 1) = false := by simpa using e4
        have HP2 := HP3 (fun h => absurd h e3)
        clear HP3 HX3
        go_wp2_with fail
        go_quiet (fail)
        go_wp2_with fail
        go_roundw
        case rel => exact ⟨i + 1, by omega, by go_num, HP2, (HDR.out _).2.1, (HDR.out _).1, (HDR.out _).2.2⟩
        case measure => simp [intOf]; omega
      have e4 : (i : Int) < (t.bn : Int) - 1 := by omega
      have d4 : decide ((i : Int) < (t.bn : Int) - 1) = true := by simpa using e4
      by_cases e5 : x < 1
      · have d5 : decide (x < 1) = true := by simpa using e5
        have HE := HX3 (fun hq => by have := hq e3; omega)
        clear HP3 HX3
        go_wp2_with fail
        go_quiet (fail)
        go_wp2_with fail
        go_ret
        exact ⟨by rw [HE.out]; rfl, (HDR.out _).1⟩
      have d5 : decide (x < 1) = false := by simpa using e5
      by_cases e6 : 1000000 < x
      · have d6 : decide (1000000 < x) = true := by simpa using e6
        have HE := HX3 (fun hq => by have := hq e3; omega)
        clear HP3 HX3
        go_wp2_with fail
        go_quiet (fail)
        go_wp2_with fail
        go_ret
        exact ⟨by rw [HE.out]; rfl, (HDR.out _).1⟩
      have d6 : decide (1000000 < x) = false := by simpa using e6
      by_cases e7 : i = 0
      · have hA0 : Bi.ahead t i = 0 := by rw [e7]; rfl
        have HP2 := HP3 (fun _ => by rw [← HX.out, hA0]; omega)
        have hz0 : ¬ (0 : Int) < (i : Int) := by omega
        have hp0 : ¬ 0 < i := by omega
        have hd0 : decide (0 < i) = false := by simpa using hp0
        have hd1 : decide ((0 : Int) < (i : Int)) = false := by simpa using hz0
        clear e7 hA0
        clear HP3 HX3
        go_wp2_with fail
        go_quiet (fail)
        go_wp2_with fail
        go_roundw
        case rel => exact ⟨i + 1, by omega, by go_num, HP2, (HDR.out _).2.1, (HDR.out _).1, (HDR.out _).2.2⟩
        case measure => simp [intOf]; omega
      have hz0 : (0 : Int) < (i : Int) := by omega
      have hp0 : 0 < i := by omega
      have hd0 : decide (0 < i) = true := by simpa using hp0
      have hd1 : decide ((0 : Int) < (i : Int)) = true := by simpa using hz0
      have hz1 : ((i : Int) - 1).toNat = i - 1 := by omega
      have hz3 : ¬ (i : Int) - 1 < 0 := by omega
      have hz4 : (i : Int) - 1 < (t.bn : Int) := by omega
      have hz5 : IntKind.i64.wrap ((i : Int) - 1) = (i : Int) - 1 := biwrap (by omega) (by omega)
      obtain ⟨b2, hb2, r0, _⟩ := hA.out.at2 (i := i - 1) (by omega)
      cases hb2
      obtain ⟨z, hz⟩ : ∃ z, z = t.B ((i - 1) * 2) := ⟨_, rfl⟩
      rw [← hz] at r0
      have HZ : Hid (Bi.ahead t i = z) := by
        show _ = _
        rw [hz]
        obtain ⟨j, rfl⟩ : ∃ j, i = j + 1 := ⟨i - 1, by omega⟩
        rfl
      clear hz
      by_cases e8 : x ≤ z
      · have d8 : decide (x ≤ z) = true := by simpa using e8
        have HE := HX3 (fun hq => by have := hq e3; rw [HZ.out] at this; omega)
        clear HP3 HX3
        go_wp2_with fail
        go_quiet (fail)
        go_wp2_with fail
        go_ret
        exact ⟨by rw [HE.out]; rfl, (HDR.out _).1⟩
      have d8 : decide (x ≤ z) = false := by simpa using e8
      have HP2 := HP3 (fun _ => by rw [← HX.out, HZ.out]; omega)
      clear HP3 HX3
      go_wp2_with fail
      go_quiet (fail)
      go_wp2_with fail
      go_roundw
      case rel => exact ⟨i + 1, by omega, by go_num, HP2, (HDR.out _).2.1, (HDR.out _).1, (HDR.out _).2.2⟩
      case measure => simp [intOf]; omega
    · obtain rfl : i = t.bn := by omega
      have HE : Hid (Bi.dB (Bi.Right t) = true) := Bi.dB_tt ⟨HBL.out.1, ⟨HBL.out.2.1, hP.out⟩, HBL.out.2.2⟩
      go_wp2_with fail
      go_ret
      exact ⟨by rw [HE.out]; rfl, hB.out⟩
end Go.Proofs.YtnbnfifgajfomaaDoor
