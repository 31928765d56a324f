/-
  Right tariffs: the program's and the model's.
-/
import Derived.Test.YtnbnfifgajfomaaDoorBiMem
import Derived.Test.YtnbnfifgajfomaaDoorBiW
import Derived.BigQuiet
namespace Go.Proofs.YtnbnfifgajfomaaDoor
open Go.RowKit Go.Deep

set_option maxRecDepth 100000 in
set_option maxHeartbeats 4000000 in
theorem blocksRight_any (t : Bi.T) (a : Option Addr) (k : Nat) (w : World) (h : IsAt a (t.bn * 2) t.B w) (hn : t.bn ≤ 9223372036854775807) :
    Calls Tryd.prog 72 #[.slice a t.bn k] w fun e w' => e = .returned (.bool (Bi.dB (Bi.Blocks t))) ∧ Below w.heap.size w w' := by
  have H := Lib.hid h
  clear h
  by_cases c1 : (t.bn : Int) < 1
  · have HE : Hid (Bi.dB (Bi.Blocks t) = false) := Bi.dB_ff (fun h => by have := h.1; omega)
    go_enter Tryd.func72, Tryd.ntmps72
    go_wp2_with fail
    go_ret
    exact ⟨by rw [HE.out]; rfl, Below.refl _ _⟩
  by_cases c2 : (10 : Int) < (t.bn : Int)
  · have HE : Hid (Bi.dB (Bi.Blocks t) = false) := Bi.dB_ff (fun h => by have := h.1; omega)
    go_enter Tryd.func72, Tryd.ntmps72
    go_wp2_with fail
    go_ret
    exact ⟨by rw [HE.out]; rfl, Below.refl _ _⟩
  have hb1 : 1 ≤ t.bn ∧ t.bn ≤ 10 := by omega
  go_enter Tryd.func72, Tryd.ntmps72
  go_wp2_with fail
  go_loopw [3, 17] (fun av iv wr => ∃ (i : Nat), i ≤ t.bn ∧ iv = .int .i64 i ∧ av = .int .i64 (Bi.ahead t i) ∧ Hid (∀ j, j < i → Bi.BlkOk t j) ∧ Hid (Below w.heap.size w wr)) (fun _ iv _ => t.bn - (intOf iv).toNat)
  case atStart => exact ⟨0, Nat.zero_le _, rfl, rfl, fun j hj => absurd hj (Nat.not_lt_zero _), Below.refl _ _⟩
  case round =>
    obtain ⟨i, hi, rfl, rfl, hP, hB⟩ := hrel
    by_cases hlt : i < t.bn
    · have hltz : (i : Int) < (t.bn : Int) := by omega
      obtain ⟨b, rfl, q0, q1⟩ := (H.out.below hB.out).at2 hlt
      have ha := Bi.ahead_bd i hP.out hlt
      have HNX : Hid (Bi.ahead t (i + 1) = t.B (i * 2)) := rfl
      have hwb : b < wr.heap.size := World.block_lt_of_cell? _ _ q0
      obtain ⟨V, hV⟩ : ∃ V, V = wr.alloc (.cells #[.int .i64 (t.B (i * 2)), .int .i64 (t.B (i * 2 + 1))] 73) := ⟨_, rfl⟩
      have HBV : Hid (Below w.heap.size w V) := by show Below _ _ _; rw [hV]; exact hB.out.alloc hB.out.size _
      have HRV : Hid (V.rowIs wr.heap.size 73 2 (rowN [.int .i64 (t.B (i * 2)), .int .i64 (t.B (i * 2 + 1))])) := by show V.rowIs _ _ _ _; rw [hV]; exact rowN_alloc _ _ _
      have HV := Lib.hid hV
      obtain ⟨A, hA⟩ : ∃ A, A = Bi.ahead t i := ⟨_, rfl⟩
      rw [← hA] at ha ⊢
      have HA := Lib.hid hA
      obtain ⟨x, hx⟩ : ∃ x, x = t.B (i * 2) := ⟨_, rfl⟩
      obtain ⟨y, hy⟩ : ∃ y, y = t.B (i * 2 + 1) := ⟨_, rfl⟩
      rw [← hx, ← hy] at HRV
      rw [← hx] at q0 HNX
      rw [← hy] at q1
      rw [← hx, ← hy] at HV
      have HX := Lib.hid hx
      have HY := Lib.hid hy
      clear hV hA hx hy
      obtain ⟨⟨r0, r1⟩, _⟩ := rowN2 HRV.out
      rw [HV.out] at r0 r1
      by_cases e2 : 0 ≤ y ∧ y ≤ 10000
      case neg =>
        have HE : Hid (Bi.dB (Bi.Blocks t) = false) := Bi.dB_ff (fun h => e2 (by rw [HY.out]; exact (h.2 i hlt).1))
        by_cases e1 : (i : Int) < (t.bn : Int) - 1
        · go_wp2_with fail
          refine (awithin_any _ _ _).mono ?_
          rintro e w1 ⟨rfl, rfl⟩
          rw [decide_eq_false e2]
          clear e2
          go_wp2_with fail
          go_ret
          exact ⟨by rw [HE.out]; rfl, by rw [← HV.out]; exact HBV.out⟩
        · go_wp2_with fail
          refine (awithin_any _ _ _).mono ?_
          rintro e w1 ⟨rfl, rfl⟩
          rw [decide_eq_false e2]
          clear e2
          go_wp2_with fail
          go_ret
          exact ⟨by rw [HE.out]; rfl, by rw [← HV.out]; exact HBV.out⟩
      have E2 := Lib.hid e2
      clear e2
      by_cases e0 : i + 1 < t.bn
      · have e1 : (i : Int) < (t.bn : Int) - 1 := by omega
        go_wp2_with fail
        refine (awithin_any _ _ _).mono ?_
        rintro e w1 ⟨rfl, hw1⟩
        rw [decide_eq_true E2.out]
        subst hw1
        go_wp2_with fail
        rw [← HV.out] at r0 r1 ⊢
        refine (biholds_any _ _ _ _).mono ?_
        rintro e w2 ⟨rfl, hb⟩
        obtain ⟨⟨s0, s1⟩, _⟩ := rowN2 (nrow_below HRV.out hb)
        have HB2 : Hid (Below w.heap.size w w2) := HBV.out.trans (hb.mono HBV.out.size)
        clear hb r0 r1 HV q0 q1
        by_cases e3 : A + 1 ≤ x ∧ x ≤ 1000000
        · rw [decide_eq_true e3]
          have HP2 : Hid (∀ j, j < i + 1 → Bi.BlkOk t j) := fun j hj => by
            by_cases e : j = i
            · subst e; exact ⟨by rw [← HY.out]; exact E2.out, fun _ => by rw [← HX.out, ← HA.out]; exact e3⟩
            · exact hP.out j (by omega)
          clear e3
          go_wp2_with fail
          go_roundw
          case rel => exact ⟨i + 1, by omega, by go_num, by rw [HNX.out], HP2, HB2⟩
          case measure => simp [intOf]; omega
        · rw [decide_eq_false e3]
          have HE : Hid (Bi.dB (Bi.Blocks t) = false) := Bi.dB_ff (fun h => e3 (by rw [HX.out, HA.out]; exact (h.2 i hlt).2 e0))
          clear e3
          go_wp2_with fail
          go_ret
          exact ⟨by rw [HE.out]; rfl, HB2.out⟩
      · have e1 : ¬ (i : Int) < (t.bn : Int) - 1 := by omega
        go_wp2_with fail
        refine (awithin_any _ _ _).mono ?_
        rintro e w1 ⟨rfl, hw1⟩
        rw [decide_eq_true E2.out]
        subst hw1
        have HP2 : Hid (∀ j, j < i + 1 → Bi.BlkOk t j) := fun j hj => by
          by_cases e : j = i
          · subst e; exact ⟨by rw [← HY.out]; exact E2.out, fun h => absurd h e0⟩
          · exact hP.out j (by omega)
        rw [HV.out] at HBV
        go_wp2_with fail
        go_roundw
        case rel => exact ⟨i + 1, by omega, by go_num, by rw [HNX.out], HP2, HBV⟩
        case measure => simp [intOf]; omega
    · obtain rfl : i = t.bn := by omega
      have HE : Hid (Bi.dB (Bi.Blocks t) = true) := Bi.dB_tt ⟨hb1, hP.out⟩
      go_wp2_with fail
      go_ret
      exact ⟨by rw [HE.out]; rfl, hB.out⟩
set_option maxRecDepth 100000 in
set_option maxHeartbeats 4000000 in
theorem implTariff_any (t : Bi.T) (a : Option Addr) (k : Nat) (w : World) (h : IsAt a (t.bn * 2) t.B w) (hn : t.bn ≤ 9223372036854775807) :
    Calls Tryd.prog 62 #[tfV t a k] w fun e w' => e = .returned (.bool (Bi.dB (Bi.Right t))) ∧ Below w.heap.size w w' := by
  obtain ⟨W, hW⟩ : ∃ W, W = w.alloc (.cells #[.int .i64 t.day, .slice a t.bn k, .int .i64 t.sew, .int .i64 t.tax] 25) := ⟨_, rfl⟩
  have HB : Hid (Below w.heap.size w W) := by show Below _ _ _; rw [hW]; exact nbel_alloc _ _
  have HR : Hid (W.rowIs w.heap.size 25 4 (rowN (tfL t a k))) := by show W.rowIs _ _ _ _; rw [hW]; exact rowN_alloc w _ _
  have H := Lib.hid (h.below HB.out)
  have HW := Lib.hid hW
  clear hW h
  go_enter Tryd.func62, Tryd.ntmps62
  go_wp2_with fail
  rw [← HW.out]
  clear HW
  refine (awithin_any _ _ _).mono ?_
  rintro e w1 ⟨rfl, rfl⟩
  obtain ⟨⟨p0, p1, p2, p3⟩, _⟩ := rowN4 HR.out
  by_cases c1 : 0 ≤ t.day ∧ t.day ≤ 10000
  case neg =>
    rw [decide_eq_false c1]
    have HE : Hid (Bi.dB (Bi.Right t) = false) := Bi.dB_ff (fun h => c1 h.1)
    clear c1
    go_wp2_with fail
    go_ret
    exact ⟨by rw [HE.out]; rfl, HB.out⟩
  rw [decide_eq_true c1]
  have HC1 := Lib.hid c1
  clear c1
  go_wp2_with fail
  refine (blocksRight_any t _ _ _ H.out hn).mono ?_
  rintro e w2 ⟨rfl, hb⟩
  have HB2 : Hid (Below w.heap.size w w2) := HB.out.trans (hb.mono HB.out.size)
  clear p0 p1 p2 p3
  obtain ⟨⟨p0, p1, p2, p3⟩, _⟩ := rowN4 (nrow_below HR.out hb)
  clear hb
  by_cases c2 : Bi.Blocks t
  case neg =>
    rw [Bi.dB_ff c2]
    have HE : Hid (Bi.dB (Bi.Right t) = false) := Bi.dB_ff (fun h => c2 h.2.1)
    clear c2
    go_wp2_with fail
    go_ret
    exact ⟨by rw [HE.out]; rfl, HB2.out⟩
  rw [Bi.dB_tt c2]
  have HC2 := Lib.hid c2
  clear c2
  go_wp2_with fail
  refine (awithin_any _ _ _).mono ?_
  rintro e w3 ⟨rfl, rfl⟩
  by_cases c3 : 0 ≤ t.sew ∧ t.sew ≤ 200
  case neg =>
    rw [decide_eq_false c3]
    have HE : Hid (Bi.dB (Bi.Right t) = false) := Bi.dB_ff (fun h => c3 h.2.2.1)
    clear c3
    go_wp2_with fail
    go_ret
    exact ⟨by rw [HE.out]; rfl, HB2.out⟩
  rw [decide_eq_true c3]
  have HC3 := Lib.hid c3
  clear c3
  go_wp2_with fail
  refine (awithin_any _ _ _).mono ?_
  rintro e w4 ⟨rfl, rfl⟩
  by_cases c4 : 0 ≤ t.tax ∧ t.tax ≤ 100
  · rw [decide_eq_true c4]
    have HE : Hid (Bi.dB (Bi.Right t) = true) := Bi.dB_tt ⟨HC1.out, HC2.out, HC3.out, c4⟩
    clear c4
    go_wp2_with fail
    go_ret
    exact ⟨by rw [HE.out]; rfl, HB2.out⟩
  · rw [decide_eq_false c4]
    have HE : Hid (Bi.dB (Bi.Right t) = false) := Bi.dB_ff (fun h => c4 h.2.2.2)
    clear c4
    go_wp2_with fail
    go_ret
    exact ⟨by rw [HE.out]; rfl, HB2.out⟩
end Go.Proofs.YtnbnfifgajfomaaDoor
