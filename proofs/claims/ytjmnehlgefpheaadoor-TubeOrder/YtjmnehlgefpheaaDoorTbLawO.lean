/-
  The law FnTubeOrder.
-/
import Derived.Test.YtjmnehlgefpheaaDoorTbDr
import Derived.Test.YtjmnehlgefpheaaDoorTbP4
import Derived.Deep.QuietTactic
import Derived.BigQuiet
namespace Go.Proofs.YtjmnehlgefpheaaDoor
open Go.RowKit Go.Deep

namespace Tb
/-- As much as there is room for drives all out. -/
theorem order {r : Int} {l : List Pc} (h : Right r l) (hr : r ≤ 1000000) : runOf 0 r l [⟨r, 7, 9⟩] = (0, [⟨r, 7, 9⟩], l.reverse) := by
  have hw := (wat_bd h.2.1).1
  have h1 := h.1.1
  have h2 := h.2.2
  have hok : Ok ⟨r, 7, 9⟩ := ⟨⟨by show 1 ≤ r; omega, hr⟩, ⟨by show (0 : Int) ≤ 7; omega, by show (7 : Int) ≤ _; omega⟩, by show (0 : Int) ≤ 9; omega, by show (9 : Int) ≤ _; omega⟩
  have hp : psh l.reverse ⟨r, 7, 9⟩ = (l.reverse, [⟨r, 7, 9⟩]) := by
    unfold psh
    have e : (⟨r, 7, 9⟩ : Pc).w = wat l.reverse := by rw [wat_rev, h2]
    rw [e]
    exact drive_full (fun p hp => h.2.1 p (List.mem_reverse.1 hp)) _
  rw [runOf_yes ⟨⟨by omega, by omega⟩, h⟩, runA_on hok (by rw [hp]; simp), hp, decs_0, runA_nil]
  simp
end Tb
set_option maxRecDepth 100000 in
set_option maxHeartbeats 8000000 in
theorem order_law (w : World) (a : Option Addr) (len cap : Nat) (h : Bytes a len w) (hm : len ≤ 9223372036854775807) (hg : Et w ∧ TabOk w) :
    Calls Tryd.prog 4 #[.slice a len cap] w fun e w' => e = .returned (.bool true) ∧ Below w.heap.size w w' := by
  have H := Lib.hid h
  have HG := Lib.hid hg
  clear h hg
  by_cases hl : 1048576 < len
  · have hz : (1048576 : Int) < (len : Int) := by omega
    go_enter Tryd.func4, Tryd.ntmps4
    go_wp2_with fail
    go_ret
    exact ⟨rfl, Below.refl _ _⟩
  have hz : ¬ (1048576 : Int) < (len : Int) := by omega
  go_enter Tryd.func4, Tryd.ntmps4
  go_wp2_with fail
  refine (drawTR_any a len cap _ H.out (by omega)).mono ?_
  rintro e w1 ⟨⟨r, aT, l, c, rfl, ho, hll, hr0, hr1⟩, hb⟩
  obtain ⟨W, hW⟩ : ∃ W, W = w1.alloc (.cells #[.int .i64 r, .slice aT l.length c] 25) := ⟨_, rfl⟩
  have hbw : Below w1.heap.size w1 W := by rw [hW]; exact nbel_alloc _ _
  have HR : Hid (W.rowIs w1.heap.size 25 2 (rowN [.int .i64 r, .slice aT l.length c])) := by show World.rowIs _ _ _ _ _; rw [hW]; exact rowN_alloc w1 _ _
  have HB : Hid (Below w.heap.size w W) := hb.trans (hbw.mono hb.size)
  have HL : Hid (IsAt aT (l.length * 3) (Tb.fl l) W) := (ho.below hbw).at_
  obtain ⟨⟨x0, x1⟩, _⟩ := rowN2 HR.out
  rw [hW] at x0 x1
  have HW := Lib.hid hW
  clear hW hbw hb ho
  go_wp2_with fail
  rw [← HW.out]
  clear HW x0 x1
  refine (sTRight_any r aT l c _ HL.out).mono ?_
  rintro e w2 ⟨⟨b1, rfl, hb1⟩, hb⟩
  have K1 := Lib.hid hb1
  have HR2 := Lib.hid (nrow_below HR.out hb)
  have HL2 := Lib.hid (HL.out.below hb)
  have HB2 : Hid (Below w.heap.size w w2) := HB.out.trans (hb.mono HB.out.size)
  clear hb1 hb HR HL HB
  obtain ⟨⟨x0, x1⟩, _⟩ := rowN2 HR2.out
  rcases b1 with _ | _
  · go_wp2_with fail
    go_ret
    exact ⟨rfl, HB2.out⟩
  have HRT : Hid (Tb.Right r l) := K1.out.1 rfl
  clear K1
  by_cases hr : 1000000 < r
  · go_wp2_with fail
    go_ret
    exact ⟨rfl, HB2.out⟩
  have HX := Lib.hid (Tb.order HRT.out (by omega : r ≤ 1000000))
  have HLEN : Hid (1 ≤ l.length ∧ l.length ≤ 60) := HRT.out.1
  have HG2 : Hid (Et w2 ∧ TabOk w2) := ⟨HG.out.1.below HB2.out, tab_below HG.out.2 HB2.out⟩
  go_wp2_with fail
  refine (implPush_any r aT l c ⟨r, 7, 9⟩ _ HL2.out HG2.out).mono ?_
  rintro e w3 ⟨⟨a5, k5, p5, d5, e5, htw⟩, hb⟩
  rw [HX.out] at e5 htw
  have e6 : e = .returned (toV r a5 1 k5 p5 l.length d5 0) := by rw [e5]; unfold roomOf; simp
  subst e6
  obtain ⟨W3, hW3⟩ : ∃ W3, W3 = w3.alloc (.cells #[.int .i64 r, .slice a5 1 k5, .slice p5 l.length d5, .int .i64 0] 29) := ⟨_, rfl⟩
  have hbw : Below w3.heap.size w3 W3 := by rw [hW3]; exact nbel_alloc _ _
  have HX3 : Hid (W3.rowIs w3.heap.size 29 4 (rowN (toL r a5 1 k5 p5 l.length d5 0))) := by show World.rowIs _ _ _ _ _; rw [hW3]; exact rowN_alloc w3 _ _
  have HR3 := Lib.hid (nrow_below (nrow_below HR2.out hb) hbw)
  have HL3 := Lib.hid ((HL2.out.below hb).below hbw)
  have HT3 := Lib.hid ((htw.x.below hbw).at_)
  have HO3 : Hid (IsAt p5 (l.reverse.length * 3) (Tb.fl l.reverse) W3) := (htw.y.below hbw).at_
  have hbx : Below w.heap.size w w3 := HB2.out.trans (hb.mono HB2.out.size)
  have HB3 : Hid (Below w.heap.size w W3) := hbx.trans (hbw.mono hbx.size)
  have HW3 := Lib.hid hW3
  clear hb hbw hW3 htw e5 hbx HR2 HL2 HB2 HG2 x0 x1
  obtain ⟨⟨x0, x1⟩, _⟩ := rowN2 HR3.out
  obtain ⟨⟨y0, y1, y2, y3⟩, _⟩ := rowN4 HX3.out
  obtain ⟨gp, ep, q0, q1, q2⟩ := HT3.out.pc (i := 0) (by simp)
  subst ep
  simp only [Nat.zero_mul, Nat.zero_add] at q0 q1 q2
  have hp0 : Tb.pg [(⟨r, 7, 9⟩ : Tb.Pc)] 0 = ⟨r, 7, 9⟩ := rfl
  rw [hp0] at q0 q1 q2
  go_wp2_with fail
  rw [← HW3.out]
  clear HW3 hp0
  go_quiet (fail)
  clear x0 x1 y0 y1 y2 y3 q0 q1 q2
  have hln := HLEN.out
  go_wp2_with fail
  go_loopw [5] (fun iv wr => ∃ (i : Nat), i ≤ l.length ∧ iv = .int .i64 i ∧ Hid (Below W3.heap.size W3 wr)) (fun iv _ => l.length - (intOf iv).toNat)
  case atStart => exact ⟨0, Nat.zero_le _, rfl, ndrewN (Below.refl _ _) _⟩
  case round =>
    obtain ⟨i, hi, rfl, hB⟩ := hrel
    obtain ⟨⟨x0, x1⟩, _⟩ := rowN2 (nrow_below HR3.out hB.out)
    obtain ⟨⟨y0, y1, y2, y3⟩, _⟩ := rowN4 (nrow_below HX3.out hB.out)
    by_cases hlt : i < l.length
    · have hltz : (i : Int) < (l.length : Int) := by omega
      obtain ⟨k, hk⟩ : ∃ k, k = l.length - 1 - i := ⟨_, rfl⟩
      have hkl : k < l.length := by omega
      have hklz : (k : Int) < (l.length : Int) := by omega
      have hkz : (l.length : Int) - 1 - i = (k : Int) := by omega
      obtain ⟨gt, et, c0, c1, c2⟩ := (HL3.out.below hB.out).pc hkl
      obtain ⟨go, eo, d0, d1, d2⟩ := (HO3.out.below hB.out).pc (i := i) (by simpa using hlt)
      subst et
      subst eo
      have hpg : Tb.pg l.reverse i = Tb.pg l k := by rw [Tb.pg_rev hlt, hk]
      rw [hpg] at d0 d1 d2
      have HB4 : Hid (Below W3.heap.size W3 wr) := hB.out
      clear hpg hk hB
      generalize Tb.pg l k = P at *
      go_wp2_with fail
      go_quiet (fail)
      go_wp2_with fail
      go_roundw
      case rel => exact ⟨i + 1, by omega, by go_num, ndrewN HB4.out _⟩
      case measure => simp [intOf]; omega
    · obtain rfl : i = l.length := by omega
      go_wp2_with fail
      go_ret
      exact ⟨rfl, HB3.out.trans (hB.out.mono HB3.out.size)⟩
end Go.Proofs.YtjmnehlgefpheaaDoor
