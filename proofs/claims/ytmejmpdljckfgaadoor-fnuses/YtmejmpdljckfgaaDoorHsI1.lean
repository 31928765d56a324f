/-
  The program's tests of points and values.
-/
import Derived.Test.YtmejmpdljckfgaaDoorHsMem
import Derived.Test.YtmejmpdljckfgaaDoorAlI1
namespace Go.Proofs.YtmejmpdljckfgaaDoor
open Go.RowKit Go.Deep

theorem habout_any (n b : Int) (hb : 0 ≤ b ∧ b ≤ 1000000) (w : World) :
    Calls Tryd.prog 46 #[.int .i64 n, .int .i64 b] w fun e w' => e = .returned (.bool (decide (-b ≤ n ∧ n ≤ b))) ∧ w' = w := by
  have hm : IntKind.i64.wrap (-b) = -b := Hs.wrapid (by omega) (by omega)
  by_cases h1 : -b ≤ n
  · by_cases h2 : n ≤ b
    · rw [decide_eq_true (show -b ≤ n ∧ n ≤ b from ⟨h1, h2⟩)]
      go_enter Tryd.func46, Tryd.ntmps46
      go_wp2_with fail
      go_ret
      exact ⟨rfl, rfl⟩
    · rw [decide_eq_false (show ¬ (-b ≤ n ∧ n ≤ b) from fun h => h2 h.2)]
      go_enter Tryd.func46, Tryd.ntmps46
      go_wp2_with fail
      go_ret
      exact ⟨rfl, rfl⟩
  · rw [decide_eq_false (show ¬ (-b ≤ n ∧ n ≤ b) from fun h => h1 h.1)]
    go_enter Tryd.func46, Tryd.ntmps46
    go_wp2_with fail
    go_ret
    exact ⟨rfl, rfl⟩
set_option maxRecDepth 100000 in
set_option maxHeartbeats 4000000 in
theorem implPR_any (la : Option Addr) (n cap : Nat) (F : Nat → Int) (w : World) (h : IsAt la (n * 2) F w) (hn : n ≤ 1048576) :
    Calls Tryd.prog 22 #[.slice la n cap] w fun e w' => e = .returned (.bool (Mt.dB (Hs.Right F n))) ∧ Below w.heap.size w w' := by
  have H := Lib.hid h
  clear h
  by_cases hbig : (300 : Int) < (n : Int)
  · have HE := Lib.hid (Mt.dB_ff (show ¬ Hs.Right F n from fun h => by have := h.1; omega))
    go_enter Tryd.func22, Tryd.ntmps22
    go_wp2_with fail
    go_ret
    exact ⟨by rw [HE.out]; rfl, Below.refl _ _⟩
  have HN3 : Hid (n ≤ 300) := by show n ≤ 300; omega
  obtain ⟨W, hW⟩ : ∃ W, W = w.alloc (.cells #[.int .i64 0, .int .i64 0] 97) := ⟨_, rfl⟩
  have HA0 : Hid (W.rowIs w.heap.size 97 2 (rowN [.int .i64 (Hs.lo F 0), .int .i64 (Hs.hi 0)])) := by show World.rowIs _ _ _ _ _; rw [hW]; exact rowN_alloc w [.int .i64 0, .int .i64 0] _
  have HB0 : Hid (Below w.heap.size w W) := by show Below _ _ _; rw [hW]; exact nbel_alloc _ _
  have HW := Lib.hid hW
  clear hW
  go_enter Tryd.func22, Tryd.ntmps22
  go_wp2_with fail
  rw [← HW.out]
  clear HW
  go_loopw [5, 12] (fun _ iv wr => ∃ (i : Nat), i ≤ n ∧ iv = .int .i64 i ∧ Hid (wr.rowIs w.heap.size 97 2 (rowN [.int .i64 (Hs.lo F i), .int .i64 (Hs.hi i)])) ∧ Hid (Below w.heap.size w wr) ∧ Hid (∀ j, j < i → Hs.PtAt F j)) (fun _ iv _ => n - (intOf iv).toNat)
  case atStart => exact ⟨0, Nat.zero_le _, rfl, HA0, HB0, fun j hj => absurd hj (Nat.not_lt_zero _)⟩
  case round =>
    obtain ⟨i, hi, rfl, hA, hB, hP⟩ := hrel
    clear HA0 HB0
    by_cases hlt : i < n
    · have hltz : (i : Int) < (n : Int) := by omega
      obtain ⟨b, e, k0, k1⟩ := (H.out.below hB.out).at2 hlt
      subst e
      obtain ⟨x, hx⟩ : ∃ x, x = F (i * 2) := ⟨_, rfl⟩
      obtain ⟨y, hy⟩ : ∃ x, x = F (i * 2 + 1) := ⟨_, rfl⟩
      obtain ⟨u, hu⟩ : ∃ x, x = Hs.lo F i := ⟨_, rfl⟩
      obtain ⟨s, hs⟩ : ∃ x, x = Hs.hi i := ⟨_, rfl⟩
      rw [← hx] at k0
      rw [← hy] at k1
      rw [← hu, ← hs] at hA
      have HS : Hid (s ≤ 299) := by show s ≤ 299; rw [hs]; unfold Hs.hi; split <;> omega
      have HU : Hid (0 ≤ u) := by
        show 0 ≤ u
        rw [hu]
        match i with
        | 0 => exact Int.le_refl 0
        | i + 1 => rw [Hs.lo_succ]; have := Hs.Right.ge (F := F) (n := i + 1) ⟨by have := HN3.out; omega, hP.out⟩ i (by omega); omega
      have HPA : Hid (Hs.PtAt F i ↔ ((u ≤ x ∧ x ≤ s) ∧ Al.V y)) := by
        show _ ↔ _
        rw [hx, hy, hu, hs]
        exact ⟨fun h => ⟨⟨h.1, h.2.1⟩, h.2.2⟩, fun h => ⟨h.1.1, h.1.2, h.2⟩⟩
      have HNX : Hid (Hs.lo F (i + 1) = x + 1 ∧ Hs.hi (i + 1) = 299) := ⟨by rw [Hs.lo_succ, hx], Hs.hi_succ i⟩
      have zb : b < wr.heap.size := World.block_lt_of_cell? _ _ k0
      clear hx hy hu hs
      obtain ⟨⟨a0, a1⟩, g0, g1⟩ := rowN2 hA.out
      have hal := hA.out.lt
      obtain ⟨Y, hY⟩ : ∃ Y, Y = wr.alloc (.cells #[.int .i64 x, .int .i64 y] 104) := ⟨_, rfl⟩
      have HYB : Hid (Below w.heap.size w Y) := by show Below _ _ _; rw [hY]; exact hB.out.alloc hB.out.size _
      have HYR : Hid (Y.rowIs wr.heap.size 104 2 (rowN [.int .i64 x, .int .i64 y])) := by show World.rowIs _ _ _ _ _; rw [hY]; exact rowN_alloc wr _ _
      have HYA : Hid (Y.rowIs w.heap.size 97 2 (rowN [.int .i64 u, .int .i64 s])) := by show World.rowIs _ _ _ _ _; rw [hY]; exact nrow_below hA.out (nbel_alloc _ _)
      have HY := Lib.hid hY
      clear hY
      go_wp2_with fail
      rw [← HY.out]
      clear HY k0 k1 a0 a1 g0 g1
      refine (mholds_any u s x _).mono ?_
      rintro e w1 ⟨rfl, hb⟩
      replace HYR := Lib.hid (nrow_below HYR.out hb)
      replace HYA := Lib.hid (nrow_below HYA.out hb)
      replace HYB : Hid (Below w.heap.size w w1) := HYB.out.trans (hb.mono HYB.out.size)
      clear hb
      by_cases c : u ≤ x ∧ x ≤ s
      case neg =>
        rw [decide_eq_false c]
        have HE := Lib.hid (Mt.dB_ff (show ¬ Hs.Right F n from fun h => c (HPA.out.1 (h.2 i hlt)).1))
        clear c
        go_wp2_with fail
        go_ret
        exact ⟨by rw [HE.out]; rfl, HYB.out⟩
      rw [decide_eq_true c]
      have HC := Lib.hid c
      clear c
      obtain ⟨⟨r0, r1⟩, _⟩ := rowN2 HYR.out
      go_wp2_with fail
      refine (value_any y _).mono ?_
      rintro e w2 ⟨rfl, hb⟩
      replace HYR := Lib.hid (nrow_below HYR.out hb)
      replace HYA := Lib.hid (nrow_below HYA.out hb)
      replace HYB : Hid (Below w.heap.size w w2) := HYB.out.trans (hb.mono HYB.out.size)
      clear hb r0 r1
      by_cases c : Al.V y
      case neg =>
        rw [decide_eq_false c]
        have HE := Lib.hid (Mt.dB_ff (show ¬ Hs.Right F n from fun h => c (HPA.out.1 (h.2 i hlt)).2))
        clear c
        go_wp2_with fail
        go_ret
        exact ⟨by rw [HE.out]; rfl, HYB.out⟩
      rw [decide_eq_true c]
      have HOK : Hid (Hs.PtAt F i) := HPA.out.2 ⟨HC.out, c⟩
      clear c
      have hxx : -1 ≤ x ∧ x ≤ 299 := ⟨by have := HC.out.1; have := HU.out; omega, by have := HC.out.2; have := HS.out; omega⟩
      obtain ⟨⟨r0, r1⟩, _⟩ := rowN2 HYR.out
      obtain ⟨⟨a0, a1⟩, g0, g1⟩ := rowN2 HYA.out
      have hal2 := HYA.out.lt
      have HA2 : Hid (((w2.setCell ⟨w.heap.size, 0, none⟩ (.int .i64 (x + 1))).setCell ⟨w.heap.size, 1, none⟩ (.int .i64 299)).rowIs w.heap.size 97 2 (rowN [.int .i64 (x + 1), .int .i64 299])) := rowN_put (rowN_put HYA.out 0 (.int .i64 (x + 1)) (by simp)) 1 (.int .i64 299) (by simp)
      have HB2 : Hid (Below w.heap.size w ((w2.setCell ⟨w.heap.size, 0, none⟩ (.int .i64 (x + 1))).setCell ⟨w.heap.size, 1, none⟩ (.int .i64 299))) := (HYB.out.setCell (p := ⟨w.heap.size, 0, none⟩) (Nat.le_refl _) _).setCell (p := ⟨w.heap.size, 1, none⟩) (Nat.le_refl _) _
      go_wp2_with fail
      go_roundw
      case rel => exact ⟨i + 1, by omega, by go_num, by rw [HNX.out.1, HNX.out.2]; exact HA2, HB2, fun j hj => by
        by_cases e : j = i
        · subst e; exact HOK.out
        · exact hP.out j (by omega)⟩
      case measure => simp [intOf]; omega
    · obtain rfl : i = n := by omega
      have HE := Lib.hid (Mt.dB_tt (show Hs.Right F i from ⟨HN3.out, hP.out⟩))
      go_wp2_with fail
      go_ret
      exact ⟨by rw [HE.out]; rfl, hB.out⟩
set_option maxRecDepth 100000 in
set_option maxHeartbeats 4000000 in
theorem histR_any (la : Option Addr) (n cap : Nat) (V : Nat → Int) (w : World) (h : IsAt la n V w) (hn : n ≤ 1048576) :
    Calls Tryd.prog 54 #[.slice la n cap] w fun e w' => e = .returned (.bool (Mt.dB (Hs.Vals V n))) ∧ Below w.heap.size w w' := by
  have H := Lib.hid h
  clear h
  by_cases hbig : (n : Int) ≤ 300
  · have HN3 : Hid (n ≤ 300) := by show n ≤ 300; omega
    go_enter Tryd.func54, Tryd.ntmps54
    go_wp2_with fail
    refine (ivall_any la n cap V w H.out hn).mono ?_
    rintro e w1 ⟨rfl, hb⟩
    have HB := Lib.hid hb
    clear hb
    by_cases c : ∀ i, i < n → Al.V (V i)
    · have HE := Lib.hid (Mt.dB_tt (show Hs.Vals V n from ⟨HN3.out, c⟩))
      rw [Mt.dB_tt c]
      clear c
      go_wp2_with fail
      go_ret
      exact ⟨by rw [HE.out]; rfl, HB.out⟩
    · have HE := Lib.hid (Mt.dB_ff (show ¬ Hs.Vals V n from fun h => c h.2))
      rw [Mt.dB_ff c]
      clear c
      go_wp2_with fail
      go_ret
      exact ⟨by rw [HE.out]; rfl, HB.out⟩
  · have HE := Lib.hid (Mt.dB_ff (show ¬ Hs.Vals V n from fun h => by have := h.1; omega))
    go_enter Tryd.func54, Tryd.ntmps54
    go_wp2_with fail
    go_ret
    exact ⟨by rw [HE.out]; rfl, Below.refl _ _⟩
end Go.Proofs.YtmejmpdljckfgaaDoor
