/-
  The model's PointsRight and HistoryAt.
-/
import Derived.Test.YtlocpliljkgfnaaDoorHsMem
import Derived.Test.YtlocpliljkgfnaaDoorLnS1
import Derived.Deep.QuietTactic
import Derived.BigQuiet
namespace Go.Proofs.YtlocpliljkgfnaaDoor
open Go.RowKit Go.Deep

set_option maxRecDepth 100000 in
set_option maxHeartbeats 16000000 in
theorem specPR_any (la : Option Addr) (n cap : Nat) (F : Nat → Int) (w : World) (h : IsAt la (n * 2) F w) (hn : n ≤ 1048576) :
    Calls Tryd.prog 13 #[.slice la n cap] w fun e w' => e = .returned (.bool (Mt.dB (Hs.Right F n))) ∧ Gr w w' := by
  have H := Lib.hid h
  clear h
  by_cases hbig : (300 : Int) < (n : Int)
  · have HE := Lib.hid (Mt.dB_ff (show ¬ Hs.Right F n from fun h => by have := h.1; omega))
    go_enter Tryd.func13, Tryd.ntmps13
    go_wp2_with fail
    go_ret
    exact ⟨by rw [HE.out]; rfl, Gr.refl _⟩
  have HN3 : Hid (n ≤ 300) := by show n ≤ 300; omega
  go_enter Tryd.func13, Tryd.ntmps13
  go_wp2_with fail
  go_loopw [3, 4] (fun iv _ wr => ∃ (i : Nat), i ≤ n ∧ iv = .int .i64 i ∧ Hid (Gr w wr) ∧ Hid (∀ j, j < i → Hs.PtAt F j)) (fun iv _ _ => n - (intOf iv).toNat)
  case atStart => exact ⟨0, Nat.zero_le _, rfl, Gr.refl _, fun j hj => absurd hj (Nat.not_lt_zero _)⟩
  case round =>
    obtain ⟨i, hi, rfl, hB, hP⟩ := hrel
    by_cases hlt : i < n
    · have hltz : (i : Int) < (n : Int) := by omega
      obtain ⟨b, e, kk⟩ := (H.out.below hB.out.bel).pos (by omega)
      subst e
      have k0 := kk (i * 2) (by omega)
      have k1 := kk (i * 2 + 1) (by omega)
      obtain ⟨x, hx⟩ : ∃ x, x = F (i * 2) := ⟨_, rfl⟩
      obtain ⟨y, hy⟩ : ∃ x, x = F (i * 2 + 1) := ⟨_, rfl⟩
      rw [← hx] at k0
      rw [← hy] at k1
      have zb : b < wr.heap.size := World.block_lt_of_cell? _ _ k0
      have HPA : Hid (Hs.PtAt F i ↔ (Hs.lo F i ≤ x ∧ x ≤ Hs.hi i ∧ -1000000 ≤ y ∧ y ≤ 1000000)) := by show _ ↔ _; rw [hx, hy]; exact Iff.rfl
      have HHI : Hid (Hs.hi i ≤ 299) := by show Hs.hi i ≤ 299; unfold Hs.hi; split <;> omega
      obtain ⟨V, hV⟩ : ∃ V, V = wr.alloc (.cells #[.int .i64 x, .int .i64 y] 38) := ⟨_, rfl⟩
      have HDR : Hid (∀ m : Nat, Gr w (V.drewN m)) := fun m => by rw [hV]; exact (hB.out.alloc _).drewN m
      rw [hV] at HDR
      clear hV
      have HX3 : ∀ (_ : ¬ (Hs.lo F i ≤ x ∧ x ≤ Hs.hi i ∧ -1000000 ≤ y ∧ y ≤ 1000000)), Hid (Mt.dB (Hs.Right F n) = false) := fun hq => Mt.dB_ff (fun h => hq (HPA.out.1 (h.2 i hlt)))
      have KV := Lib.hid (fun wx => sval19_any y wx)
      by_cases e7 : i = 0
      · have hz0 : ((i : Int) == 0) = true := by simp; omega
        have hd1 : decide ((0 : Int) < (i : Int)) = false := by simp; omega
        have hd0 : decide (0 < i) = false := by simp; omega
        have HL0 : Hid (Hs.lo F i = 0 ∧ Hs.hi i = 0) := by rw [e7]; exact ⟨rfl, rfl⟩
        clear kk hx hy
        by_cases e1 : x = 0
        · have d1 : (x != 0) = false := by simpa using e1
          have HLO : Hid (Hs.lo F i ≤ x) := by show _ ≤ _; rw [HL0.out.1, e1]; exact Int.le_refl _
          have HUP : Hid (x < 300 → x ≤ Hs.hi i) := fun _ => by rw [HL0.out.2, e1]; exact Int.le_refl _
          clear e7 e1 HL0
          by_cases e2 : 300 ≤ x
          · have d2 : decide (300 ≤ x) = true := by simpa using e2
            have HE := HX3 (fun hq => by have := hq.2.1; have := HHI.out; omega)
            clear HX3 
            go_wp2_with fail
            go_quiet (fail)
            go_wp2_with fail
            go_ret
            exact ⟨by rw [HE.out]; rfl, (HDR.out _)⟩
          have d2 : decide (300 ≤ x) = false := by simpa using e2
          by_cases e3 : -1000000 ≤ y ∧ y ≤ 1000000
          case neg =>
            have HE := HX3 (fun hq => e3 hq.2.2)
            rw [decide_eq_false e3] at KV
            clear HX3  e3
            go_wp2_with fail
            go_quiet ((go_at_call 29; exact Calls.quiet_of_same (KV.out _)))
            go_wp2_with fail
            go_ret
            exact ⟨by rw [HE.out]; rfl, (HDR.out _)⟩
          have HOK : Hid (Hs.PtAt F i) := HPA.out.2 ⟨HLO.out, HUP.out (by omega), e3⟩
          rw [decide_eq_true e3] at KV
          clear HX3  e3
          go_wp2_with fail
          go_quiet ((go_at_call 29; exact Calls.quiet_of_same (KV.out _)))
          go_wp2_with fail
          go_roundw
          case rel => exact ⟨i + 1, by omega, by go_num, HDR.out _, fun j hj => by
            by_cases e : j = i
            · subst e; exact HOK.out
            · exact hP.out j (by omega)⟩
          case measure => simp [intOf]; omega
        · have d1 : (x != 0) = true := by simpa using e1
          have HE := HX3 (fun hq => e1 (by have := hq.1; have := hq.2.1; rw [HL0.out.1] at *; rw [HL0.out.2] at *; omega))
          clear HX3 e1 e7
          go_wp2_with fail
          go_quiet (fail)
          go_wp2_with fail
          go_ret
          exact ⟨by rw [HE.out]; rfl, (HDR.out _)⟩
      · have hz0 : ((i : Int) == 0) = false := by simp; omega
        have hd1 : decide ((0 : Int) < (i : Int)) = true := by simp; omega
        have hd0 : decide (0 < i) = true := by simp; omega
        have hz1 : ((i : Int) - 1).toNat = i - 1 := by omega
        have hz3 : ¬ (i : Int) - 1 < 0 := by omega
        have hz4 : (i : Int) - 1 < (n : Int) := by omega
        have hz5 : IntKind.i64.wrap ((i : Int) - 1) = (i : Int) - 1 := lnwrap (by omega) (by omega)
        have r0 := kk ((i - 1) * 2) (by omega)
        obtain ⟨z, hz⟩ : ∃ z, z = F ((i - 1) * 2) := ⟨_, rfl⟩
        rw [← hz] at r0
        have HL0 : Hid (Hs.lo F i = z + 1 ∧ Hs.hi i = 299) := by
          refine ⟨?_, ?_⟩
          · rw [hz]; unfold Hs.lo; rw [if_neg e7]
          · unfold Hs.hi; rw [if_neg e7]
        clear kk hx hy hz e7
        by_cases e1 : x ≤ z
        · have d1 : decide (x ≤ z) = true := by simpa using e1
          have HE := HX3 (fun hq => by have := hq.1; rw [HL0.out.1] at this; omega)
          clear HX3 e1
          go_wp2_with fail
          go_quiet (fail)
          go_wp2_with fail
          go_ret
          exact ⟨by rw [HE.out]; rfl, (HDR.out _)⟩
        · have d1 : decide (x ≤ z) = false := by simpa using e1
          have HLO : Hid (Hs.lo F i ≤ x) := by show _ ≤ _; rw [HL0.out.1]; omega
          have HUP : Hid (x < 300 → x ≤ Hs.hi i) := fun _ => by rw [HL0.out.2]; omega
          clear e1 HL0
          by_cases e2 : 300 ≤ x
          · have d2 : decide (300 ≤ x) = true := by simpa using e2
            have HE := HX3 (fun hq => by have := hq.2.1; have := HHI.out; omega)
            clear HX3 
            go_wp2_with fail
            go_quiet (fail)
            go_wp2_with fail
            go_ret
            exact ⟨by rw [HE.out]; rfl, (HDR.out _)⟩
          have d2 : decide (300 ≤ x) = false := by simpa using e2
          by_cases e3 : -1000000 ≤ y ∧ y ≤ 1000000
          case neg =>
            have HE := HX3 (fun hq => e3 hq.2.2)
            rw [decide_eq_false e3] at KV
            clear HX3  e3
            go_wp2_with fail
            go_quiet ((go_at_call 29; exact Calls.quiet_of_same (KV.out _)))
            go_wp2_with fail
            go_ret
            exact ⟨by rw [HE.out]; rfl, (HDR.out _)⟩
          have HOK : Hid (Hs.PtAt F i) := HPA.out.2 ⟨HLO.out, HUP.out (by omega), e3⟩
          rw [decide_eq_true e3] at KV
          clear HX3  e3
          go_wp2_with fail
          go_quiet ((go_at_call 29; exact Calls.quiet_of_same (KV.out _)))
          go_wp2_with fail
          go_roundw
          case rel => exact ⟨i + 1, by omega, by go_num, HDR.out _, fun j hj => by
            by_cases e : j = i
            · subst e; exact HOK.out
            · exact hP.out j (by omega)⟩
          case measure => simp [intOf]; omega
    · obtain rfl : i = n := by omega
      have HE := Lib.hid (Mt.dB_tt (show Hs.Right F i from ⟨HN3.out, hP.out⟩))
      go_wp2_with fail
      go_ret
      exact ⟨by rw [HE.out]; rfl, hB.out⟩
end Go.Proofs.YtlocpliljkgfnaaDoor
