/-
  Whether a plan is right: the program's WorkRight.
-/
import Derived.Test.YtganlipebndeoaaJbFt
namespace Go.Proofs.Ytganlipebndeoaa
open Go.RowKit Go.Deep

/-- A right plan. -/
def Jb.WOk (m : Nat) (bs : Nat → Je) (crew : Int) (n : Nat) (s : Nat → Int) : Prop := Jb.RosOk m bs n s ∧ Jb.PlanP m bs crew s
set_option maxRecDepth 100000 in
set_option maxHeartbeats 4000000 in
theorem implRight_any (a : Option Addr) (m k : Nat) (bs : Nat → Je) (crew : Int) (c : Option Addr) (n ck : Nat) (s : Nat → Int) (w : World) (h : JbsAt a m bs w) (hs : JSm m bs) (hc : IsAt c n s w) (hn : n ≤ 1048576) :
    Calls Try.prog 13 #[.slice a m k, .int .i64 crew, .slice c n ck] w fun e w' => e = .returned (.bool (dB (Jb.WOk m bs crew n s))) ∧ Below w.heap.size w w' := by
  have H := Lib.hid h
  have HS := Lib.hid hs
  have HC := Lib.hid hc
  clear h hs hc
  go_enter Try.func13, Try.ntmps13
  go_wp2_with fail
  refine (rosterOf_any a m k bs c n ck s _ H.out HS.out HC.out hn).mono ?_
  rintro e WB ⟨hE, hb⟩
  have HBW := Lib.hid hb
  have HJ := Lib.hid (H.out.below hb)
  clear hb H HC
  rcases hE with ⟨hr, a', rfl, hsh⟩ | ⟨hr, rfl⟩
  · have HRES : Hid (dB (Jb.WOk m bs crew n s) = dB (Jb.PlanP m bs crew s)) := dB_congr ⟨fun k => k.2, fun k => ⟨hr, k⟩⟩
    have HN : Hid (RosN m bs s) := ⟨hr.bnd, fun k hk => by have := (hr.1.2 k hk).c; omega, fun k hk => (hr.1.2 k hk).r, fun k hk => (HS.out k hk).2⟩
    have HRA : Hid (∀ i, i < m → Pl.Rising (bs i).an (bs i).A i) := fun i hi => (hr.1.2 i hi).a
    have hm := hr.1.1
    have HRR : Hid (RosR a' m bs s WB) := ⟨hsh, fun i hi => HJ.out.mem hi⟩
    clear hr hsh HJ
    go_wp2_with fail
    go_loopw [9, 10, 21] (fun _ _ iv wr => ∃ (i : Nat), i ≤ m ∧ iv = .int .i64 i ∧ Hid (Below WB.heap.size WB wr) ∧ Hid (∀ j, j < i → Jb.rdy bs s (bs j) ≤ s j ∧ Jb.Fits bs s j (bs j) (s j) crew)) (fun _ _ iv _ => m - (intOf iv).toNat)
    case atStart => exact ⟨0, Nat.zero_le _, rfl, Below.refl _ _, fun j hj => absurd hj (Nat.not_lt_zero _)⟩
    case round =>
      obtain ⟨i, hi, rfl, hB, hP⟩ := hrel
      by_cases hlt : i < m
      · have hltz : (i : Int) < (m : Int) := by omega
        have hlez : (i : Int) ≤ (m : Int) := by omega
        obtain ⟨b2, rfl, ⟨d0, d1, d2, d3, d4⟩⟩ := (HRR.out.sh.below hB.out).at_ hlt
        obtain ⟨W0, hW0⟩ : ∃ W0, W0 = wr.alloc (.cells #[.int .i64 (bs i).dy, .int .i64 (bs i).cw, .slice (bs i).pa (bs i).an (bs i).ak, .slice (bs i).pr (bs i).rn (bs i).rk, .int .i64 (s i)] 56) := ⟨_, rfl⟩
        obtain ⟨bx, hbx⟩ : ∃ bx, bx = wr.heap.size := ⟨_, rfl⟩
        have HR0 : Hid (W0.rowIs bx 56 5 (rowN (shR (bs i) (s i)))) := by show W0.rowIs _ _ _ _; rw [hW0, hbx]; exact rowN_alloc wr _ _
        have HB0 : Hid (Below WB.heap.size WB W0) := by show Below _ _ _; rw [hW0]; exact hB.out.trans ((nbel_alloc _ _).mono hB.out.size)
        have hbd := HN.out.b i hlt
        have hcw := HN.out.c i hlt
        obtain ⟨rv, hrv⟩ : ∃ rv, rv = Jb.rdy bs s (bs i) := ⟨_, rfl⟩
        have HRV := Lib.hid hrv
        have HW0 := Lib.hid hW0
        have HBX := Lib.hid hbx
        clear hW0 hrv hbx hB
        by_cases c1 : s i < rv
        · have hd1 : decide (s i < rv) = true := by simpa using c1
          have HE : Hid (dB (Jb.PlanP m bs crew s) = false) := dB_ff (fun k => by have := (k i hlt).1; rw [← HRV.out] at this; omega)
          go_wp2_with fail
          rw [← HW0.out, ← HBX.out]
          clear HW0 d0 d1 d2 d3 d4
          refine wp_region_held_drew (S := fun V => Below W0.heap.size W0 V) (by kernel_rfl) (Below.refl _ _).drew (fun hHeld => ?_)
          refine take_do (i := 0) (v := (.pointer (some ⟨bx, 4, none⟩))) rfl (by kernel_rfl) (by kernel_rfl) (by kernel_rfl) (fun _ _ _ h => h) (by rfl) ?_ (by assumption) ?_
          · intro w hSw
            skip
            go_simp
          simp only [Act.put, List.setIfInBounds_toArray, List.set_cons_zero, List.set_cons_succ]
          refine take_do (i := 1) (v := (.int .i64 (s i))) rfl (by kernel_rfl) (by kernel_rfl) (by kernel_rfl) (fun _ _ _ h => h) (by rfl) ?_ (by assumption) ?_
          · intro w hSw
            obtain ⟨⟨c0, c1, c2, c3, c4⟩, _⟩ := jrow5 (nrow_below HR0.out hSw)
            go_simp
          simp only [Act.put, List.setIfInBounds_toArray, List.set_cons_zero, List.set_cons_succ]
          refine take_do (i := 2) (v := (.slice (some ⟨b2, 0, none⟩) m m)) rfl (by kernel_rfl) (by kernel_rfl) (by kernel_rfl) (fun _ _ _ h => h) (by rfl) ?_ (by assumption) ?_
          · intro w hSw
            skip
            go_simp
          simp only [Act.put, List.setIfInBounds_toArray, List.set_cons_zero, List.set_cons_succ]
          refine take_do (i := 3) (v := (.pointer (some ⟨bx, 0, none⟩))) rfl (by kernel_rfl) (by kernel_rfl) (by kernel_rfl) (fun _ _ _ h => h) (by rfl) ?_ (by assumption) ?_
          · intro w hSw
            skip
            go_simp
          simp only [Act.put, List.setIfInBounds_toArray, List.set_cons_zero, List.set_cons_succ]
          refine take_do (i := 4) (v := (jbV (bs i))) rfl (by kernel_rfl) (by kernel_rfl) (by kernel_rfl) (fun _ _ _ h => h) (by rfl) ?_ (by assumption) ?_
          · intro w hSw
            obtain ⟨⟨c0, c1, c2, c3, c4⟩, _⟩ := jrow5 (nrow_below HR0.out hSw)
            go_simp
          simp only [Act.put, List.setIfInBounds_toArray, List.set_cons_zero, List.set_cons_succ]
          refine take_call (i := 5) rfl (by kernel_rfl) (fun K2 hK => ?_)
          go_simp
          refine (ready_any (some ⟨b2, 0, none⟩) m m bs s (bs i) i _ ((HRR.out.sh.below HB0.out).below hHeld) (((HRR.out.ls i hlt).1.below HB0.out).below hHeld) (HRA.out i hlt) (by omega) (HS.out i hlt).1 (fun j hj => HN.out.b j (by omega))).mono ?_
          rintro e w1 ⟨rfl, hb⟩
          rw [← HRV.out]
          go_wp2_with fail
          refine hK.out _ _ (hHeld.trans (hb.mono hHeld.size)) (fun hHeld2 => ?_)
          clear hK hHeld hb
          have hHeld := hHeld2
          clear hHeld2
          refine take_do (i := 6) (v := (.bool true)) rfl (by kernel_rfl) (by kernel_rfl) (by kernel_rfl) (fun _ _ _ h => h) (by rfl) ?_ (by assumption) ?_
          · intro w hSw
            skip
            go_simp
          simp only [Act.put, List.setIfInBounds_toArray, List.set_cons_zero, List.set_cons_succ]
          refine take_do (i := 7) (v := (.bool true)) rfl (by kernel_rfl) (by kernel_rfl) (by kernel_rfl) (fun _ _ _ h => h) (by rfl) ?_ (by assumption) ?_
          · intro w hSw
            skip
            go_simp
          simp only [Act.put, List.setIfInBounds_toArray, List.set_cons_zero, List.set_cons_succ]
          refine take_skip (i := 8) rfl (by kernel_rfl) (by kernel_rfl) (by kernel_rfl) (fun _ _ _ h => h) (by rfl) (by assumption) ?_
          simp only [Act.put, List.setIfInBounds_toArray, List.set_cons_zero, List.set_cons_succ]
          refine take_skip (i := 9) rfl (by kernel_rfl) (by kernel_rfl) (by kernel_rfl) (fun _ _ _ h => h) (by rfl) (by assumption) ?_
          simp only [Act.put, List.setIfInBounds_toArray, List.set_cons_zero, List.set_cons_succ]
          refine take_skip (i := 10) rfl (by kernel_rfl) (by kernel_rfl) (by kernel_rfl) (fun _ _ _ h => h) (by rfl) (by assumption) ?_
          simp only [Act.put, List.setIfInBounds_toArray, List.set_cons_zero, List.set_cons_succ]
          refine take_skip (i := 11) rfl (by kernel_rfl) (by kernel_rfl) (by kernel_rfl) (fun _ _ _ h => h) (by rfl) (by assumption) ?_
          simp only [Act.put, List.setIfInBounds_toArray, List.set_cons_zero, List.set_cons_succ]
          refine take_skip (i := 12) rfl (by kernel_rfl) (by kernel_rfl) (by kernel_rfl) (fun _ _ _ h => h) (by rfl) (by assumption) ?_
          simp only [Act.put, List.setIfInBounds_toArray, List.set_cons_zero, List.set_cons_succ]
          refine take_skip (i := 13) rfl (by kernel_rfl) (by kernel_rfl) (by kernel_rfl) (fun _ _ _ h => h) (by rfl) (by assumption) ?_
          simp only [Act.put, List.setIfInBounds_toArray, List.set_cons_zero, List.set_cons_succ]
          refine take_skip (i := 14) rfl (by kernel_rfl) (by kernel_rfl) (by kernel_rfl) (fun _ _ _ h => h) (by rfl) (by assumption) ?_
          simp only [Act.put, List.setIfInBounds_toArray, List.set_cons_zero, List.set_cons_succ]
          refine take_do (i := 15) (v := (.bool true)) rfl (by kernel_rfl) (by kernel_rfl) (by kernel_rfl) (fun _ _ _ h => h) (by rfl) ?_ (by assumption) ?_
          · intro w hSw
            skip
            go_simp
          simp only [Act.put, List.setIfInBounds_toArray, List.set_cons_zero, List.set_cons_succ]
          refine wpAnyH_done (by kernel_rfl) ?_ _
          have HB1 : Hid (Below WB.heap.size WB w1) := HB0.out.trans (hHeld.mono HB0.out.size)
          clear hHeld HB0
          go_wp2_with fail
          go_ret
          exact ⟨by rw [HRES.out, HE.out]; rfl, HBW.out.trans (HB1.out.mono HBW.out.size)⟩
        · have hd1 : decide (s i < rv) = false := by simpa using c1
          have HLE : Hid (Jb.rdy bs s (bs i) ≤ s i) := by have := HRV.out; show _ ≤ _; omega
          go_wp2_with fail
          rw [← HW0.out, ← HBX.out]
          clear HW0 d0 d1 d2 d3 d4
          refine wp_region_held_drew (S := fun V => Below W0.heap.size W0 V) (by kernel_rfl) (Below.refl _ _).drew (fun hHeld => ?_)
          refine take_do (i := 0) (v := (.pointer (some ⟨bx, 4, none⟩))) rfl (by kernel_rfl) (by kernel_rfl) (by kernel_rfl) (fun _ _ _ h => h) (by rfl) ?_ (by assumption) ?_
          · intro w hSw
            skip
            go_simp
          simp only [Act.put, List.setIfInBounds_toArray, List.set_cons_zero, List.set_cons_succ]
          refine take_do (i := 1) (v := (.int .i64 (s i))) rfl (by kernel_rfl) (by kernel_rfl) (by kernel_rfl) (fun _ _ _ h => h) (by rfl) ?_ (by assumption) ?_
          · intro w hSw
            obtain ⟨⟨c0, c1, c2, c3, c4⟩, _⟩ := jrow5 (nrow_below HR0.out hSw)
            go_simp
          simp only [Act.put, List.setIfInBounds_toArray, List.set_cons_zero, List.set_cons_succ]
          refine take_do (i := 2) (v := (.slice (some ⟨b2, 0, none⟩) m m)) rfl (by kernel_rfl) (by kernel_rfl) (by kernel_rfl) (fun _ _ _ h => h) (by rfl) ?_ (by assumption) ?_
          · intro w hSw
            skip
            go_simp
          simp only [Act.put, List.setIfInBounds_toArray, List.set_cons_zero, List.set_cons_succ]
          refine take_do (i := 3) (v := (.pointer (some ⟨bx, 0, none⟩))) rfl (by kernel_rfl) (by kernel_rfl) (by kernel_rfl) (fun _ _ _ h => h) (by rfl) ?_ (by assumption) ?_
          · intro w hSw
            skip
            go_simp
          simp only [Act.put, List.setIfInBounds_toArray, List.set_cons_zero, List.set_cons_succ]
          refine take_do (i := 4) (v := (jbV (bs i))) rfl (by kernel_rfl) (by kernel_rfl) (by kernel_rfl) (fun _ _ _ h => h) (by rfl) ?_ (by assumption) ?_
          · intro w hSw
            obtain ⟨⟨c0, c1, c2, c3, c4⟩, _⟩ := jrow5 (nrow_below HR0.out hSw)
            go_simp
          simp only [Act.put, List.setIfInBounds_toArray, List.set_cons_zero, List.set_cons_succ]
          refine take_call (i := 5) rfl (by kernel_rfl) (fun K2 hK => ?_)
          go_simp
          refine (ready_any (some ⟨b2, 0, none⟩) m m bs s (bs i) i _ ((HRR.out.sh.below HB0.out).below hHeld) (((HRR.out.ls i hlt).1.below HB0.out).below hHeld) (HRA.out i hlt) (by omega) (HS.out i hlt).1 (fun j hj => HN.out.b j (by omega))).mono ?_
          rintro e w1 ⟨rfl, hb⟩
          rw [← HRV.out]
          go_wp2_with fail
          refine hK.out _ _ (hHeld.trans (hb.mono hHeld.size)) (fun hHeld2 => ?_)
          clear hK hHeld hb
          have hHeld := hHeld2
          clear hHeld2
          refine take_do (i := 6) (v := (.bool false)) rfl (by kernel_rfl) (by kernel_rfl) (by kernel_rfl) (fun _ _ _ h => h) (by rfl) ?_ (by assumption) ?_
          · intro w hSw
            skip
            go_simp
          simp only [Act.put, List.setIfInBounds_toArray, List.set_cons_zero, List.set_cons_succ]
          refine take_do (i := 7) (v := (.bool false)) rfl (by kernel_rfl) (by kernel_rfl) (by kernel_rfl) (fun _ _ _ h => h) (by rfl) ?_ (by assumption) ?_
          · intro w hSw
            skip
            go_simp
          simp only [Act.put, List.setIfInBounds_toArray, List.set_cons_zero, List.set_cons_succ]
          refine take_do (i := 8) (v := (.slice (some ⟨b2, 0, none⟩) m m)) rfl (by kernel_rfl) (by kernel_rfl) (by kernel_rfl) (fun _ _ _ h => h) (by rfl) ?_ (by assumption) ?_
          · intro w hSw
            skip
            go_simp
          simp only [Act.put, List.setIfInBounds_toArray, List.set_cons_zero, List.set_cons_succ]
          refine take_do (i := 9) (v := (.int .i64 i)) rfl (by kernel_rfl) (by kernel_rfl) (by kernel_rfl) (fun _ _ _ h => h) (by rfl) ?_ (by assumption) ?_
          · intro w hSw
            skip
            go_simp
          simp only [Act.put, List.setIfInBounds_toArray, List.set_cons_zero, List.set_cons_succ]
          refine take_do (i := 10) (v := (.slice (some ⟨b2, 0, none⟩) i m)) rfl (by kernel_rfl) (by kernel_rfl) (by kernel_rfl) (fun _ _ _ h => h) (by rfl) ?_ (by assumption) ?_
          · intro w hSw
            skip
            go_simp
          simp only [Act.put, List.setIfInBounds_toArray, List.set_cons_zero, List.set_cons_succ]
          refine take_do (i := 11) (v := (shV (bs i) (s i))) rfl (by kernel_rfl) (by kernel_rfl) (by kernel_rfl) (fun _ _ _ h => h) (by rfl) ?_ (by assumption) ?_
          · intro w hSw
            obtain ⟨⟨c0, c1, c2, c3, c4⟩, _⟩ := jrow5 (nrow_below HR0.out hSw)
            go_simp
          simp only [Act.put, List.setIfInBounds_toArray, List.set_cons_zero, List.set_cons_succ]
          refine take_do (i := 12) (v := (.int .i64 crew)) rfl (by kernel_rfl) (by kernel_rfl) (by kernel_rfl) (fun _ _ _ h => h) (by rfl) ?_ (by assumption) ?_
          · intro w hSw
            skip
            go_simp
          simp only [Act.put, List.setIfInBounds_toArray, List.set_cons_zero, List.set_cons_succ]
          refine take_call (i := 13) rfl (by kernel_rfl) (fun K2 hK => ?_)
          go_simp
          refine (fits_any (some ⟨b2, 0, none⟩) i m bs s (bs i) (s i) crew _ (((HRR.out.part hi).below HB0.out).below hHeld) (HN.out.part hi) (by omega) (((HRR.out.ls i hlt).2.below HB0.out).below hHeld) (HS.out i hlt).2 (by omega) (by omega) (by omega)).mono ?_
          rintro e w2 ⟨rfl, hb⟩
          go_wp2_with fail
          refine hK.out _ _ (hHeld.trans (hb.mono hHeld.size)) (fun hHeld2 => ?_)
          clear hK hHeld hb
          have hHeld := hHeld2
          clear hHeld2
          by_cases cf : Jb.Fits bs s i (bs i) (s i) crew
          · rw [dB_tt cf]
            have HC := Lib.hid cf
            clear cf
            refine take_do (i := 14) (v := (.bool false)) rfl (by kernel_rfl) (by kernel_rfl) (by kernel_rfl) (fun _ _ _ h => h) (by rfl) ?_ (by assumption) ?_
            · intro w hSw
              skip
              go_simp
            simp only [Act.put, List.setIfInBounds_toArray, List.set_cons_zero, List.set_cons_succ]
            refine take_do (i := 15) (v := (.bool false)) rfl (by kernel_rfl) (by kernel_rfl) (by kernel_rfl) (fun _ _ _ h => h) (by rfl) ?_ (by assumption) ?_
            · intro w hSw
              skip
              go_simp
            simp only [Act.put, List.setIfInBounds_toArray, List.set_cons_zero, List.set_cons_succ]
            refine wpAnyH_done (by kernel_rfl) ?_ _
            have HB1 : Hid (Below WB.heap.size WB w2) := HB0.out.trans (hHeld.mono HB0.out.size)
            clear hHeld HB0
            go_wp2_with fail
            go_roundw
            case rel => exact ⟨i + 1, by omega, by go_num, HB1, fun j hj => by
              by_cases e : j = i
              · subst e; exact ⟨HLE.out, HC.out⟩
              · exact hP.out j (by omega)⟩
            case measure => simp [intOf]; omega
          · rw [dB_ff cf]
            have HE : Hid (dB (Jb.PlanP m bs crew s) = false) := dB_ff (fun k => cf (k i hlt).2)
            clear cf
            refine take_do (i := 14) (v := (.bool true)) rfl (by kernel_rfl) (by kernel_rfl) (by kernel_rfl) (fun _ _ _ h => h) (by rfl) ?_ (by assumption) ?_
            · intro w hSw
              skip
              go_simp
            simp only [Act.put, List.setIfInBounds_toArray, List.set_cons_zero, List.set_cons_succ]
            refine take_do (i := 15) (v := (.bool true)) rfl (by kernel_rfl) (by kernel_rfl) (by kernel_rfl) (fun _ _ _ h => h) (by rfl) ?_ (by assumption) ?_
            · intro w hSw
              skip
              go_simp
            simp only [Act.put, List.setIfInBounds_toArray, List.set_cons_zero, List.set_cons_succ]
            refine wpAnyH_done (by kernel_rfl) ?_ _
            have HB1 : Hid (Below WB.heap.size WB w2) := HB0.out.trans (hHeld.mono HB0.out.size)
            clear hHeld HB0
            go_wp2_with fail
            go_ret
            exact ⟨by rw [HRES.out, HE.out]; rfl, HBW.out.trans (HB1.out.mono HBW.out.size)⟩
      · obtain rfl : i = m := by omega
        have HE : Hid (dB (Jb.PlanP i bs crew s) = true) := dB_tt hP.out
        go_wp2_with fail
        go_ret
        exact ⟨by rw [HRES.out, HE.out]; rfl, HBW.out.trans (hB.out.mono HBW.out.size)⟩
  · have HE : Hid (dB (Jb.WOk m bs crew n s) = false) := dB_ff (fun k => hr k.1)
    clear hr
    go_wp2_with fail
    go_ret
    exact ⟨by rw [HE.out]; rfl, HBW.out⟩
end Go.Proofs.Ytganlipebndeoaa
