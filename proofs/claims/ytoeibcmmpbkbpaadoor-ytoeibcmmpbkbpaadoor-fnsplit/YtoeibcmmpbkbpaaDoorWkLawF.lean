/-
  The law FnSplit.
-/
import Derived.Test.YtoeibcmmpbkbpaaDoorWkLf1
namespace Go.Proofs.YtoeibcmmpbkbpaaDoor
open Go.RowKit Go.Deep

set_option maxRecDepth 100000 in
set_option maxHeartbeats 8000000 in
theorem fnsplit_law (w : World) (a1 : Option Addr) (len cap : Nat) (h : Bytes a1 len w) (hm : len ≤ 9223372036854775807) (a2 : Option Addr) (len2 cap2 : Nat) (h2 : Bytes a2 len2 w) (hm2 : len2 ≤ 9223372036854775807) (hg : Et w ∧ TabOk w) :
    Calls Tryd.prog 5 #[.slice a1 len cap, .slice a2 len2 cap2] w fun e w' => e = .returned (.bool true) ∧ Below w.heap.size w w' := by
  by_cases hb1 : 1048576 < len
  · have hz : (1048576 : Int) < (len : Int) := by omega
    clear h h2 hg
    go_enter Tryd.func5, Tryd.ntmps5
    go_wp2_with fail
    go_ret
    exact ⟨rfl, Below.refl _ _⟩
  have hz : ¬ (1048576 : Int) < (len : Int) := by omega
  by_cases hb2 : 1048576 < len2
  · have hz2 : (1048576 : Int) < (len2 : Int) := by omega
    clear h h2 hg
    go_enter Tryd.func5, Tryd.ntmps5
    go_wp2_with fail
    go_ret
    exact ⟨rfl, Below.refl _ _⟩
  have hz2 : ¬ (1048576 : Int) < (len2 : Int) := by omega
  have H := Lib.hid h
  have H2 := Lib.hid h2
  have HET := Lib.hid hg
  have hlen : len ≤ 1048576 := by omega
  have HLN2 : Hid (len2 ≤ 1048576) := by show len2 ≤ _; omega
  clear h h2 hg hm hm2 hb1 hb2
  go_enter Tryd.func5, Tryd.ntmps5
  go_wp2_with fail
  refine (drawSplit_any a1 len cap _ H.out hlen).mono ?_
  rintro e W1 ⟨⟨wt, a, N, k, f, water, rfl, hN7, hpt⟩, hb⟩
  obtain ⟨W2, hW2⟩ : ∃ W2, W2 = W1.alloc (.cells #[.int .i64 wt, .slice a N k] 49) := ⟨_, rfl⟩
  have hb2 : Below W1.heap.size W1 W2 := by rw [hW2]; exact bel_alloc _ _
  have LF2 : Hid (LF w W1.heap.size wt a N k f W2) := ⟨by rw [hW2]; exact row2 _ _ _ _, hpt.at_.below hb2, hb.trans (hb2.mono hb.size)⟩
  obtain ⟨b5, hb5⟩ : ∃ b5, b5 = W1.heap.size := ⟨_, rfl⟩
  rw [← hb5] at LF2
  have HW2 := Lib.hid hW2
  have HN7 := Lib.hid hN7
  clear hpt hb hb2 hW2 hN7
  go_wp2_with fail
  rw [← HW2.out, ← hb5]
  clear HW2 hb5
  obtain ⟨A, hA⟩ : ∃ A, A = Wk.split ⟨wt, N, f⟩ water := ⟨_, rfl⟩
  have SP : ∀ W, IntsAt a N f W → Calls Tryd.prog 24 #[btV wt a N k, .int .i64 water] W fun e w' => PaEnd W.heap.size A e w' ∧ Below W.heap.size W w' := fun W h => by rw [hA]; exact sSplit_any ⟨wt, N, f⟩ a k water W h (by have := HN7.out; show N ≤ _; omega)
  have IM : ∀ W, IntsAt a N f W → Et W → Calls Tryd.prog 25 #[btV wt a N k, .int .i64 water] W fun e w' => PaEnd W.heap.size A e w' ∧ Below W.heap.size W w' := fun W h he => by rw [hA]; exact implSplit_any ⟨wt, N, f⟩ a k water W h (by have := HN7.out; show N ≤ _; omega) he
  have HSP := Lib.hid SP
  have HIM := Lib.hid IM
  have HA := Lib.hid hA
  clear SP IM hA
  refine (HSP.out _ LF2.out.at_).mono ?_
  rintro e W3 ⟨⟨ax, kx, ay, ky, rfl, _⟩, hb⟩
  have LF3 := Lib.hid (LF2.out.below hb)
  have hfd := pa_code A ax kx ay ky
  clear hb LF2
  obtain ⟨⟨x0, x1⟩, _⟩ := row2_cells LF3.out.box
  have second : ∀ W, Below w.heap.size w W → Hid (Below w.heap.size w W) := fun _ h => h
  clear second
  by_cases hc : A.c = 0
  case neg =>
    have hcz : (A.c == 0) = false := by simp [hc]
    have HB9 := Lib.hid LF3.out.bel
    obtain ⟨W9, hW9⟩ : ∃ W9, W9 = W3 := ⟨_, rfl⟩
    rw [← hW9] at HB9 x0 x1 ⊢
    clear LF3 hW9
    go_wp2_with fail
    clear x0 x1 hfd hc hcz HA HSP HIM
    refine (drawSettle_any a2 len2 cap2 _ (H2.out.below HB9.out) HLN2.out).mono ?_
    rintro e V1 ⟨⟨wt, a, N, k, f, ma, mk, mi, rfl, hN7, hpt, hpm⟩, hb⟩
    obtain ⟨V2, hV2⟩ : ∃ V2, V2 = V1.alloc (.cells #[.int .i64 wt, .slice a N k] 49) := ⟨_, rfl⟩
    have hb2 : Below V1.heap.size V1 V2 := by rw [hV2]; exact bel_alloc _ _
    have hbw : Below w.heap.size w V1 := HB9.out.trans (hb.mono HB9.out.size)
    have LF2 : Hid (LF w V1.heap.size wt a N k f V2) := ⟨by rw [hV2]; exact row2 _ _ _ _, hpt.at_.below hb2, hbw.trans (hb2.mono hbw.size)⟩
    have PM2 : Hid (PtM W9.heap.size V1.heap.size ma N mk mi V2) := hpm.same (fun g _ _ hl => hb2.block g hl)
    obtain ⟨b5, hb5⟩ : ∃ b5, b5 = V1.heap.size := ⟨_, rfl⟩
    rw [← hb5] at LF2
    have HV2 := Lib.hid hV2
    have HN7 := Lib.hid hN7
    clear hpt hpm hb hb2 hbw hV2 hN7
    go_wp2_with fail
    rw [← HV2.out, ← hb5]
    clear HV2 hb5
    obtain ⟨A, hA⟩ : ∃ A, A = Wk.settle ⟨wt, N, f⟩ N mi := ⟨_, rfl⟩
    have SP : ∀ W, IntsAt a N f W → IntsAt ma N mi W → Calls Tryd.prog 29 #[btV wt a N k, .slice ma N mk] W fun e w' => PaEnd W.heap.size A e w' ∧ Below W.heap.size W w' := fun W h h' => by rw [hA]; exact sSettle_any ⟨wt, N, f⟩ a k ma N mk mi W h (by have := HN7.out; show N ≤ _; omega) h' (by have := HN7.out; omega)
    have IM : ∀ ma' mk' W, IntsAt a N f W → IntsAt ma' N mi W → Et W → Calls Tryd.prog 30 #[btV wt a N k, .slice ma' N mk'] W fun e w' => PaEnd W.heap.size A e w' ∧ Below W.heap.size W w' := fun ma' mk' W h h' he => by rw [hA]; exact implSettle_any ⟨wt, N, f⟩ a k ma' N mk' mi W h (by have := HN7.out; show N ≤ _; omega) h' (by have := HN7.out; omega) he
    have HSP2 := Lib.hid SP
    have HIM2 := Lib.hid IM
    have HA2 := Lib.hid hA
    clear SP IM hA
    refine (HSP2.out _ LF2.out.at_ PM2.out.at_).mono ?_
    rintro e V3 ⟨⟨ax, kx, ay, ky, rfl, _⟩, hb⟩
    have LF3 := Lib.hid (LF2.out.below hb)
    have PM3 := Lib.hid (PM2.out.same (fun g _ _ hl => hb.block g hl))
    have hfd := pa_code A ax kx ay ky
    clear hb LF2 PM2
    by_cases hc : A.c = 0
    case neg =>
      have hcz : (A.c != 0) = true := by simp [hc]
      go_wp2_with fail
      go_ret
      exact ⟨rfl, LF3.out.bel⟩
    have hcz : (A.c != 0) = false := by simp [hc]
    go_wp2_with fail
    have hy := Wk.settle_yes (by rw [← HA2.out]; exact hc)
    have hAe : A = ⟨Wk.cut ⟨wt, N, f⟩ 0 (Wk.sett ⟨wt, N, f⟩ mi), ⟨0, N, Wk.sett ⟨wt, N, f⟩ mi⟩, 0⟩ := by rw [HA2.out]; exact hy.2
    have HOKB : Hid (Wk.Ok ⟨wt, N, f⟩) := hy.1.1
    have HWW : Hid (0 ≤ wt ∧ 0 ≤ wt) := ⟨hy.1.1.1.1, hy.1.1.1.1⟩
    have HAF : Hid ((A.x.wt = wt ∧ A.x.n = N ∧ A.y.n = N ∧ A.y.wt = 0 ∧ A.c = 0) ∧ ∀ j, j < N → A.x.f j + A.y.f j = f j ∧ 0 ≤ A.x.f j ∧ 0 ≤ A.y.f j) := by
      rw [hAe]
      refine ⟨⟨by simp [Wk.cut], rfl, rfl, rfl, rfl⟩, fun j hj => ?_⟩
      have h2 : Wk.sett ⟨wt, N, f⟩ mi j ≤ f j := (Wk.sett_bounds hy.1 (j := j) hj).2
      have h3 : 0 ≤ Wk.sett ⟨wt, N, f⟩ mi j := (Wk.sett_bounds hy.1 (j := j) hj).1
      show (f j - Wk.sett ⟨wt, N, f⟩ mi j) + Wk.sett ⟨wt, N, f⟩ mi j = f j ∧ 0 ≤ f j - Wk.sett ⟨wt, N, f⟩ mi j ∧ 0 ≤ Wk.sett ⟨wt, N, f⟩ mi j
      omega
    clear hfd hy hAe hcz hc
    go_cut [11] (fun p W => ∃ g7 bx jx by_ jy, p = .pointer (some ⟨g7, 0, none⟩) ∧ Hid (LG w b5 wt a N k f A g7 bx jx by_ jy W))
    case first =>
      refine wp_region_held_drew (S := LF w b5 wt a N k f) (by kernel_rfl) (LF3.out.below (Below.refl _ _).drew) (fun hHeld => ?_)
      have PMz : Hid (PtM W9.heap.size V1.heap.size ma N mk mi V3.drew) := PM3.out.same (fun _ _ _ _ => rfl)
      obtain ⟨Z, hZ⟩ : ∃ Z, Z = V3.drew := ⟨_, rfl⟩
      rw [← hZ] at hHeld PMz ⊢
      clear hZ LF3 PM3
      refine take_do (i := 0) (v := (btV wt a N k)) rfl (by kernel_rfl) (by kernel_rfl) (by kernel_rfl) (fun _ _ _ h => h) (by rfl) ?_ (by assumption) ?_
      · intro w hSw
        obtain ⟨⟨q0, q1⟩, _⟩ := row2_cells hSw.box
        go_simp
      simp only [Act.put, List.setIfInBounds_toArray, List.set_cons_zero, List.set_cons_succ]
      refine take_do (i := 1) (v := (.slice ma N mk)) rfl (by kernel_rfl) (by kernel_rfl) (by kernel_rfl) (fun _ _ _ h => h) (by rfl) ?_ (by assumption) ?_
      · intro w hSw
        clear hSw
        go_simp
      simp only [Act.put, List.setIfInBounds_toArray, List.set_cons_zero, List.set_cons_succ]
      refine wpAnyH_ready (rs := [2, 4]) (by kernel_rfl) (by simp) (AllReadyH.cons (at_drop (i := 2) rfl) (fun K2 hK => ?_) (AllReadyH.cons (at_drop (i := 4) rfl) (fun K2 hK => ?_) (AllReadyH.nil)))
      · go_simp
        refine (lwCopyP_any _ _ ma N mk mi _ PMz.out (by have := HN7.out; omega)).mono ?_
        rintro e Za ⟨⟨ca, ck, rfl, hci⟩, hb⟩
        have HCI := Lib.hid hci
        go_wp2_with fail
        refine hK.out _ _ (hHeld.below hb) (fun hHeld2 => ?_)
        clear hK hHeld
        have hHeld := hHeld2
        clear hHeld2
        clear hb hci
        refine wpAnyH_ready (rs := [3, 4]) (by kernel_rfl) (by simp) (AllReadyH.cons (at_drop (i := 3) rfl) (fun K2 hK => ?_) (AllReadyH.cons (at_drop (i := 4) rfl) (fun K2 hK => ?_) (AllReadyH.nil)))
        · go_simp
          refine (HIM2.out ca ck _ hHeld.at_ HCI.out (HET.out.1.below hHeld.bel)).mono ?_
          rintro e Zb ⟨⟨bx, jx, by_, jy, rfl, htw⟩, hb⟩
          have HTW := Lib.hid htw
          go_wp2_with fail
          refine hK.out _ _ (hHeld.below hb) (fun hHeld2 => ?_)
          clear hK hHeld
          have hHeld := hHeld2
          clear hHeld2
          clear hb htw
          refine take_call (i := 4) rfl (by kernel_rfl) (fun K2 hK => ?_)
          obtain ⟨Zc, hZc⟩ : ∃ Zc, Zc = Zb.alloc (.cells #[.int .i64 0, .slice none 0 0, .int .i64 0, .slice none 0 0, .int .i64 0] 53) := ⟨_, rfl⟩
          have hbz : Below Zb.heap.size Zb Zc := by rw [hZc]; exact bel_alloc _ _
          have RZc : Hid (Zc.rowIs Zb.heap.size 53 5 (rowL [.int .i64 0, .slice none 0 0, .int .i64 0, .slice none 0 0, .int .i64 0])) := by show World.rowIs _ _ _ _ _; rw [hZc]; exact rowL_alloc _ [.int .i64 0, .slice none 0 0, .int .i64 0, .slice none 0 0, .int .i64 0] _
          obtain ⟨g7, hg7⟩ : ∃ g7, g7 = Zb.heap.size := ⟨_, rfl⟩
          rw [← hg7] at RZc
          have HBW : Hid (w.heap.size ≤ g7) := by show _ ≤ _; rw [hg7]; exact hHeld.bel.size
          have HB5 : Hid (b5 < g7) := by show _ < _; rw [hg7]; exact hHeld.box.lt
          have HAT : Hid (∀ q, a = some ⟨q, 0, none⟩ → 0 < N → q ≠ g7) := fun q hq hn => by
            rcases hHeld.at_ with h0 | ⟨q', e, h0⟩
            · omega
            · rw [hq] at e; simp at e; subst e
              have := World.block_lt_of_cell? _ _ (h0 0 hn)
              simp at this; omega
          have HNX : Hid (∀ q, (atP bx q ∨ atP by_ q) → q ≠ g7) := fun q hq => by
            rcases hq with hq | hq
            · have := HTW.out.px.atp hq; omega
            · have := HTW.out.py.atp hq; omega
          have HTWc := Lib.hid (HTW.out.below hbz)
          go_simp
          rw [← hZc, ← hg7]
          refine hK.out _ _ (hHeld.below hbz) (fun hHeld2 => ?_)
          clear hK hHeld
          have hHeld := hHeld2
          clear hHeld2
          clear hbz hZc hg7
          have o0 := RZc.out.cell (i := 0) (by omega)
          have z0 := RZc.out.frozen 0
          have o1 := RZc.out.cell (i := 1) (by omega)
          have z1 := RZc.out.frozen 1
          have o2 := RZc.out.cell (i := 2) (by omega)
          have z2 := RZc.out.frozen 2
          have o3 := RZc.out.cell (i := 3) (by omega)
          have z3 := RZc.out.frozen 3
          have o4 := RZc.out.cell (i := 4) (by omega)
          have z4 := RZc.out.frozen 4
          have LGE : Hid (LG w b5 wt a N k f A g7 bx jx by_ jy (put5 Zc g7 (.int .i64 A.x.wt) (.slice bx A.x.n jx) (.int .i64 A.y.wt) (.slice by_ A.y.n jy) (.int .i64 A.c))) := by
            have hb5 := HB5.out
            refine ⟨⟨hHeld.box.of_block (put5_far _ (show b5 ≠ g7 by omega) _ _ _ _ _), ?_, below_put5 hHeld.bel HBW.out _ _ _ _ _⟩, put5_row RZc.out _ _ _ _ _, HTWc.out.px.at_.same (fun q e _ => put5_far _ (HNX.out q (Or.inl e)) _ _ _ _ _), HTWc.out.py.at_.same (fun q e _ => put5_far _ (HNX.out q (Or.inr e)) _ _ _ _ _)⟩
            rcases hHeld.at_ with h0 | ⟨q, e, h0⟩
            · exact Or.inl h0
            · by_cases hn : 0 < N
              · exact Or.inr ⟨q, e, fun i hi => (World.cell?_of_block (a := ⟨q, i, none⟩) (put5_far _ (HAT.out q e hn) _ _ _ _ _)).trans (h0 i hi)⟩
              · exact Or.inl (by omega)
          refine take_call (i := 5) rfl (by kernel_rfl) (fun K2 hK => ?_)
          go_simp
          refine hK.out _ _ LGE.out.lf (fun hHeld2 => ?_)
          clear hK hHeld hHeld2 o0 z0 o1 z1 o2 z2 o3 z3 o4 z4
          refine wpAnyH_done (by kernel_rfl) ?_ _
          go_wp2_with fail
          go_meet
          case rel => exact ⟨g7, bx, jx, by_, jy, rfl, LGE⟩
        · obtain ⟨Zc, hZc⟩ : ∃ Zc, Zc = Za.alloc (.cells #[.int .i64 0, .slice none 0 0, .int .i64 0, .slice none 0 0, .int .i64 0] 53) := ⟨_, rfl⟩
          have hbz : Below Za.heap.size Za Zc := by rw [hZc]; exact bel_alloc _ _
          have RZc : Hid (Zc.rowIs Za.heap.size 53 5 (rowL [.int .i64 0, .slice none 0 0, .int .i64 0, .slice none 0 0, .int .i64 0])) := by show World.rowIs _ _ _ _ _; rw [hZc]; exact rowL_alloc _ [.int .i64 0, .slice none 0 0, .int .i64 0, .slice none 0 0, .int .i64 0] _
          obtain ⟨g7, hg7⟩ : ∃ g7, g7 = Za.heap.size := ⟨_, rfl⟩
          rw [← hg7] at RZc
          have HBW : Hid (w.heap.size ≤ g7) := by show _ ≤ _; rw [hg7]; exact hHeld.bel.size
          have HB5 : Hid (b5 < g7) := by show _ < _; rw [hg7]; exact hHeld.box.lt
          have HAT : Hid (∀ q, a = some ⟨q, 0, none⟩ → 0 < N → q ≠ g7) := fun q hq hn => by
            rcases hHeld.at_ with h0 | ⟨q', e, h0⟩
            · omega
            · rw [hq] at e; simp at e; subst e
              have := World.block_lt_of_cell? _ _ (h0 0 hn)
              simp at this; omega
          have HCIc := Lib.hid (HCI.out.below hbz)
          go_simp
          rw [← hZc, ← hg7]
          refine hK.out _ _ (hHeld.below hbz) (fun hHeld2 => ?_)
          clear hK hHeld
          have hHeld := hHeld2
          clear hHeld2
          clear hbz hZc hg7
          refine take_call (i := 3) rfl (by kernel_rfl) (fun K2 hK => ?_)
          go_simp
          refine (HIM2.out ca ck _ hHeld.at_ HCIc.out (HET.out.1.below hHeld.bel)).mono ?_
          rintro e Zb ⟨⟨bx, jx, by_, jy, rfl, htw⟩, hb⟩
          have HTW := Lib.hid htw
          have HNX : Hid (∀ q, (atP bx q ∨ atP by_ q) → q ≠ g7) := fun q hq => by
            have h0 := RZc.out.lt
            rcases hq with hq | hq
            · have := htw.px.atp hq; omega
            · have := htw.py.atp hq; omega
          have RZb := Lib.hid (wrow_below RZc.out hb)
          go_wp2_with fail
          refine hK.out _ _ (hHeld.below hb) (fun hHeld2 => ?_)
          clear hK hHeld
          have hHeld := hHeld2
          clear hHeld2
          clear hb htw
          have o0 := RZb.out.cell (i := 0) (by omega)
          have z0 := RZb.out.frozen 0
          have o1 := RZb.out.cell (i := 1) (by omega)
          have z1 := RZb.out.frozen 1
          have o2 := RZb.out.cell (i := 2) (by omega)
          have z2 := RZb.out.frozen 2
          have o3 := RZb.out.cell (i := 3) (by omega)
          have z3 := RZb.out.frozen 3
          have o4 := RZb.out.cell (i := 4) (by omega)
          have z4 := RZb.out.frozen 4
          have LGE : Hid (LG w b5 wt a N k f A g7 bx jx by_ jy (put5 Zb g7 (.int .i64 A.x.wt) (.slice bx A.x.n jx) (.int .i64 A.y.wt) (.slice by_ A.y.n jy) (.int .i64 A.c))) := by
            have hb5 := HB5.out
            refine ⟨⟨hHeld.box.of_block (put5_far _ (show b5 ≠ g7 by omega) _ _ _ _ _), ?_, below_put5 hHeld.bel HBW.out _ _ _ _ _⟩, put5_row RZb.out _ _ _ _ _, HTW.out.px.at_.same (fun q e _ => put5_far _ (HNX.out q (Or.inl e)) _ _ _ _ _), HTW.out.py.at_.same (fun q e _ => put5_far _ (HNX.out q (Or.inr e)) _ _ _ _ _)⟩
            rcases hHeld.at_ with h0 | ⟨q, e, h0⟩
            · exact Or.inl h0
            · by_cases hn : 0 < N
              · exact Or.inr ⟨q, e, fun i hi => (World.cell?_of_block (a := ⟨q, i, none⟩) (put5_far _ (HAT.out q e hn) _ _ _ _ _)).trans (h0 i hi)⟩
              · exact Or.inl (by omega)
          refine take_call (i := 5) rfl (by kernel_rfl) (fun K2 hK => ?_)
          go_simp
          refine hK.out _ _ LGE.out.lf (fun hHeld2 => ?_)
          clear hK hHeld hHeld2 o0 z0 o1 z1 o2 z2 o3 z3 o4 z4
          refine wpAnyH_done (by kernel_rfl) ?_ _
          go_wp2_with fail
          go_meet
          case rel => exact ⟨g7, bx, jx, by_, jy, rfl, LGE⟩
      · obtain ⟨Zc, hZc⟩ : ∃ Zc, Zc = Z.alloc (.cells #[.int .i64 0, .slice none 0 0, .int .i64 0, .slice none 0 0, .int .i64 0] 53) := ⟨_, rfl⟩
        have hbz : Below Z.heap.size Z Zc := by rw [hZc]; exact bel_alloc _ _
        have RZc : Hid (Zc.rowIs Z.heap.size 53 5 (rowL [.int .i64 0, .slice none 0 0, .int .i64 0, .slice none 0 0, .int .i64 0])) := by show World.rowIs _ _ _ _ _; rw [hZc]; exact rowL_alloc _ [.int .i64 0, .slice none 0 0, .int .i64 0, .slice none 0 0, .int .i64 0] _
        obtain ⟨g7, hg7⟩ : ∃ g7, g7 = Z.heap.size := ⟨_, rfl⟩
        rw [← hg7] at RZc
        have HBW : Hid (w.heap.size ≤ g7) := by show _ ≤ _; rw [hg7]; exact hHeld.bel.size
        have HB5 : Hid (b5 < g7) := by show _ < _; rw [hg7]; exact hHeld.box.lt
        have HAT : Hid (∀ q, a = some ⟨q, 0, none⟩ → 0 < N → q ≠ g7) := fun q hq hn => by
          rcases hHeld.at_ with h0 | ⟨q', e, h0⟩
          · omega
          · rw [hq] at e; simp at e; subst e
            have := World.block_lt_of_cell? _ _ (h0 0 hn)
            simp at this; omega
        have PMc : Hid (PtM W9.heap.size V1.heap.size ma N mk mi Zc) := PMz.out.same (fun g _ _ hl => hbz.block g hl)
        go_simp
        rw [← hZc, ← hg7]
        refine hK.out _ _ (hHeld.below hbz) (fun hHeld2 => ?_)
        clear hK hHeld
        have hHeld := hHeld2
        clear hHeld2
        clear hbz hZc hg7
        refine take_call (i := 2) rfl (by kernel_rfl) (fun K2 hK => ?_)
        go_simp
        refine (lwCopyP_any _ _ ma N mk mi _ PMc.out (by have := HN7.out; omega)).mono ?_
        rintro e Za ⟨⟨ca, ck, rfl, hci⟩, hb⟩
        have HCI := Lib.hid hci
        have RZa := Lib.hid (wrow_below RZc.out hb)
        go_wp2_with fail
        refine hK.out _ _ (hHeld.below hb) (fun hHeld2 => ?_)
        clear hK hHeld
        have hHeld := hHeld2
        clear hHeld2
        clear hb hci
        refine take_call (i := 3) rfl (by kernel_rfl) (fun K2 hK => ?_)
        go_simp
        refine (HIM2.out ca ck _ hHeld.at_ HCI.out (HET.out.1.below hHeld.bel)).mono ?_
        rintro e Zb ⟨⟨bx, jx, by_, jy, rfl, htw⟩, hb⟩
        have HTW := Lib.hid htw
        have HNX : Hid (∀ q, (atP bx q ∨ atP by_ q) → q ≠ g7) := fun q hq => by
          have h0 := RZa.out.lt
          rcases hq with hq | hq
          · have := htw.px.atp hq; omega
          · have := htw.py.atp hq; omega
        have RZb := Lib.hid (wrow_below RZa.out hb)
        go_wp2_with fail
        refine hK.out _ _ (hHeld.below hb) (fun hHeld2 => ?_)
        clear hK hHeld
        have hHeld := hHeld2
        clear hHeld2
        clear hb htw
        have o0 := RZb.out.cell (i := 0) (by omega)
        have z0 := RZb.out.frozen 0
        have o1 := RZb.out.cell (i := 1) (by omega)
        have z1 := RZb.out.frozen 1
        have o2 := RZb.out.cell (i := 2) (by omega)
        have z2 := RZb.out.frozen 2
        have o3 := RZb.out.cell (i := 3) (by omega)
        have z3 := RZb.out.frozen 3
        have o4 := RZb.out.cell (i := 4) (by omega)
        have z4 := RZb.out.frozen 4
        have LGE : Hid (LG w b5 wt a N k f A g7 bx jx by_ jy (put5 Zb g7 (.int .i64 A.x.wt) (.slice bx A.x.n jx) (.int .i64 A.y.wt) (.slice by_ A.y.n jy) (.int .i64 A.c))) := by
          have hb5 := HB5.out
          refine ⟨⟨hHeld.box.of_block (put5_far _ (show b5 ≠ g7 by omega) _ _ _ _ _), ?_, below_put5 hHeld.bel HBW.out _ _ _ _ _⟩, put5_row RZb.out _ _ _ _ _, HTW.out.px.at_.same (fun q e _ => put5_far _ (HNX.out q (Or.inl e)) _ _ _ _ _), HTW.out.py.at_.same (fun q e _ => put5_far _ (HNX.out q (Or.inr e)) _ _ _ _ _)⟩
          rcases hHeld.at_ with h0 | ⟨q, e, h0⟩
          · exact Or.inl h0
          · by_cases hn : 0 < N
            · exact Or.inr ⟨q, e, fun i hi => (World.cell?_of_block (a := ⟨q, i, none⟩) (put5_far _ (HAT.out q e hn) _ _ _ _ _)).trans (h0 i hi)⟩
            · exact Or.inl (by omega)
        refine take_call (i := 5) rfl (by kernel_rfl) (fun K2 hK => ?_)
        go_simp
        refine hK.out _ _ LGE.out.lf (fun hHeld2 => ?_)
        clear hK hHeld hHeld2 o0 z0 o1 z1 o2 z2 o3 z3 o4 z4
        refine wpAnyH_done (by kernel_rfl) ?_ _
        go_wp2_with fail
        go_meet
        case rel => exact ⟨g7, bx, jx, by_, jy, rfl, LGE⟩
    case rest =>
      obtain ⟨g7, bx, jx, by_, jy, rfl, hLG⟩ := hcut
      clear LF3 PM3
      obtain ⟨⟨pw, pn, pf⟩, ⟨qw, qn, qf⟩, pc⟩ := A
      obtain ⟨⟨e1, e2, e3, e4, e5⟩, HFF0⟩ := HAF.out
      simp only at e1 e2 e3 e4 e5 HFF0
      replace e1 := e1.symm
      replace e2 := e2.symm
      replace e3 := e3.symm
      replace e4 := e4.symm
      replace e5 := e5.symm
      subst e1 e2 e3 e4 e5
      have HFF := Lib.hid HFF0
      clear HFF0 HAF
      obtain ⟨W5, hW5⟩ : ∃ W5, W5 = wc := ⟨_, rfl⟩
      rw [← hW5] at hLG ⊢
      clear hW5
      have hL5 : g7 < W5.heap.size := hLG.out.row.lt
      obtain ⟨d0, d1, d2, d3, d4⟩ := row5_cells hLG.out.row
      obtain ⟨W6, hW6⟩ : ∃ W6, W6 = W5.alloc (.cells #[.int .i64 wt, .slice bx N jx, .int .i64 (0), .slice by_ N jy] 49) := ⟨_, rfl⟩
      obtain ⟨bs, hbs⟩ : ∃ bs : Nat → Be, bs = fun i => if i = 0 then ⟨wt, bx, N, jx, pf⟩ else ⟨0, by_, N, jy, qf⟩ := ⟨_, rfl⟩
      have hbs0 : bs 0 = ⟨wt, bx, N, jx, pf⟩ := by rw [hbs]; rfl
      have hbs1 : bs 1 = ⟨0, by_, N, jy, qf⟩ := by rw [hbs]; rfl
      have hbsn : ∀ i, i < 2 → (bs i).n ≤ 4194304 := fun i hi => by
        have h7 := HN7.out
        have : i = 0 ∨ i = 1 := by omega
        rcases this with rfl | rfl
        · rw [hbs0]; show N ≤ _; omega
        · rw [hbs1]; show N ≤ _; omega
      have hTA : BtsAt (some ⟨W5.heap.size, 0, none⟩) 2 bs W6 := by rw [hW6, hbs]; exact two_at (A := ⟨⟨wt, N, pf⟩, ⟨0, N, qf⟩, 0⟩) hLG.out.px hLG.out.py
      have HBS0 := Lib.hid hbs0
      have HBS1 := Lib.hid hbs1
      have HBSN := Lib.hid hbsn
      clear hbs hbs0 hbs1 hbsn
      have HTA := Lib.hid hTA
      have hb6 : Below W5.heap.size W5 W6 := by rw [hW6]; exact bel_alloc _ _
      have LG6 := Lib.hid (hLG.out.below hb6)
      have HW6 := Lib.hid hW6
      clear hTA hb6 hW6
      go_wp2_with fail
      rw [← HW6.out]
      clear HW6 d0 d1 d2 d3 d4
      obtain ⟨M, hM⟩ : ∃ M, M = Wk.mix 2 (fun i => (bs i).b) := ⟨_, rfl⟩
      have hMF : (M.c = 0 ∧ M.x.wt = wt ∧ M.x.n = N) ∧ ∀ j, j < N → M.x.f j = f j := by
        have e0 : (bs 0).b = ⟨wt, N, pf⟩ := by rw [HBS0.out]; rfl
        have e1 : (bs 1).b = ⟨0, N, qf⟩ := by rw [HBS1.out]; rfl
        have hw := HWW.out
        have h1 := Wk.mix_two HOKB.out (bs := fun i => (bs i).b) (by show ((bs 0).b).n = N; rw [e0]) (by show ((bs 1).b).n = N; rw [e1]) (by show ((bs 0).b).wt + ((bs 1).b).wt = wt; rw [e0, e1]; show wt + (0) = wt; omega) (by show 0 ≤ ((bs 0).b).wt; rw [e0]; show 0 ≤ wt; omega) (by show 0 ≤ ((bs 1).b).wt; rw [e1]; show 0 ≤ 0; omega) (fun j hj => by show ((bs 0).b).f j + ((bs 1).b).f j = f j ∧ 0 ≤ ((bs 0).b).f j ∧ 0 ≤ ((bs 1).b).f j; rw [e0, e1]; exact HFF.out j hj)
        rw [hM]
        exact ⟨⟨h1.1, h1.2.1, h1.2.2.1⟩, h1.2.2.2⟩
      have IMX := implMix_any (some ⟨W5.heap.size, 0, none⟩) 2 2 bs W6 HTA.out (by omega) HBSN.out ⟨HET.out.1.below LG6.out.lf.bel, tab_below HET.out.2 LG6.out.lf.bel⟩
      rw [← hM] at IMX
      have HIMX := Lib.hid IMX
      have HMF := Lib.hid hMF
      clear IMX hMF hM
      obtain ⟨⟨mw, mn, mf⟩, ⟨mw2, mn2, mf2⟩, mc⟩ := M
      obtain ⟨⟨u1, u2, u3⟩, hmf⟩ := HMF.out
      simp only at u1 u2 u3 hmf
      replace u1 := u1.symm
      replace u2 := u2.symm
      replace u3 := u3.symm
      subst u1 u2 u3
      have HMFF := Lib.hid hmf
      clear hmf HMF
      refine HIMX.out.mono ?_
      rintro e W7 ⟨⟨cx, ix, cy, iy, rfl, htw⟩, hb⟩
      have LG7 := Lib.hid (LG6.out.below hb)
      have HCX := Lib.hid htw.px.at_
      clear htw hb LG6 HIMX
      obtain ⟨W8, hW8⟩ : ∃ W8, W8 = W7.alloc (paO ⟨⟨wt, N, mf⟩, ⟨mw2, mn2, mf2⟩, 0⟩ cx ix cy iy) := ⟨_, rfl⟩
      have hb8 : Below W7.heap.size W7 W8 := by rw [hW8]; exact bel_alloc _ _
      have LG8 := Lib.hid (LG7.out.below hb8)
      have HCX8 := Lib.hid (HCX.out.below hb8)
      have HW8 := Lib.hid hW8
      obtain ⟨d0, d1, d2, d3, d4⟩ := row5_cells LG7.out.row
      obtain ⟨⟨x0, x1⟩, _⟩ := row2_cells LG7.out.lf.box
      have l7 : g7 < W7.heap.size := LG7.out.row.lt
      have l5 : b5 < W7.heap.size := LG7.out.lf.box.lt
      clear hW8 hb8 HCX
      go_wp2_with fail
      rw [← HW8.out]
      refine (lwBatch_any wt cx a N ix k mf f _ HCX8.out LG8.out.lf.at_ HMFF.out (by have := HN7.out; omega)).mono ?_
      rintro e Wf ⟨rfl, hb⟩
      have HBF : Hid (Below w.heap.size w Wf) := LG8.out.lf.bel.trans (hb.mono LG8.out.lf.bel.size)
      clear hb
      go_wp2_with fail
      go_ret
      exact ⟨rfl, HBF.out⟩
  have hcz : (A.c == 0) = true := by simp [hc]
  go_wp2_with fail
  refine (HIM.out _ LF3.out.at_ (HET.out.1.below LF3.out.bel)).mono ?_
  rintro e W4 ⟨⟨bx, jx, by_, jy, rfl, htw⟩, hb⟩
  have LF4 := Lib.hid (LF3.out.below hb)
  have hy := Wk.split_yes (by rw [← HA.out]; exact hc)
  have hAe : A = ⟨⟨water, N, Wk.share ⟨wt, N, f⟩ water⟩, Wk.cut ⟨wt, N, f⟩ water (Wk.share ⟨wt, N, f⟩ water), 0⟩ := by rw [HA.out]; exact hy.2
  have HOKB : Hid (Wk.Ok ⟨wt, N, f⟩) := hy.1.1
  have HWW : Hid (0 ≤ water ∧ water ≤ wt) := hy.1.2
  have HAF : Hid ((A.x.wt = water ∧ A.x.n = N ∧ A.y.n = N ∧ A.y.wt = wt - water ∧ A.c = 0) ∧ ∀ j, j < N → A.x.f j + A.y.f j = f j ∧ 0 ≤ A.x.f j ∧ 0 ≤ A.y.f j) := by
    rw [hAe]
    refine ⟨⟨rfl, rfl, rfl, rfl, rfl⟩, fun j hj => ?_⟩
    have h2 : Wk.share ⟨wt, N, f⟩ water j ≤ f j := (Wk.share_bounds hy.1 (j := j) hj).2
    have h3 : 0 ≤ Wk.share ⟨wt, N, f⟩ water j := (Wk.share_bounds hy.1 (j := j) hj).1
    show Wk.share ⟨wt, N, f⟩ water j + (f j - Wk.share ⟨wt, N, f⟩ water j) = f j ∧ 0 ≤ Wk.share ⟨wt, N, f⟩ water j ∧ 0 ≤ f j - Wk.share ⟨wt, N, f⟩ water j
    omega
  have HPX := Lib.hid htw.px.at_
  have HPY := Lib.hid htw.py.at_
  clear hb LF3 x0 x1 hfd htw hy hAe hcz hc HSP HIM HA
  obtain ⟨⟨pw, pn, pf⟩, ⟨qw, qn, qf⟩, pc⟩ := A
  obtain ⟨⟨e1, e2, e3, e4, e5⟩, HFF0⟩ := HAF.out
  simp only at e1 e2 e3 e4 e5 HFF0
  replace e1 := e1.symm
  replace e2 := e2.symm
  replace e3 := e3.symm
  replace e4 := e4.symm
  replace e5 := e5.symm
  subst e1 e2 e3 e4 e5
  have HFF := Lib.hid HFF0
  clear HFF0 HAF
  obtain ⟨W5, hW5⟩ : ∃ W5, W5 = W4.alloc (paO ⟨⟨water, N, pf⟩, ⟨wt - water, N, qf⟩, 0⟩ bx jx by_ jy) := ⟨_, rfl⟩
  have hbq : Below W4.heap.size W4 W5 := by rw [hW5]; exact bel_alloc _ _
  have hLG : Hid (LG w b5 wt a N k f ⟨⟨water, N, pf⟩, ⟨wt - water, N, qf⟩, 0⟩ W4.heap.size bx jx by_ jy W5) := ⟨LF4.out.below hbq, by rw [hW5]; exact pa_row _ _ _ _ _ _, HPX.out.below hbq, HPY.out.below hbq⟩
  have HW5 := Lib.hid hW5
  clear hbq hW5 LF4 HPX HPY
  obtain ⟨W6, hW6⟩ : ∃ W6, W6 = W5.alloc (.cells #[.int .i64 water, .slice bx N jx, .int .i64 (wt - water), .slice by_ N jy] 49) := ⟨_, rfl⟩
  obtain ⟨bs, hbs⟩ : ∃ bs : Nat → Be, bs = fun i => if i = 0 then ⟨water, bx, N, jx, pf⟩ else ⟨wt - water, by_, N, jy, qf⟩ := ⟨_, rfl⟩
  have hbs0 : bs 0 = ⟨water, bx, N, jx, pf⟩ := by rw [hbs]; rfl
  have hbs1 : bs 1 = ⟨wt - water, by_, N, jy, qf⟩ := by rw [hbs]; rfl
  have hbsn : ∀ i, i < 2 → (bs i).n ≤ 4194304 := fun i hi => by
    have h7 := HN7.out
    have : i = 0 ∨ i = 1 := by omega
    rcases this with rfl | rfl
    · rw [hbs0]; show N ≤ _; omega
    · rw [hbs1]; show N ≤ _; omega
  have hTA : BtsAt (some ⟨W5.heap.size, 0, none⟩) 2 bs W6 := by rw [hW6, hbs]; exact two_at (A := ⟨⟨water, N, pf⟩, ⟨wt - water, N, qf⟩, 0⟩) hLG.out.px hLG.out.py
  have HBS0 := Lib.hid hbs0
  have HBS1 := Lib.hid hbs1
  have HBSN := Lib.hid hbsn
  clear hbs hbs0 hbs1 hbsn
  have HTA := Lib.hid hTA
  have hb6 : Below W5.heap.size W5 W6 := by rw [hW6]; exact bel_alloc _ _
  have LG6 := Lib.hid (hLG.out.below hb6)
  have HW6 := Lib.hid hW6
  clear hTA hb6 hW6
  have e5 : W4.heap.size + 1 = W5.heap.size := by rw [HW5.out]; simp
  have HE5 := Lib.hid e5
  clear e5
  go_wp2_with fail
  rw [← HW5.out, ← HW6.out, HE5.out]
  obtain ⟨g7, hg7⟩ : ∃ g7, g7 = W4.heap.size := ⟨_, rfl⟩
  rw [← hg7] at LG6 ⊢
  clear HW6 HW5 hLG hg7
  obtain ⟨M, hM⟩ : ∃ M, M = Wk.mix 2 (fun i => (bs i).b) := ⟨_, rfl⟩
  have hMF : (M.c = 0 ∧ M.x.wt = wt ∧ M.x.n = N) ∧ ∀ j, j < N → M.x.f j = f j := by
    have e0 : (bs 0).b = ⟨water, N, pf⟩ := by rw [HBS0.out]; rfl
    have e1 : (bs 1).b = ⟨wt - water, N, qf⟩ := by rw [HBS1.out]; rfl
    have hw := HWW.out
    have h1 := Wk.mix_two HOKB.out (bs := fun i => (bs i).b) (by show ((bs 0).b).n = N; rw [e0]) (by show ((bs 1).b).n = N; rw [e1]) (by show ((bs 0).b).wt + ((bs 1).b).wt = wt; rw [e0, e1]; show water + (wt - water) = wt; omega) (by show 0 ≤ ((bs 0).b).wt; rw [e0]; show 0 ≤ water; omega) (by show 0 ≤ ((bs 1).b).wt; rw [e1]; show 0 ≤ wt - water; omega) (fun j hj => by show ((bs 0).b).f j + ((bs 1).b).f j = f j ∧ 0 ≤ ((bs 0).b).f j ∧ 0 ≤ ((bs 1).b).f j; rw [e0, e1]; exact HFF.out j hj)
    rw [hM]
    exact ⟨⟨h1.1, h1.2.1, h1.2.2.1⟩, h1.2.2.2⟩
  have IMX := implMix_any (some ⟨W5.heap.size, 0, none⟩) 2 2 bs W6 HTA.out (by omega) HBSN.out ⟨HET.out.1.below LG6.out.lf.bel, tab_below HET.out.2 LG6.out.lf.bel⟩
  rw [← hM] at IMX
  have HIMX := Lib.hid IMX
  have HMF := Lib.hid hMF
  clear IMX hMF hM
  obtain ⟨⟨mw, mn, mf⟩, ⟨mw2, mn2, mf2⟩, mc⟩ := M
  obtain ⟨⟨u1, u2, u3⟩, hmf⟩ := HMF.out
  simp only at u1 u2 u3 hmf
  replace u1 := u1.symm
  replace u2 := u2.symm
  replace u3 := u3.symm
  subst u1 u2 u3
  have HMFF := Lib.hid hmf
  clear hmf HMF
  refine HIMX.out.mono ?_
  rintro e W7 ⟨⟨cx, ix, cy, iy, rfl, htw⟩, hb⟩
  have LG7 := Lib.hid (LG6.out.below hb)
  have HCX := Lib.hid htw.px.at_
  clear htw hb LG6 HIMX
  obtain ⟨W8, hW8⟩ : ∃ W8, W8 = W7.alloc (paO ⟨⟨wt, N, mf⟩, ⟨mw2, mn2, mf2⟩, 0⟩ cx ix cy iy) := ⟨_, rfl⟩
  have hb8 : Below W7.heap.size W7 W8 := by rw [hW8]; exact bel_alloc _ _
  have LG8 := Lib.hid (LG7.out.below hb8)
  have HCX8 := Lib.hid (HCX.out.below hb8)
  have HW8 := Lib.hid hW8
  obtain ⟨d0, d1, d2, d3, d4⟩ := row5_cells LG7.out.row
  obtain ⟨⟨x0, x1⟩, _⟩ := row2_cells LG7.out.lf.box
  have l7 : g7 < W7.heap.size := LG7.out.row.lt
  have l5 : b5 < W7.heap.size := LG7.out.lf.box.lt
  clear hW8 hb8 HCX
  go_wp2_with fail
  rw [← HW8.out]
  refine (lwBatch_any wt cx a N ix k mf f _ HCX8.out LG8.out.lf.at_ HMFF.out (by have := HN7.out; omega)).mono ?_
  rintro e W9 ⟨rfl, hb⟩
  have LG9 := Lib.hid (LG8.out.below hb)
  clear d0 d1 d2 d3 d4 x0 x1 l7 l5 hb LG8 LG7 HCX8 HW8
  obtain ⟨d0, d1, d2, d3, d4⟩ := row5_cells LG9.out.row
  have HB9 := Lib.hid LG9.out.lf.bel
  go_wp2_with fail
  clear d0 d1 d2 d3 d4 LG9
  refine (drawSettle_any a2 len2 cap2 _ (H2.out.below HB9.out) HLN2.out).mono ?_
  rintro e V1 ⟨⟨wt, a, N, k, f, ma, mk, mi, rfl, hN7, hpt, hpm⟩, hb⟩
  obtain ⟨V2, hV2⟩ : ∃ V2, V2 = V1.alloc (.cells #[.int .i64 wt, .slice a N k] 49) := ⟨_, rfl⟩
  have hb2 : Below V1.heap.size V1 V2 := by rw [hV2]; exact bel_alloc _ _
  have hbw : Below w.heap.size w V1 := HB9.out.trans (hb.mono HB9.out.size)
  have LF2 : Hid (LF w V1.heap.size wt a N k f V2) := ⟨by rw [hV2]; exact row2 _ _ _ _, hpt.at_.below hb2, hbw.trans (hb2.mono hbw.size)⟩
  have PM2 : Hid (PtM W9.heap.size V1.heap.size ma N mk mi V2) := hpm.same (fun g _ _ hl => hb2.block g hl)
  obtain ⟨b5, hb5⟩ : ∃ b5, b5 = V1.heap.size := ⟨_, rfl⟩
  rw [← hb5] at LF2
  have HV2 := Lib.hid hV2
  have HN7 := Lib.hid hN7
  clear hpt hpm hb hb2 hbw hV2 hN7
  go_wp2_with fail
  rw [← HV2.out, ← hb5]
  clear HV2 hb5
  obtain ⟨A, hA⟩ : ∃ A, A = Wk.settle ⟨wt, N, f⟩ N mi := ⟨_, rfl⟩
  have SP : ∀ W, IntsAt a N f W → IntsAt ma N mi W → Calls Tryd.prog 29 #[btV wt a N k, .slice ma N mk] W fun e w' => PaEnd W.heap.size A e w' ∧ Below W.heap.size W w' := fun W h h' => by rw [hA]; exact sSettle_any ⟨wt, N, f⟩ a k ma N mk mi W h (by have := HN7.out; show N ≤ _; omega) h' (by have := HN7.out; omega)
  have IM : ∀ ma' mk' W, IntsAt a N f W → IntsAt ma' N mi W → Et W → Calls Tryd.prog 30 #[btV wt a N k, .slice ma' N mk'] W fun e w' => PaEnd W.heap.size A e w' ∧ Below W.heap.size W w' := fun ma' mk' W h h' he => by rw [hA]; exact implSettle_any ⟨wt, N, f⟩ a k ma' N mk' mi W h (by have := HN7.out; show N ≤ _; omega) h' (by have := HN7.out; omega) he
  have HSP2 := Lib.hid SP
  have HIM2 := Lib.hid IM
  have HA2 := Lib.hid hA
  clear SP IM hA
  refine (HSP2.out _ LF2.out.at_ PM2.out.at_).mono ?_
  rintro e V3 ⟨⟨ax, kx, ay, ky, rfl, _⟩, hb⟩
  have LF3 := Lib.hid (LF2.out.below hb)
  have PM3 := Lib.hid (PM2.out.same (fun g _ _ hl => hb.block g hl))
  have hfd := pa_code A ax kx ay ky
  clear hb LF2 PM2
  by_cases hc : A.c = 0
  case neg =>
    have hcz : (A.c != 0) = true := by simp [hc]
    go_wp2_with fail
    go_ret
    exact ⟨rfl, LF3.out.bel⟩
  have hcz : (A.c != 0) = false := by simp [hc]
  go_wp2_with fail
  have hy := Wk.settle_yes (by rw [← HA2.out]; exact hc)
  have hAe : A = ⟨Wk.cut ⟨wt, N, f⟩ 0 (Wk.sett ⟨wt, N, f⟩ mi), ⟨0, N, Wk.sett ⟨wt, N, f⟩ mi⟩, 0⟩ := by rw [HA2.out]; exact hy.2
  have HOKB : Hid (Wk.Ok ⟨wt, N, f⟩) := hy.1.1
  have HWW : Hid (0 ≤ wt ∧ 0 ≤ wt) := ⟨hy.1.1.1.1, hy.1.1.1.1⟩
  have HAF : Hid ((A.x.wt = wt ∧ A.x.n = N ∧ A.y.n = N ∧ A.y.wt = 0 ∧ A.c = 0) ∧ ∀ j, j < N → A.x.f j + A.y.f j = f j ∧ 0 ≤ A.x.f j ∧ 0 ≤ A.y.f j) := by
    rw [hAe]
    refine ⟨⟨by simp [Wk.cut], rfl, rfl, rfl, rfl⟩, fun j hj => ?_⟩
    have h2 : Wk.sett ⟨wt, N, f⟩ mi j ≤ f j := (Wk.sett_bounds hy.1 (j := j) hj).2
    have h3 : 0 ≤ Wk.sett ⟨wt, N, f⟩ mi j := (Wk.sett_bounds hy.1 (j := j) hj).1
    show (f j - Wk.sett ⟨wt, N, f⟩ mi j) + Wk.sett ⟨wt, N, f⟩ mi j = f j ∧ 0 ≤ f j - Wk.sett ⟨wt, N, f⟩ mi j ∧ 0 ≤ Wk.sett ⟨wt, N, f⟩ mi j
    omega
  clear hfd hy hAe hcz hc
  go_cut [11] (fun p W => ∃ g7 bx jx by_ jy, p = .pointer (some ⟨g7, 0, none⟩) ∧ Hid (LG w b5 wt a N k f A g7 bx jx by_ jy W))
  case first =>
    refine wp_region_held_drew (S := LF w b5 wt a N k f) (by kernel_rfl) (LF3.out.below (Below.refl _ _).drew) (fun hHeld => ?_)
    have PMz : Hid (PtM W9.heap.size V1.heap.size ma N mk mi V3.drew) := PM3.out.same (fun _ _ _ _ => rfl)
    obtain ⟨Z, hZ⟩ : ∃ Z, Z = V3.drew := ⟨_, rfl⟩
    rw [← hZ] at hHeld PMz ⊢
    clear hZ LF3 PM3
    refine take_do (i := 0) (v := (btV wt a N k)) rfl (by kernel_rfl) (by kernel_rfl) (by kernel_rfl) (fun _ _ _ h => h) (by rfl) ?_ (by assumption) ?_
    · intro w hSw
      obtain ⟨⟨q0, q1⟩, _⟩ := row2_cells hSw.box
      go_simp
    simp only [Act.put, List.setIfInBounds_toArray, List.set_cons_zero, List.set_cons_succ]
    refine take_do (i := 1) (v := (.slice ma N mk)) rfl (by kernel_rfl) (by kernel_rfl) (by kernel_rfl) (fun _ _ _ h => h) (by rfl) ?_ (by assumption) ?_
    · intro w hSw
      clear hSw
      go_simp
    simp only [Act.put, List.setIfInBounds_toArray, List.set_cons_zero, List.set_cons_succ]
    refine wpAnyH_ready (rs := [2, 4]) (by kernel_rfl) (by simp) (AllReadyH.cons (at_drop (i := 2) rfl) (fun K2 hK => ?_) (AllReadyH.cons (at_drop (i := 4) rfl) (fun K2 hK => ?_) (AllReadyH.nil)))
    · go_simp
      refine (lwCopyP_any _ _ ma N mk mi _ PMz.out (by have := HN7.out; omega)).mono ?_
      rintro e Za ⟨⟨ca, ck, rfl, hci⟩, hb⟩
      have HCI := Lib.hid hci
      go_wp2_with fail
      refine hK.out _ _ (hHeld.below hb) (fun hHeld2 => ?_)
      clear hK hHeld
      have hHeld := hHeld2
      clear hHeld2
      clear hb hci
      refine wpAnyH_ready (rs := [3, 4]) (by kernel_rfl) (by simp) (AllReadyH.cons (at_drop (i := 3) rfl) (fun K2 hK => ?_) (AllReadyH.cons (at_drop (i := 4) rfl) (fun K2 hK => ?_) (AllReadyH.nil)))
      · go_simp
        refine (HIM2.out ca ck _ hHeld.at_ HCI.out (HET.out.1.below hHeld.bel)).mono ?_
        rintro e Zb ⟨⟨bx, jx, by_, jy, rfl, htw⟩, hb⟩
        have HTW := Lib.hid htw
        go_wp2_with fail
        refine hK.out _ _ (hHeld.below hb) (fun hHeld2 => ?_)
        clear hK hHeld
        have hHeld := hHeld2
        clear hHeld2
        clear hb htw
        refine take_call (i := 4) rfl (by kernel_rfl) (fun K2 hK => ?_)
        obtain ⟨Zc, hZc⟩ : ∃ Zc, Zc = Zb.alloc (.cells #[.int .i64 0, .slice none 0 0, .int .i64 0, .slice none 0 0, .int .i64 0] 53) := ⟨_, rfl⟩
        have hbz : Below Zb.heap.size Zb Zc := by rw [hZc]; exact bel_alloc _ _
        have RZc : Hid (Zc.rowIs Zb.heap.size 53 5 (rowL [.int .i64 0, .slice none 0 0, .int .i64 0, .slice none 0 0, .int .i64 0])) := by show World.rowIs _ _ _ _ _; rw [hZc]; exact rowL_alloc _ [.int .i64 0, .slice none 0 0, .int .i64 0, .slice none 0 0, .int .i64 0] _
        obtain ⟨g7, hg7⟩ : ∃ g7, g7 = Zb.heap.size := ⟨_, rfl⟩
        rw [← hg7] at RZc
        have HBW : Hid (w.heap.size ≤ g7) := by show _ ≤ _; rw [hg7]; exact hHeld.bel.size
        have HB5 : Hid (b5 < g7) := by show _ < _; rw [hg7]; exact hHeld.box.lt
        have HAT : Hid (∀ q, a = some ⟨q, 0, none⟩ → 0 < N → q ≠ g7) := fun q hq hn => by
          rcases hHeld.at_ with h0 | ⟨q', e, h0⟩
          · omega
          · rw [hq] at e; simp at e; subst e
            have := World.block_lt_of_cell? _ _ (h0 0 hn)
            simp at this; omega
        have HNX : Hid (∀ q, (atP bx q ∨ atP by_ q) → q ≠ g7) := fun q hq => by
          rcases hq with hq | hq
          · have := HTW.out.px.atp hq; omega
          · have := HTW.out.py.atp hq; omega
        have HTWc := Lib.hid (HTW.out.below hbz)
        go_simp
        rw [← hZc, ← hg7]
        refine hK.out _ _ (hHeld.below hbz) (fun hHeld2 => ?_)
        clear hK hHeld
        have hHeld := hHeld2
        clear hHeld2
        clear hbz hZc hg7
        have o0 := RZc.out.cell (i := 0) (by omega)
        have z0 := RZc.out.frozen 0
        have o1 := RZc.out.cell (i := 1) (by omega)
        have z1 := RZc.out.frozen 1
        have o2 := RZc.out.cell (i := 2) (by omega)
        have z2 := RZc.out.frozen 2
        have o3 := RZc.out.cell (i := 3) (by omega)
        have z3 := RZc.out.frozen 3
        have o4 := RZc.out.cell (i := 4) (by omega)
        have z4 := RZc.out.frozen 4
        have LGE : Hid (LG w b5 wt a N k f A g7 bx jx by_ jy (put5 Zc g7 (.int .i64 A.x.wt) (.slice bx A.x.n jx) (.int .i64 A.y.wt) (.slice by_ A.y.n jy) (.int .i64 A.c))) := by
          have hb5 := HB5.out
          refine ⟨⟨hHeld.box.of_block (put5_far _ (show b5 ≠ g7 by omega) _ _ _ _ _), ?_, below_put5 hHeld.bel HBW.out _ _ _ _ _⟩, put5_row RZc.out _ _ _ _ _, HTWc.out.px.at_.same (fun q e _ => put5_far _ (HNX.out q (Or.inl e)) _ _ _ _ _), HTWc.out.py.at_.same (fun q e _ => put5_far _ (HNX.out q (Or.inr e)) _ _ _ _ _)⟩
          rcases hHeld.at_ with h0 | ⟨q, e, h0⟩
          · exact Or.inl h0
          · by_cases hn : 0 < N
            · exact Or.inr ⟨q, e, fun i hi => (World.cell?_of_block (a := ⟨q, i, none⟩) (put5_far _ (HAT.out q e hn) _ _ _ _ _)).trans (h0 i hi)⟩
            · exact Or.inl (by omega)
        refine take_call (i := 5) rfl (by kernel_rfl) (fun K2 hK => ?_)
        go_simp
        refine hK.out _ _ LGE.out.lf (fun hHeld2 => ?_)
        clear hK hHeld hHeld2 o0 z0 o1 z1 o2 z2 o3 z3 o4 z4
        refine wpAnyH_done (by kernel_rfl) ?_ _
        go_wp2_with fail
        go_meet
        case rel => exact ⟨g7, bx, jx, by_, jy, rfl, LGE⟩
      · obtain ⟨Zc, hZc⟩ : ∃ Zc, Zc = Za.alloc (.cells #[.int .i64 0, .slice none 0 0, .int .i64 0, .slice none 0 0, .int .i64 0] 53) := ⟨_, rfl⟩
        have hbz : Below Za.heap.size Za Zc := by rw [hZc]; exact bel_alloc _ _
        have RZc : Hid (Zc.rowIs Za.heap.size 53 5 (rowL [.int .i64 0, .slice none 0 0, .int .i64 0, .slice none 0 0, .int .i64 0])) := by show World.rowIs _ _ _ _ _; rw [hZc]; exact rowL_alloc _ [.int .i64 0, .slice none 0 0, .int .i64 0, .slice none 0 0, .int .i64 0] _
        obtain ⟨g7, hg7⟩ : ∃ g7, g7 = Za.heap.size := ⟨_, rfl⟩
        rw [← hg7] at RZc
        have HBW : Hid (w.heap.size ≤ g7) := by show _ ≤ _; rw [hg7]; exact hHeld.bel.size
        have HB5 : Hid (b5 < g7) := by show _ < _; rw [hg7]; exact hHeld.box.lt
        have HAT : Hid (∀ q, a = some ⟨q, 0, none⟩ → 0 < N → q ≠ g7) := fun q hq hn => by
          rcases hHeld.at_ with h0 | ⟨q', e, h0⟩
          · omega
          · rw [hq] at e; simp at e; subst e
            have := World.block_lt_of_cell? _ _ (h0 0 hn)
            simp at this; omega
        have HCIc := Lib.hid (HCI.out.below hbz)
        go_simp
        rw [← hZc, ← hg7]
        refine hK.out _ _ (hHeld.below hbz) (fun hHeld2 => ?_)
        clear hK hHeld
        have hHeld := hHeld2
        clear hHeld2
        clear hbz hZc hg7
        refine take_call (i := 3) rfl (by kernel_rfl) (fun K2 hK => ?_)
        go_simp
        refine (HIM2.out ca ck _ hHeld.at_ HCIc.out (HET.out.1.below hHeld.bel)).mono ?_
        rintro e Zb ⟨⟨bx, jx, by_, jy, rfl, htw⟩, hb⟩
        have HTW := Lib.hid htw
        have HNX : Hid (∀ q, (atP bx q ∨ atP by_ q) → q ≠ g7) := fun q hq => by
          have h0 := RZc.out.lt
          rcases hq with hq | hq
          · have := htw.px.atp hq; omega
          · have := htw.py.atp hq; omega
        have RZb := Lib.hid (wrow_below RZc.out hb)
        go_wp2_with fail
        refine hK.out _ _ (hHeld.below hb) (fun hHeld2 => ?_)
        clear hK hHeld
        have hHeld := hHeld2
        clear hHeld2
        clear hb htw
        have o0 := RZb.out.cell (i := 0) (by omega)
        have z0 := RZb.out.frozen 0
        have o1 := RZb.out.cell (i := 1) (by omega)
        have z1 := RZb.out.frozen 1
        have o2 := RZb.out.cell (i := 2) (by omega)
        have z2 := RZb.out.frozen 2
        have o3 := RZb.out.cell (i := 3) (by omega)
        have z3 := RZb.out.frozen 3
        have o4 := RZb.out.cell (i := 4) (by omega)
        have z4 := RZb.out.frozen 4
        have LGE : Hid (LG w b5 wt a N k f A g7 bx jx by_ jy (put5 Zb g7 (.int .i64 A.x.wt) (.slice bx A.x.n jx) (.int .i64 A.y.wt) (.slice by_ A.y.n jy) (.int .i64 A.c))) := by
          have hb5 := HB5.out
          refine ⟨⟨hHeld.box.of_block (put5_far _ (show b5 ≠ g7 by omega) _ _ _ _ _), ?_, below_put5 hHeld.bel HBW.out _ _ _ _ _⟩, put5_row RZb.out _ _ _ _ _, HTW.out.px.at_.same (fun q e _ => put5_far _ (HNX.out q (Or.inl e)) _ _ _ _ _), HTW.out.py.at_.same (fun q e _ => put5_far _ (HNX.out q (Or.inr e)) _ _ _ _ _)⟩
          rcases hHeld.at_ with h0 | ⟨q, e, h0⟩
          · exact Or.inl h0
          · by_cases hn : 0 < N
            · exact Or.inr ⟨q, e, fun i hi => (World.cell?_of_block (a := ⟨q, i, none⟩) (put5_far _ (HAT.out q e hn) _ _ _ _ _)).trans (h0 i hi)⟩
            · exact Or.inl (by omega)
        refine take_call (i := 5) rfl (by kernel_rfl) (fun K2 hK => ?_)
        go_simp
        refine hK.out _ _ LGE.out.lf (fun hHeld2 => ?_)
        clear hK hHeld hHeld2 o0 z0 o1 z1 o2 z2 o3 z3 o4 z4
        refine wpAnyH_done (by kernel_rfl) ?_ _
        go_wp2_with fail
        go_meet
        case rel => exact ⟨g7, bx, jx, by_, jy, rfl, LGE⟩
    · obtain ⟨Zc, hZc⟩ : ∃ Zc, Zc = Z.alloc (.cells #[.int .i64 0, .slice none 0 0, .int .i64 0, .slice none 0 0, .int .i64 0] 53) := ⟨_, rfl⟩
      have hbz : Below Z.heap.size Z Zc := by rw [hZc]; exact bel_alloc _ _
      have RZc : Hid (Zc.rowIs Z.heap.size 53 5 (rowL [.int .i64 0, .slice none 0 0, .int .i64 0, .slice none 0 0, .int .i64 0])) := by show World.rowIs _ _ _ _ _; rw [hZc]; exact rowL_alloc _ [.int .i64 0, .slice none 0 0, .int .i64 0, .slice none 0 0, .int .i64 0] _
      obtain ⟨g7, hg7⟩ : ∃ g7, g7 = Z.heap.size := ⟨_, rfl⟩
      rw [← hg7] at RZc
      have HBW : Hid (w.heap.size ≤ g7) := by show _ ≤ _; rw [hg7]; exact hHeld.bel.size
      have HB5 : Hid (b5 < g7) := by show _ < _; rw [hg7]; exact hHeld.box.lt
      have HAT : Hid (∀ q, a = some ⟨q, 0, none⟩ → 0 < N → q ≠ g7) := fun q hq hn => by
        rcases hHeld.at_ with h0 | ⟨q', e, h0⟩
        · omega
        · rw [hq] at e; simp at e; subst e
          have := World.block_lt_of_cell? _ _ (h0 0 hn)
          simp at this; omega
      have PMc : Hid (PtM W9.heap.size V1.heap.size ma N mk mi Zc) := PMz.out.same (fun g _ _ hl => hbz.block g hl)
      go_simp
      rw [← hZc, ← hg7]
      refine hK.out _ _ (hHeld.below hbz) (fun hHeld2 => ?_)
      clear hK hHeld
      have hHeld := hHeld2
      clear hHeld2
      clear hbz hZc hg7
      refine take_call (i := 2) rfl (by kernel_rfl) (fun K2 hK => ?_)
      go_simp
      refine (lwCopyP_any _ _ ma N mk mi _ PMc.out (by have := HN7.out; omega)).mono ?_
      rintro e Za ⟨⟨ca, ck, rfl, hci⟩, hb⟩
      have HCI := Lib.hid hci
      have RZa := Lib.hid (wrow_below RZc.out hb)
      go_wp2_with fail
      refine hK.out _ _ (hHeld.below hb) (fun hHeld2 => ?_)
      clear hK hHeld
      have hHeld := hHeld2
      clear hHeld2
      clear hb hci
      refine take_call (i := 3) rfl (by kernel_rfl) (fun K2 hK => ?_)
      go_simp
      refine (HIM2.out ca ck _ hHeld.at_ HCI.out (HET.out.1.below hHeld.bel)).mono ?_
      rintro e Zb ⟨⟨bx, jx, by_, jy, rfl, htw⟩, hb⟩
      have HTW := Lib.hid htw
      have HNX : Hid (∀ q, (atP bx q ∨ atP by_ q) → q ≠ g7) := fun q hq => by
        have h0 := RZa.out.lt
        rcases hq with hq | hq
        · have := htw.px.atp hq; omega
        · have := htw.py.atp hq; omega
      have RZb := Lib.hid (wrow_below RZa.out hb)
      go_wp2_with fail
      refine hK.out _ _ (hHeld.below hb) (fun hHeld2 => ?_)
      clear hK hHeld
      have hHeld := hHeld2
      clear hHeld2
      clear hb htw
      have o0 := RZb.out.cell (i := 0) (by omega)
      have z0 := RZb.out.frozen 0
      have o1 := RZb.out.cell (i := 1) (by omega)
      have z1 := RZb.out.frozen 1
      have o2 := RZb.out.cell (i := 2) (by omega)
      have z2 := RZb.out.frozen 2
      have o3 := RZb.out.cell (i := 3) (by omega)
      have z3 := RZb.out.frozen 3
      have o4 := RZb.out.cell (i := 4) (by omega)
      have z4 := RZb.out.frozen 4
      have LGE : Hid (LG w b5 wt a N k f A g7 bx jx by_ jy (put5 Zb g7 (.int .i64 A.x.wt) (.slice bx A.x.n jx) (.int .i64 A.y.wt) (.slice by_ A.y.n jy) (.int .i64 A.c))) := by
        have hb5 := HB5.out
        refine ⟨⟨hHeld.box.of_block (put5_far _ (show b5 ≠ g7 by omega) _ _ _ _ _), ?_, below_put5 hHeld.bel HBW.out _ _ _ _ _⟩, put5_row RZb.out _ _ _ _ _, HTW.out.px.at_.same (fun q e _ => put5_far _ (HNX.out q (Or.inl e)) _ _ _ _ _), HTW.out.py.at_.same (fun q e _ => put5_far _ (HNX.out q (Or.inr e)) _ _ _ _ _)⟩
        rcases hHeld.at_ with h0 | ⟨q, e, h0⟩
        · exact Or.inl h0
        · by_cases hn : 0 < N
          · exact Or.inr ⟨q, e, fun i hi => (World.cell?_of_block (a := ⟨q, i, none⟩) (put5_far _ (HAT.out q e hn) _ _ _ _ _)).trans (h0 i hi)⟩
          · exact Or.inl (by omega)
      refine take_call (i := 5) rfl (by kernel_rfl) (fun K2 hK => ?_)
      go_simp
      refine hK.out _ _ LGE.out.lf (fun hHeld2 => ?_)
      clear hK hHeld hHeld2 o0 z0 o1 z1 o2 z2 o3 z3 o4 z4
      refine wpAnyH_done (by kernel_rfl) ?_ _
      go_wp2_with fail
      go_meet
      case rel => exact ⟨g7, bx, jx, by_, jy, rfl, LGE⟩
  case rest =>
    obtain ⟨g7, bx, jx, by_, jy, rfl, hLG⟩ := hcut
    clear LF3 PM3
    obtain ⟨⟨pw, pn, pf⟩, ⟨qw, qn, qf⟩, pc⟩ := A
    obtain ⟨⟨e1, e2, e3, e4, e5⟩, HFF0⟩ := HAF.out
    simp only at e1 e2 e3 e4 e5 HFF0
    replace e1 := e1.symm
    replace e2 := e2.symm
    replace e3 := e3.symm
    replace e4 := e4.symm
    replace e5 := e5.symm
    subst e1 e2 e3 e4 e5
    have HFF := Lib.hid HFF0
    clear HFF0 HAF
    obtain ⟨W5, hW5⟩ : ∃ W5, W5 = wc := ⟨_, rfl⟩
    rw [← hW5] at hLG ⊢
    clear hW5
    have hL5 : g7 < W5.heap.size := hLG.out.row.lt
    obtain ⟨d0, d1, d2, d3, d4⟩ := row5_cells hLG.out.row
    obtain ⟨W6, hW6⟩ : ∃ W6, W6 = W5.alloc (.cells #[.int .i64 wt, .slice bx N jx, .int .i64 (0), .slice by_ N jy] 49) := ⟨_, rfl⟩
    obtain ⟨bs, hbs⟩ : ∃ bs : Nat → Be, bs = fun i => if i = 0 then ⟨wt, bx, N, jx, pf⟩ else ⟨0, by_, N, jy, qf⟩ := ⟨_, rfl⟩
    have hbs0 : bs 0 = ⟨wt, bx, N, jx, pf⟩ := by rw [hbs]; rfl
    have hbs1 : bs 1 = ⟨0, by_, N, jy, qf⟩ := by rw [hbs]; rfl
    have hbsn : ∀ i, i < 2 → (bs i).n ≤ 4194304 := fun i hi => by
      have h7 := HN7.out
      have : i = 0 ∨ i = 1 := by omega
      rcases this with rfl | rfl
      · rw [hbs0]; show N ≤ _; omega
      · rw [hbs1]; show N ≤ _; omega
    have hTA : BtsAt (some ⟨W5.heap.size, 0, none⟩) 2 bs W6 := by rw [hW6, hbs]; exact two_at (A := ⟨⟨wt, N, pf⟩, ⟨0, N, qf⟩, 0⟩) hLG.out.px hLG.out.py
    have HBS0 := Lib.hid hbs0
    have HBS1 := Lib.hid hbs1
    have HBSN := Lib.hid hbsn
    clear hbs hbs0 hbs1 hbsn
    have HTA := Lib.hid hTA
    have hb6 : Below W5.heap.size W5 W6 := by rw [hW6]; exact bel_alloc _ _
    have LG6 := Lib.hid (hLG.out.below hb6)
    have HW6 := Lib.hid hW6
    clear hTA hb6 hW6
    go_wp2_with fail
    rw [← HW6.out]
    clear HW6 d0 d1 d2 d3 d4
    obtain ⟨M, hM⟩ : ∃ M, M = Wk.mix 2 (fun i => (bs i).b) := ⟨_, rfl⟩
    have hMF : (M.c = 0 ∧ M.x.wt = wt ∧ M.x.n = N) ∧ ∀ j, j < N → M.x.f j = f j := by
      have e0 : (bs 0).b = ⟨wt, N, pf⟩ := by rw [HBS0.out]; rfl
      have e1 : (bs 1).b = ⟨0, N, qf⟩ := by rw [HBS1.out]; rfl
      have hw := HWW.out
      have h1 := Wk.mix_two HOKB.out (bs := fun i => (bs i).b) (by show ((bs 0).b).n = N; rw [e0]) (by show ((bs 1).b).n = N; rw [e1]) (by show ((bs 0).b).wt + ((bs 1).b).wt = wt; rw [e0, e1]; show wt + (0) = wt; omega) (by show 0 ≤ ((bs 0).b).wt; rw [e0]; show 0 ≤ wt; omega) (by show 0 ≤ ((bs 1).b).wt; rw [e1]; show 0 ≤ 0; omega) (fun j hj => by show ((bs 0).b).f j + ((bs 1).b).f j = f j ∧ 0 ≤ ((bs 0).b).f j ∧ 0 ≤ ((bs 1).b).f j; rw [e0, e1]; exact HFF.out j hj)
      rw [hM]
      exact ⟨⟨h1.1, h1.2.1, h1.2.2.1⟩, h1.2.2.2⟩
    have IMX := implMix_any (some ⟨W5.heap.size, 0, none⟩) 2 2 bs W6 HTA.out (by omega) HBSN.out ⟨HET.out.1.below LG6.out.lf.bel, tab_below HET.out.2 LG6.out.lf.bel⟩
    rw [← hM] at IMX
    have HIMX := Lib.hid IMX
    have HMF := Lib.hid hMF
    clear IMX hMF hM
    obtain ⟨⟨mw, mn, mf⟩, ⟨mw2, mn2, mf2⟩, mc⟩ := M
    obtain ⟨⟨u1, u2, u3⟩, hmf⟩ := HMF.out
    simp only at u1 u2 u3 hmf
    replace u1 := u1.symm
    replace u2 := u2.symm
    replace u3 := u3.symm
    subst u1 u2 u3
    have HMFF := Lib.hid hmf
    clear hmf HMF
    refine HIMX.out.mono ?_
    rintro e W7 ⟨⟨cx, ix, cy, iy, rfl, htw⟩, hb⟩
    have LG7 := Lib.hid (LG6.out.below hb)
    have HCX := Lib.hid htw.px.at_
    clear htw hb LG6 HIMX
    obtain ⟨W8, hW8⟩ : ∃ W8, W8 = W7.alloc (paO ⟨⟨wt, N, mf⟩, ⟨mw2, mn2, mf2⟩, 0⟩ cx ix cy iy) := ⟨_, rfl⟩
    have hb8 : Below W7.heap.size W7 W8 := by rw [hW8]; exact bel_alloc _ _
    have LG8 := Lib.hid (LG7.out.below hb8)
    have HCX8 := Lib.hid (HCX.out.below hb8)
    have HW8 := Lib.hid hW8
    obtain ⟨d0, d1, d2, d3, d4⟩ := row5_cells LG7.out.row
    obtain ⟨⟨x0, x1⟩, _⟩ := row2_cells LG7.out.lf.box
    have l7 : g7 < W7.heap.size := LG7.out.row.lt
    have l5 : b5 < W7.heap.size := LG7.out.lf.box.lt
    clear hW8 hb8 HCX
    go_wp2_with fail
    rw [← HW8.out]
    refine (lwBatch_any wt cx a N ix k mf f _ HCX8.out LG8.out.lf.at_ HMFF.out (by have := HN7.out; omega)).mono ?_
    rintro e Wf ⟨rfl, hb⟩
    have HBF : Hid (Below w.heap.size w Wf) := LG8.out.lf.bel.trans (hb.mono LG8.out.lf.bel.size)
    clear hb
    go_wp2_with fail
    go_ret
    exact ⟨rfl, HBF.out⟩
end Go.Proofs.YtoeibcmmpbkbpaaDoor
