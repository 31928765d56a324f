/-
  The law of two drawn fractions, walked.
-/
import Derived.Test.YtemmmhkjjcmcmaaDoorFracs
import Derived.BigRegion
import Derived.Test.YtemmmhkjjcmcmaaDoorReg
namespace Go.Proofs.YtemmmhkjjcmcmaaDoor
open Go.RowKit
set_option linter.unusedSimpArgs false in
set_option maxRecDepth 100000 in
set_option maxHeartbeats 20000000 in
theorem fracs_law (a : Option Addr) (len cap : Nat) (w : World) (h : Bytes a len w) (hl : len ≤ 1048576) (hg : w.cell? ⟨0, 0, none⟩ = some (.iface 107 (.agg #[.pointer (some ⟨7, 42, none⟩)]))) :
    Calls Tryd.prog 3 #[.slice a len cap] w fun e w' => e = .returned (.bool true) ∧ Below w.heap.size w w' := by
  have H : Hid (Bytes a len w) := h
  have Hg : Hid (w.cell? ⟨0, 0, none⟩ = some (.iface 107 (.agg #[.pointer (some ⟨7, 42, none⟩)]))) := hg
  clear h hg
  have hlz : ¬ (1048576 : Int) < (len : Int) := by omega
  go_enter Tryd.func3, Tryd.ntmps3
  go_wp2_with fail
  refine (drawAdd_any a len cap _ H.out hl).mono ?_
  rintro e w1 ⟨⟨n1, d1, n2, d2, rfl, k1, k2, k3, k4⟩, hB1⟩
  have K : Hid (In64 n1 ∧ In64 d1 ∧ In64 n2 ∧ In64 d2) := ⟨k1, k2, k3, k4⟩
  have HB1 : Hid (Below w.heap.size w w1) := hB1
  clear k1 k2 k3 k4 hB1
  cases hr1 : M.rightB n1 d1
  · go_wp2_with fail
    refine (specRight_any _ _ _).mono ?_
    rintro e w2 ⟨rfl, hb2⟩
    rw [hr1]
    obtain ⟨_, _, _, _, _, hB⟩ := two_later (hb2.mono (by simp))
    have HB2 : Hid (Below w.heap.size w w2) := HB1.out.trans (hB.out.mono HB1.out.size)
    clear hb2
    go_wp2_with fail
    go_ret
    exact ⟨rfl, HB2.out⟩
  · cases hr2 : M.rightB n2 d2
    · go_wp2_with fail
      refine (specRight_any _ _ _).mono ?_
      rintro e w2 ⟨rfl, hb2⟩
      rw [hr1]
      obtain ⟨c1, c2, c3, c4, hz, hB⟩ := two_later (hb2.mono (by simp))
      have HB2 : Hid (Below w.heap.size w w2) := HB1.out.trans (hB.out.mono HB1.out.size)
      clear hb2
      go_wp2_with fail
      refine (specRight_any _ _ _).mono ?_
      rintro e w3 ⟨rfl, hb3⟩
      rw [hr2]
      have HB3 : Hid (Below w.heap.size w w3) := HB2.out.trans (hb3.mono HB2.out.size)
      clear hb3
      go_wp2_with fail
      go_ret
      exact ⟨rfl, HB3.out⟩
    · obtain ⟨sN, sD, sC, eN, eD, eC, pN, pD, pC, c, ⟨A1, A2, A3, A4⟩, ⟨E1, E2, E3, E4⟩, ⟨P1, P2, P3, P4⟩, C1, C2, cc1, cc2⟩ := fracs_all n1 d1 n2 d2 w K.out.1 K.out.2.1 K.out.2.2.1 K.out.2.2.2 hr1 hr2 Hg.out
      have hwc : IntKind.i64.wrap c = c := by rcases (by omega : c = -1 ∨ c = 0 ∨ c = 1) with rfl | rfl | rfl <;> rfl
      clear cc1 cc2
      go_wp2_with fail
      refine (specRight_any _ _ _).mono ?_
      rintro e w2 ⟨rfl, hb2⟩
      rw [hr1]
      obtain ⟨c1, c2, c3, c4, hz, hB⟩ := two_later (hb2.mono (by simp))
      have HB2 : Hid (Below w.heap.size w w2) := HB1.out.trans (hB.out.mono HB1.out.size)
      clear hb2
      go_wp2_with fail
      refine (specRight_any _ _ _).mono ?_
      rintro e w3 ⟨rfl, hb3⟩
      rw [hr2]
      have HB3 : Hid (Below w.heap.size w w3) := HB2.out.trans (hb3.mono HB2.out.size)
      obtain ⟨c5, c6, c7, c8, hz3, _⟩ := two_keep hb3 ⟨c1, c2, c3, c4, hz, hB⟩
      clear hb3 c1 c2 c3 c4 hz hB HB2 HB1 K
      generalize w1.heap.size = A at *
      go_wp2_with fail
      refine (A1.out _ HB3).mono ?_
      rintro e w4 ⟨rfl, hb4⟩
      have HS : Hid ((fun w' => w'.cell? ⟨A, 0, none⟩ = some (.int .i64 n1) ∧ w'.cell? ⟨A, 1, none⟩ = some (.int .i64 d1) ∧ w'.cell? ⟨A + 1, 0, none⟩ = some (.int .i64 n2) ∧ w'.cell? ⟨A + 1, 1, none⟩ = some (.int .i64 d2) ∧ w'.cell? ⟨w4.heap.size, 0, none⟩ = some (.int .i64 sN) ∧ w'.cell? ⟨w4.heap.size, 1, none⟩ = some (.int .i64 sD) ∧ w'.cell? ⟨w4.heap.size, 2, none⟩ = some (.int .i64 sC) ∧ Hid (Below w.heap.size w w')) (w4.alloc (.cells #[.int .i64 sN, .int .i64 sD, .int .i64 sC] 29))) := keep_new HB3 c5 c6 c7 c8 hb4
      clear HB3 c5 c6 c7 c8 hb4
      go_wp2_with fail
      generalize w4.alloc (.cells #[.int .i64 sN, .int .i64 sD, .int .i64 sC] 29) = w5 at *
      generalize w4.heap.size = S at *
      go_cut [40] (fun s wx => s = .bool false ∧ Hid ((fun w' => w'.cell? ⟨A, 0, none⟩ = some (.int .i64 n1) ∧ w'.cell? ⟨A, 1, none⟩ = some (.int .i64 d1) ∧ w'.cell? ⟨A + 1, 0, none⟩ = some (.int .i64 n2) ∧ w'.cell? ⟨A + 1, 1, none⟩ = some (.int .i64 d2) ∧ w'.cell? ⟨S, 0, none⟩ = some (.int .i64 sN) ∧ w'.cell? ⟨S, 1, none⟩ = some (.int .i64 sD) ∧ w'.cell? ⟨S, 2, none⟩ = some (.int .i64 sC) ∧ Hid (Below w.heap.size w w')) wx))
      case first =>
        refine wp_region_held_drew (S := (fun w' => w'.cell? ⟨A, 0, none⟩ = some (.int .i64 n1) ∧ w'.cell? ⟨A, 1, none⟩ = some (.int .i64 d1) ∧ w'.cell? ⟨A + 1, 0, none⟩ = some (.int .i64 n2) ∧ w'.cell? ⟨A + 1, 1, none⟩ = some (.int .i64 d2) ∧ w'.cell? ⟨S, 0, none⟩ = some (.int .i64 sN) ∧ w'.cell? ⟨S, 1, none⟩ = some (.int .i64 sD) ∧ w'.cell? ⟨S, 2, none⟩ = some (.int .i64 sC) ∧ Hid (Below w.heap.size w w'))) (by kernel_rfl) (keep7 (Below.refl _ _).drew HS.out) (fun hHeld => ?_)
        refine take_do (i := 0) (v := .agg #[.int .i64 sN, .int .i64 sD, .int .i64 sC]) rfl (by kernel_rfl) (by kernel_rfl) (by kernel_rfl) (fun _ _ _ h => h) (by rfl) ?_ (by assumption) ?_
        · intro w hSw
          go_simp
        simp only [Act.put, List.setIfInBounds_toArray, List.set_cons_zero, List.set_cons_succ]
        refine take_do (i := 1) (v := .agg #[.int .i64 n2, .int .i64 d2]) rfl (by kernel_rfl) (by kernel_rfl) (by kernel_rfl) (fun _ _ _ h => h) (by rfl) ?_ (by assumption) ?_
        · intro w hSw
          go_simp
        simp only [Act.put, List.setIfInBounds_toArray, List.set_cons_zero, List.set_cons_succ]
        refine take_do (i := 2) (v := .agg #[.int .i64 n1, .int .i64 d1]) rfl (by kernel_rfl) (by kernel_rfl) (by kernel_rfl) (fun _ _ _ h => h) (by rfl) ?_ (by assumption) ?_
        · intro w hSw
          go_simp
        simp only [Act.put, List.setIfInBounds_toArray, List.set_cons_zero, List.set_cons_succ]
        refine take_call (i := 3) rfl (by kernel_rfl) (fun K hK => ?_)
        go_simp
        refine (A2.out _ (hid7 (by assumption))).mono ?_
        rintro e w' ⟨rfl, hb⟩
        go_wp2_with fail
        refine hK.out _ _ (keep7 hb hHeld) (fun hHeld2 => ?_)
        clear hK hHeld hb
        have hHeld := hHeld2
        clear hHeld2
        refine take_do (i := 4) (v := .bool false) rfl (by kernel_rfl) (by kernel_rfl) (by kernel_rfl) (fun _ _ _ h => h) (by rfl) ?_ (by assumption) ?_
        · intro w hSw
          go_simp
        simp only [Act.put, List.setIfInBounds_toArray, List.set_cons_zero, List.set_cons_succ]
        refine take_do (i := 5) (v := .bool false) rfl (by kernel_rfl) (by kernel_rfl) (by kernel_rfl) (fun _ _ _ h => h) (by rfl) ?_ (by assumption) ?_
        · intro w hSw
          go_simp
        simp only [Act.put, List.setIfInBounds_toArray, List.set_cons_zero, List.set_cons_succ]
        refine take_do (i := 6) (v := .agg #[.int .i64 n1, .int .i64 d1]) rfl (by kernel_rfl) (by kernel_rfl) (by kernel_rfl) (fun _ _ _ h => h) (by rfl) ?_ (by assumption) ?_
        · intro w hSw
          go_simp
        simp only [Act.put, List.setIfInBounds_toArray, List.set_cons_zero, List.set_cons_succ]
        refine take_do (i := 7) (v := .agg #[.int .i64 n2, .int .i64 d2]) rfl (by kernel_rfl) (by kernel_rfl) (by kernel_rfl) (fun _ _ _ h => h) (by rfl) ?_ (by assumption) ?_
        · intro w hSw
          go_simp
        simp only [Act.put, List.setIfInBounds_toArray, List.set_cons_zero, List.set_cons_succ]
        refine take_do (i := 9) (v := .agg #[.int .i64 n2, .int .i64 d2]) rfl (by kernel_rfl) (by kernel_rfl) (by kernel_rfl) (fun _ _ _ h => h) (by rfl) ?_ (by assumption) ?_
        · intro w hSw
          go_simp
        simp only [Act.put, List.setIfInBounds_toArray, List.set_cons_zero, List.set_cons_succ]
        refine take_do (i := 10) (v := .agg #[.int .i64 n1, .int .i64 d1]) rfl (by kernel_rfl) (by kernel_rfl) (by kernel_rfl) (fun _ _ _ h => h) (by rfl) ?_ (by assumption) ?_
        · intro w hSw
          go_simp
        simp only [Act.put, List.setIfInBounds_toArray, List.set_cons_zero, List.set_cons_succ]
        refine take_call (i := 8) rfl (by kernel_rfl) (fun K hK => ?_)
        go_simp
        refine (P1.out _ (hid7 (by assumption))).mono ?_
        rintro e w' ⟨rfl, hb⟩
        go_wp2_with fail
        refine hK.out _ _ (keep7 hb hHeld) (fun hHeld2 => ?_)
        clear hK hHeld hb
        have hHeld := hHeld2
        clear hHeld2
        refine take_call (i := 11) rfl (by kernel_rfl) (fun K hK => ?_)
        go_simp
        refine (P2.out _ (hid7 (by assumption))).mono ?_
        rintro e w' ⟨rfl, hb⟩
        go_wp2_with fail
        refine hK.out _ _ (keep7 hb hHeld) (fun hHeld2 => ?_)
        clear hK hHeld hb
        have hHeld := hHeld2
        clear hHeld2
        refine take_do (i := 12) (v := .bool false) rfl (by kernel_rfl) (by kernel_rfl) (by kernel_rfl) (fun _ _ _ h => h) (by rfl) ?_ (by assumption) ?_
        · intro w hSw
          go_simp
        simp only [Act.put, List.setIfInBounds_toArray, List.set_cons_zero, List.set_cons_succ]
        refine take_do (i := 13) (v := .bool false) rfl (by kernel_rfl) (by kernel_rfl) (by kernel_rfl) (fun _ _ _ h => h) (by rfl) ?_ (by assumption) ?_
        · intro w hSw
          go_simp
        simp only [Act.put, List.setIfInBounds_toArray, List.set_cons_zero, List.set_cons_succ]
        refine wpAnyH_done (by kernel_rfl) ?_ _
        go_wp2_with fail
        go_meet
        exact ⟨rfl, hHeld⟩
      case rest =>
        obtain ⟨rfl, HT⟩ := hcut
        clear HS
        have HS := HT
        clear HT
        go_wp2_with fail
        go_cut [54] (fun s wx => s = .bool false ∧ Hid ((fun w' => w'.cell? ⟨A, 0, none⟩ = some (.int .i64 n1) ∧ w'.cell? ⟨A, 1, none⟩ = some (.int .i64 d1) ∧ w'.cell? ⟨A + 1, 0, none⟩ = some (.int .i64 n2) ∧ w'.cell? ⟨A + 1, 1, none⟩ = some (.int .i64 d2) ∧ w'.cell? ⟨S, 0, none⟩ = some (.int .i64 sN) ∧ w'.cell? ⟨S, 1, none⟩ = some (.int .i64 sD) ∧ w'.cell? ⟨S, 2, none⟩ = some (.int .i64 sC) ∧ Hid (Below w.heap.size w w')) wx))
        case first =>
          by_cases hsC : sC = 0
          · subst hsC
            have hfd := field_c sN sD 0
            have A5 : Hid (Ans 10 sN sD n2 d2 n1 d1 0 w) := A4.out rfl
            have hbd := build_f n1 d1
            refine wp_region_held_drew (S := (fun w' => w'.cell? ⟨A, 0, none⟩ = some (.int .i64 n1) ∧ w'.cell? ⟨A, 1, none⟩ = some (.int .i64 d1) ∧ w'.cell? ⟨A + 1, 0, none⟩ = some (.int .i64 n2) ∧ w'.cell? ⟨A + 1, 1, none⟩ = some (.int .i64 d2) ∧ w'.cell? ⟨S, 0, none⟩ = some (.int .i64 sN) ∧ w'.cell? ⟨S, 1, none⟩ = some (.int .i64 sD) ∧ w'.cell? ⟨S, 2, none⟩ = some (.int .i64 0) ∧ Hid (Below w.heap.size w w'))) (by kernel_rfl) (keep7 (Below.refl _ _).drew HS.out) (fun hHeld => ?_)
            refine take_do (i := 0) (v := .agg #[.int .i64 n1, .int .i64 d1]) rfl (by kernel_rfl) (by kernel_rfl) (by kernel_rfl) (fun _ _ _ h => h) (by rfl) ?_ (by assumption) ?_
            · intro w hSw
              go_simp
            simp only [Act.put, List.setIfInBounds_toArray, List.set_cons_zero, List.set_cons_succ]
            refine take_do (i := 1) (v := .agg #[.int .i64 n2, .int .i64 d2]) rfl (by kernel_rfl) (by kernel_rfl) (by kernel_rfl) (fun _ _ _ h => h) (by rfl) ?_ (by assumption) ?_
            · intro w hSw
              go_simp
            simp only [Act.put, List.setIfInBounds_toArray, List.set_cons_zero, List.set_cons_succ]
            refine take_call (i := 2) rfl (by kernel_rfl) (fun K hK => ?_)
            go_simp
            refine (A3.out _ (hid7 (by assumption))).mono ?_
            rintro e w' ⟨rfl, hb⟩
            go_wp2_with fail
            refine hK.out _ _ (keep7 hb hHeld) (fun hHeld2 => ?_)
            clear hK hHeld hb
            have hHeld := hHeld2
            clear hHeld2
            refine take_do (i := 3) (v := .int .i64 0) rfl (by kernel_rfl) (by kernel_rfl) (by kernel_rfl) (fun _ _ _ h => h) (by rfl) ?_ (by assumption) ?_
            · intro w hSw
              go_simp
            simp only [Act.put, List.setIfInBounds_toArray, List.set_cons_zero, List.set_cons_succ]
            refine take_do (i := 4) (v := .bool true) rfl (by kernel_rfl) (by kernel_rfl) (by kernel_rfl) (fun _ _ _ h => h) (by rfl) ?_ (by assumption) ?_
            · intro w hSw
              go_simp
            simp only [Act.put, List.setIfInBounds_toArray, List.set_cons_zero, List.set_cons_succ]
            refine take_do (i := 5) (v := .bool true) rfl (by kernel_rfl) (by kernel_rfl) (by kernel_rfl) (fun _ _ _ h => h) (by rfl) ?_ (by assumption) ?_
            · intro w hSw
              go_simp
            simp only [Act.put, List.setIfInBounds_toArray, List.set_cons_zero, List.set_cons_succ]
            refine take_do (i := 6) (v := .pointer (some ⟨S, 0, none⟩)) rfl (by kernel_rfl) (by kernel_rfl) (by kernel_rfl) (fun _ _ _ h => h) (by rfl) ?_ (by assumption) ?_
            · intro w hSw
              go_simp
            simp only [Act.put, List.setIfInBounds_toArray, List.set_cons_zero, List.set_cons_succ]
            refine take_do (i := 7) (v := .agg #[.int .i64 sN, .int .i64 sD]) rfl (by kernel_rfl) (by kernel_rfl) (by kernel_rfl) (fun _ _ _ h => h) (by rfl) ?_ (by assumption) ?_
            · intro w hSw
              go_simp
            simp only [Act.put, List.setIfInBounds_toArray, List.set_cons_zero, List.set_cons_succ]
            refine take_do (i := 8) (v := .agg #[.int .i64 n2, .int .i64 d2]) rfl (by kernel_rfl) (by kernel_rfl) (by kernel_rfl) (fun _ _ _ h => h) (by rfl) ?_ (by assumption) ?_
            · intro w hSw
              go_simp
            simp only [Act.put, List.setIfInBounds_toArray, List.set_cons_zero, List.set_cons_succ]
            refine take_do (i := 10) (v := .agg #[.int .i64 n1, .int .i64 d1]) rfl (by kernel_rfl) (by kernel_rfl) (by kernel_rfl) (fun _ _ _ h => h) (by rfl) ?_ (by assumption) ?_
            · intro w hSw
              go_simp
            simp only [Act.put, List.setIfInBounds_toArray, List.set_cons_zero, List.set_cons_succ]
            refine take_do (i := 11) (v := .agg #[.int .i64 n1, .int .i64 d1, .int .i64 0]) rfl (by kernel_rfl) (by kernel_rfl) (by kernel_rfl) (fun _ _ _ h => h) (by rfl) ?_ (by assumption) ?_
            · intro w hSw
              go_simp
            simp only [Act.put, List.setIfInBounds_toArray, List.set_cons_zero, List.set_cons_succ]
            refine take_call (i := 9) rfl (by kernel_rfl) (fun K hK => ?_)
            go_simp
            refine (A5.out _ (hid7 (by assumption))).mono ?_
            rintro e w' ⟨rfl, hb⟩
            go_wp2_with fail
            refine hK.out _ _ (keep7 hb hHeld) (fun hHeld2 => ?_)
            clear hK hHeld hb
            have hHeld := hHeld2
            clear hHeld2
            refine take_do (i := 12) (v := .bool false) rfl (by kernel_rfl) (by kernel_rfl) (by kernel_rfl) (fun _ _ _ h => h) (by rfl) ?_ (by assumption) ?_
            · intro w hSw
              go_simp
            simp only [Act.put, List.setIfInBounds_toArray, List.set_cons_zero, List.set_cons_succ]
            refine take_do (i := 13) (v := .bool false) rfl (by kernel_rfl) (by kernel_rfl) (by kernel_rfl) (fun _ _ _ h => h) (by rfl) ?_ (by assumption) ?_
            · intro w hSw
              go_simp
            simp only [Act.put, List.setIfInBounds_toArray, List.set_cons_zero, List.set_cons_succ]
            refine wpAnyH_done (by kernel_rfl) ?_ _
            go_wp2_with fail
            go_meet
            exact ⟨rfl, hHeld⟩
          · have hfd := field_c sN sD sC
            have hsC2 : (sC == 0) = false := by simp [hsC]
            refine wp_region_held_drew (S := (fun w' => w'.cell? ⟨A, 0, none⟩ = some (.int .i64 n1) ∧ w'.cell? ⟨A, 1, none⟩ = some (.int .i64 d1) ∧ w'.cell? ⟨A + 1, 0, none⟩ = some (.int .i64 n2) ∧ w'.cell? ⟨A + 1, 1, none⟩ = some (.int .i64 d2) ∧ w'.cell? ⟨S, 0, none⟩ = some (.int .i64 sN) ∧ w'.cell? ⟨S, 1, none⟩ = some (.int .i64 sD) ∧ w'.cell? ⟨S, 2, none⟩ = some (.int .i64 sC) ∧ Hid (Below w.heap.size w w'))) (by kernel_rfl) (keep7 (Below.refl _ _).drew HS.out) (fun hHeld => ?_)
            refine take_do (i := 0) (v := .agg #[.int .i64 n1, .int .i64 d1]) rfl (by kernel_rfl) (by kernel_rfl) (by kernel_rfl) (fun _ _ _ h => h) (by rfl) ?_ (by assumption) ?_
            · intro w hSw
              go_simp
            simp only [Act.put, List.setIfInBounds_toArray, List.set_cons_zero, List.set_cons_succ]
            refine take_do (i := 1) (v := .agg #[.int .i64 n2, .int .i64 d2]) rfl (by kernel_rfl) (by kernel_rfl) (by kernel_rfl) (fun _ _ _ h => h) (by rfl) ?_ (by assumption) ?_
            · intro w hSw
              go_simp
            simp only [Act.put, List.setIfInBounds_toArray, List.set_cons_zero, List.set_cons_succ]
            refine take_call (i := 2) rfl (by kernel_rfl) (fun K hK => ?_)
            go_simp
            refine (A3.out _ (hid7 (by assumption))).mono ?_
            rintro e w' ⟨rfl, hb⟩
            go_wp2_with fail
            refine hK.out _ _ (keep7 hb hHeld) (fun hHeld2 => ?_)
            clear hK hHeld hb
            have hHeld := hHeld2
            clear hHeld2
            refine take_do (i := 3) (v := .int .i64 sC) rfl (by kernel_rfl) (by kernel_rfl) (by kernel_rfl) (fun _ _ _ h => h) (by rfl) ?_ (by assumption) ?_
            · intro w hSw
              go_simp
            simp only [Act.put, List.setIfInBounds_toArray, List.set_cons_zero, List.set_cons_succ]
            refine take_do (i := 4) (v := .bool false) rfl (by kernel_rfl) (by kernel_rfl) (by kernel_rfl) (fun _ _ _ h => h) (by rfl) ?_ (by assumption) ?_
            · intro w hSw
              go_simp
            simp only [Act.put, List.setIfInBounds_toArray, List.set_cons_zero, List.set_cons_succ]
            refine take_do (i := 5) (v := .bool false) rfl (by kernel_rfl) (by kernel_rfl) (by kernel_rfl) (fun _ _ _ h => h) (by rfl) ?_ (by assumption) ?_
            · intro w hSw
              go_simp
            simp only [Act.put, List.setIfInBounds_toArray, List.set_cons_zero, List.set_cons_succ]
            refine take_skip (i := 6) rfl (by kernel_rfl) (by kernel_rfl) (by kernel_rfl) (fun _ _ _ h => h) (by rfl) (by assumption) ?_
            simp only [Act.put, List.setIfInBounds_toArray, List.set_cons_zero, List.set_cons_succ]
            refine take_skip (i := 7) rfl (by kernel_rfl) (by kernel_rfl) (by kernel_rfl) (fun _ _ _ h => h) (by rfl) (by assumption) ?_
            simp only [Act.put, List.setIfInBounds_toArray, List.set_cons_zero, List.set_cons_succ]
            refine take_skip (i := 8) rfl (by kernel_rfl) (by kernel_rfl) (by kernel_rfl) (fun _ _ _ h => h) (by rfl) (by assumption) ?_
            simp only [Act.put, List.setIfInBounds_toArray, List.set_cons_zero, List.set_cons_succ]
            refine take_skip (i := 9) rfl (by kernel_rfl) (by kernel_rfl) (by kernel_rfl) (fun _ _ _ h => h) (by rfl) (by assumption) ?_
            simp only [Act.put, List.setIfInBounds_toArray, List.set_cons_zero, List.set_cons_succ]
            refine take_skip (i := 10) rfl (by kernel_rfl) (by kernel_rfl) (by kernel_rfl) (fun _ _ _ h => h) (by rfl) (by assumption) ?_
            simp only [Act.put, List.setIfInBounds_toArray, List.set_cons_zero, List.set_cons_succ]
            refine take_skip (i := 11) rfl (by kernel_rfl) (by kernel_rfl) (by kernel_rfl) (fun _ _ _ h => h) (by rfl) (by assumption) ?_
            simp only [Act.put, List.setIfInBounds_toArray, List.set_cons_zero, List.set_cons_succ]
            refine take_skip (i := 12) rfl (by kernel_rfl) (by kernel_rfl) (by kernel_rfl) (fun _ _ _ h => h) (by rfl) (by assumption) ?_
            simp only [Act.put, List.setIfInBounds_toArray, List.set_cons_zero, List.set_cons_succ]
            refine take_do (i := 13) (v := .bool false) rfl (by kernel_rfl) (by kernel_rfl) (by kernel_rfl) (fun _ _ _ h => h) (by rfl) ?_ (by assumption) ?_
            · intro w hSw
              go_simp
            simp only [Act.put, List.setIfInBounds_toArray, List.set_cons_zero, List.set_cons_succ]
            refine wpAnyH_done (by kernel_rfl) ?_ _
            go_wp2_with fail
            go_meet
            exact ⟨rfl, hHeld⟩
        case rest =>
          obtain ⟨rfl, HT⟩ := hcut
          clear HS
          obtain ⟨c5, c6, c7, c8, _, _, _, HB⟩ := HT.out
          clear HT
          go_wp2_with fail
          refine (E1.out _ HB).mono ?_
          rintro e w6 ⟨rfl, hb6⟩
          have HS : Hid ((fun w' => w'.cell? ⟨A, 0, none⟩ = some (.int .i64 n1) ∧ w'.cell? ⟨A, 1, none⟩ = some (.int .i64 d1) ∧ w'.cell? ⟨A + 1, 0, none⟩ = some (.int .i64 n2) ∧ w'.cell? ⟨A + 1, 1, none⟩ = some (.int .i64 d2) ∧ w'.cell? ⟨w6.heap.size, 0, none⟩ = some (.int .i64 eN) ∧ w'.cell? ⟨w6.heap.size, 1, none⟩ = some (.int .i64 eD) ∧ w'.cell? ⟨w6.heap.size, 2, none⟩ = some (.int .i64 eC) ∧ Hid (Below w.heap.size w w')) (w6.alloc (.cells #[.int .i64 eN, .int .i64 eD, .int .i64 eC] 29))) := keep_new HB c5 c6 c7 c8 hb6
          clear HB c5 c6 c7 c8 hb6
          go_wp2_with fail
          generalize w6.alloc (.cells #[.int .i64 eN, .int .i64 eD, .int .i64 eC] 29) = w7 at *
          generalize w6.heap.size = D at *
          go_cut [73] (fun s wx => s = .bool false ∧ Hid ((fun w' => w'.cell? ⟨A, 0, none⟩ = some (.int .i64 n1) ∧ w'.cell? ⟨A, 1, none⟩ = some (.int .i64 d1) ∧ w'.cell? ⟨A + 1, 0, none⟩ = some (.int .i64 n2) ∧ w'.cell? ⟨A + 1, 1, none⟩ = some (.int .i64 d2) ∧ w'.cell? ⟨D, 0, none⟩ = some (.int .i64 eN) ∧ w'.cell? ⟨D, 1, none⟩ = some (.int .i64 eD) ∧ w'.cell? ⟨D, 2, none⟩ = some (.int .i64 eC) ∧ Hid (Below w.heap.size w w')) wx))
          case first =>
            by_cases hsC : eC = 0
            · subst hsC
              have hfd := field_c eN eD 0
              have hsg := E4.out rfl
              by_cases hc0 : 0 < c
              · have he0 : 0 < eN := by simpa [hc0] using hsg
                clear hsg
                refine wp_region_held_drew (S := (fun w' => w'.cell? ⟨A, 0, none⟩ = some (.int .i64 n1) ∧ w'.cell? ⟨A, 1, none⟩ = some (.int .i64 d1) ∧ w'.cell? ⟨A + 1, 0, none⟩ = some (.int .i64 n2) ∧ w'.cell? ⟨A + 1, 1, none⟩ = some (.int .i64 d2) ∧ w'.cell? ⟨D, 0, none⟩ = some (.int .i64 eN) ∧ w'.cell? ⟨D, 1, none⟩ = some (.int .i64 eD) ∧ w'.cell? ⟨D, 2, none⟩ = some (.int .i64 0) ∧ Hid (Below w.heap.size w w'))) (by kernel_rfl) (keep7 (Below.refl _ _).drew HS.out) (fun hHeld => ?_)
                refine take_do (i := 0) (v := .agg #[.int .i64 n1, .int .i64 d1]) rfl (by kernel_rfl) (by kernel_rfl) (by kernel_rfl) (fun _ _ _ h => h) (by rfl) ?_ (by assumption) ?_
                · intro w hSw
                  go_simp
                simp only [Act.put, List.setIfInBounds_toArray, List.set_cons_zero, List.set_cons_succ]
                refine take_do (i := 1) (v := .agg #[.int .i64 n2, .int .i64 d2]) rfl (by kernel_rfl) (by kernel_rfl) (by kernel_rfl) (fun _ _ _ h => h) (by rfl) ?_ (by assumption) ?_
                · intro w hSw
                  go_simp
                simp only [Act.put, List.setIfInBounds_toArray, List.set_cons_zero, List.set_cons_succ]
                refine take_call (i := 2) rfl (by kernel_rfl) (fun K hK => ?_)
                go_simp
                refine (E2.out _ (hid7 (by assumption))).mono ?_
                rintro e w' ⟨rfl, hb⟩
                go_wp2_with fail
                refine hK.out _ _ (keep7 hb hHeld) (fun hHeld2 => ?_)
                clear hK hHeld hb
                have hHeld := hHeld2
                clear hHeld2
                refine take_do (i := 3) (v := .int .i64 0) rfl (by kernel_rfl) (by kernel_rfl) (by kernel_rfl) (fun _ _ _ h => h) (by rfl) ?_ (by assumption) ?_
                · intro w hSw
                  go_simp
                simp only [Act.put, List.setIfInBounds_toArray, List.set_cons_zero, List.set_cons_succ]
                refine take_do (i := 4) (v := .bool true) rfl (by kernel_rfl) (by kernel_rfl) (by kernel_rfl) (fun _ _ _ h => h) (by rfl) ?_ (by assumption) ?_
                · intro w hSw
                  go_simp
                simp only [Act.put, List.setIfInBounds_toArray, List.set_cons_zero, List.set_cons_succ]
                refine take_do (i := 5) (v := .bool true) rfl (by kernel_rfl) (by kernel_rfl) (by kernel_rfl) (fun _ _ _ h => h) (by rfl) ?_ (by assumption) ?_
                · intro w hSw
                  go_simp
                simp only [Act.put, List.setIfInBounds_toArray, List.set_cons_zero, List.set_cons_succ]
                refine take_do (i := 6) (v := .pointer (some ⟨D, 0, none⟩)) rfl (by kernel_rfl) (by kernel_rfl) (by kernel_rfl) (fun _ _ _ h => h) (by rfl) ?_ (by assumption) ?_
                · intro w hSw
                  go_simp
                simp only [Act.put, List.setIfInBounds_toArray, List.set_cons_zero, List.set_cons_succ]
                refine take_do (i := 7) (v := .pointer (some ⟨D, 0, none⟩)) rfl (by kernel_rfl) (by kernel_rfl) (by kernel_rfl) (fun _ _ _ h => h) (by rfl) ?_ (by assumption) ?_
                · intro w hSw
                  go_simp
                simp only [Act.put, List.setIfInBounds_toArray, List.set_cons_zero, List.set_cons_succ]
                refine take_do (i := 8) (v := .int .i64 eN) rfl (by kernel_rfl) (by kernel_rfl) (by kernel_rfl) (fun _ _ _ h => h) (by rfl) ?_ (by assumption) ?_
                · intro w hSw
                  go_simp
                simp only [Act.put, List.setIfInBounds_toArray, List.set_cons_zero, List.set_cons_succ]
                refine take_do (i := 9) (v := .bool true) rfl (by kernel_rfl) (by kernel_rfl) (by kernel_rfl) (fun _ _ _ h => h) (by rfl) ?_ (by assumption) ?_
                · intro w hSw
                  go_simp
                simp only [Act.put, List.setIfInBounds_toArray, List.set_cons_zero, List.set_cons_succ]
                refine take_do (i := 10) (v := .agg #[.int .i64 n1, .int .i64 d1]) rfl (by kernel_rfl) (by kernel_rfl) (by kernel_rfl) (fun _ _ _ h => h) (by rfl) ?_ (by assumption) ?_
                · intro w hSw
                  go_simp
                simp only [Act.put, List.setIfInBounds_toArray, List.set_cons_zero, List.set_cons_succ]
                refine take_do (i := 11) (v := .agg #[.int .i64 n2, .int .i64 d2]) rfl (by kernel_rfl) (by kernel_rfl) (by kernel_rfl) (fun _ _ _ h => h) (by rfl) ?_ (by assumption) ?_
                · intro w hSw
                  go_simp
                simp only [Act.put, List.setIfInBounds_toArray, List.set_cons_zero, List.set_cons_succ]
                refine take_call (i := 12) rfl (by kernel_rfl) (fun K hK => ?_)
                go_simp
                refine (E3.out _ (hid7 (by assumption))).mono ?_
                rintro e w' ⟨rfl, hb⟩
                go_wp2_with fail
                refine hK.out _ _ (keep7 hb hHeld) (fun hHeld2 => ?_)
                clear hK hHeld hb
                have hHeld := hHeld2
                clear hHeld2
                refine take_do (i := 13) (v := .bool true) rfl (by kernel_rfl) (by kernel_rfl) (by kernel_rfl) (fun _ _ _ h => h) (by rfl) ?_ (by assumption) ?_
                · intro w hSw
                  go_simp
                simp only [Act.put, List.setIfInBounds_toArray, List.set_cons_zero, List.set_cons_succ]
                refine take_do (i := 14) (v := .bool false) rfl (by kernel_rfl) (by kernel_rfl) (by kernel_rfl) (fun _ _ _ h => h) (by rfl) ?_ (by assumption) ?_
                · intro w hSw
                  go_simp
                simp only [Act.put, List.setIfInBounds_toArray, List.set_cons_zero, List.set_cons_succ]
                refine take_do (i := 15) (v := .bool false) rfl (by kernel_rfl) (by kernel_rfl) (by kernel_rfl) (fun _ _ _ h => h) (by rfl) ?_ (by assumption) ?_
                · intro w hSw
                  go_simp
                simp only [Act.put, List.setIfInBounds_toArray, List.set_cons_zero, List.set_cons_succ]
                refine wpAnyH_done (by kernel_rfl) ?_ _
                go_wp2_with fail
                go_meet
                exact ⟨rfl, hHeld⟩
              · have he0 : ¬ 0 < eN := by simpa [hc0] using hsg
                clear hsg
                refine wp_region_held_drew (S := (fun w' => w'.cell? ⟨A, 0, none⟩ = some (.int .i64 n1) ∧ w'.cell? ⟨A, 1, none⟩ = some (.int .i64 d1) ∧ w'.cell? ⟨A + 1, 0, none⟩ = some (.int .i64 n2) ∧ w'.cell? ⟨A + 1, 1, none⟩ = some (.int .i64 d2) ∧ w'.cell? ⟨D, 0, none⟩ = some (.int .i64 eN) ∧ w'.cell? ⟨D, 1, none⟩ = some (.int .i64 eD) ∧ w'.cell? ⟨D, 2, none⟩ = some (.int .i64 0) ∧ Hid (Below w.heap.size w w'))) (by kernel_rfl) (keep7 (Below.refl _ _).drew HS.out) (fun hHeld => ?_)
                refine take_do (i := 0) (v := .agg #[.int .i64 n1, .int .i64 d1]) rfl (by kernel_rfl) (by kernel_rfl) (by kernel_rfl) (fun _ _ _ h => h) (by rfl) ?_ (by assumption) ?_
                · intro w hSw
                  go_simp
                simp only [Act.put, List.setIfInBounds_toArray, List.set_cons_zero, List.set_cons_succ]
                refine take_do (i := 1) (v := .agg #[.int .i64 n2, .int .i64 d2]) rfl (by kernel_rfl) (by kernel_rfl) (by kernel_rfl) (fun _ _ _ h => h) (by rfl) ?_ (by assumption) ?_
                · intro w hSw
                  go_simp
                simp only [Act.put, List.setIfInBounds_toArray, List.set_cons_zero, List.set_cons_succ]
                refine take_call (i := 2) rfl (by kernel_rfl) (fun K hK => ?_)
                go_simp
                refine (E2.out _ (hid7 (by assumption))).mono ?_
                rintro e w' ⟨rfl, hb⟩
                go_wp2_with fail
                refine hK.out _ _ (keep7 hb hHeld) (fun hHeld2 => ?_)
                clear hK hHeld hb
                have hHeld := hHeld2
                clear hHeld2
                refine take_do (i := 3) (v := .int .i64 0) rfl (by kernel_rfl) (by kernel_rfl) (by kernel_rfl) (fun _ _ _ h => h) (by rfl) ?_ (by assumption) ?_
                · intro w hSw
                  go_simp
                simp only [Act.put, List.setIfInBounds_toArray, List.set_cons_zero, List.set_cons_succ]
                refine take_do (i := 4) (v := .bool true) rfl (by kernel_rfl) (by kernel_rfl) (by kernel_rfl) (fun _ _ _ h => h) (by rfl) ?_ (by assumption) ?_
                · intro w hSw
                  go_simp
                simp only [Act.put, List.setIfInBounds_toArray, List.set_cons_zero, List.set_cons_succ]
                refine take_do (i := 5) (v := .bool true) rfl (by kernel_rfl) (by kernel_rfl) (by kernel_rfl) (fun _ _ _ h => h) (by rfl) ?_ (by assumption) ?_
                · intro w hSw
                  go_simp
                simp only [Act.put, List.setIfInBounds_toArray, List.set_cons_zero, List.set_cons_succ]
                refine take_do (i := 6) (v := .pointer (some ⟨D, 0, none⟩)) rfl (by kernel_rfl) (by kernel_rfl) (by kernel_rfl) (fun _ _ _ h => h) (by rfl) ?_ (by assumption) ?_
                · intro w hSw
                  go_simp
                simp only [Act.put, List.setIfInBounds_toArray, List.set_cons_zero, List.set_cons_succ]
                refine take_do (i := 7) (v := .pointer (some ⟨D, 0, none⟩)) rfl (by kernel_rfl) (by kernel_rfl) (by kernel_rfl) (fun _ _ _ h => h) (by rfl) ?_ (by assumption) ?_
                · intro w hSw
                  go_simp
                simp only [Act.put, List.setIfInBounds_toArray, List.set_cons_zero, List.set_cons_succ]
                refine take_do (i := 8) (v := .int .i64 eN) rfl (by kernel_rfl) (by kernel_rfl) (by kernel_rfl) (fun _ _ _ h => h) (by rfl) ?_ (by assumption) ?_
                · intro w hSw
                  go_simp
                simp only [Act.put, List.setIfInBounds_toArray, List.set_cons_zero, List.set_cons_succ]
                refine take_do (i := 9) (v := .bool false) rfl (by kernel_rfl) (by kernel_rfl) (by kernel_rfl) (fun _ _ _ h => h) (by rfl) ?_ (by assumption) ?_
                · intro w hSw
                  go_simp
                simp only [Act.put, List.setIfInBounds_toArray, List.set_cons_zero, List.set_cons_succ]
                refine take_do (i := 10) (v := .agg #[.int .i64 n1, .int .i64 d1]) rfl (by kernel_rfl) (by kernel_rfl) (by kernel_rfl) (fun _ _ _ h => h) (by rfl) ?_ (by assumption) ?_
                · intro w hSw
                  go_simp
                simp only [Act.put, List.setIfInBounds_toArray, List.set_cons_zero, List.set_cons_succ]
                refine take_do (i := 11) (v := .agg #[.int .i64 n2, .int .i64 d2]) rfl (by kernel_rfl) (by kernel_rfl) (by kernel_rfl) (fun _ _ _ h => h) (by rfl) ?_ (by assumption) ?_
                · intro w hSw
                  go_simp
                simp only [Act.put, List.setIfInBounds_toArray, List.set_cons_zero, List.set_cons_succ]
                refine take_call (i := 12) rfl (by kernel_rfl) (fun K hK => ?_)
                go_simp
                refine (E3.out _ (hid7 (by assumption))).mono ?_
                rintro e w' ⟨rfl, hb⟩
                go_wp2_with fail
                refine hK.out _ _ (keep7 hb hHeld) (fun hHeld2 => ?_)
                clear hK hHeld hb
                have hHeld := hHeld2
                clear hHeld2
                refine take_do (i := 13) (v := .bool false) rfl (by kernel_rfl) (by kernel_rfl) (by kernel_rfl) (fun _ _ _ h => h) (by rfl) ?_ (by assumption) ?_
                · intro w hSw
                  go_simp
                simp only [Act.put, List.setIfInBounds_toArray, List.set_cons_zero, List.set_cons_succ]
                refine take_do (i := 14) (v := .bool false) rfl (by kernel_rfl) (by kernel_rfl) (by kernel_rfl) (fun _ _ _ h => h) (by rfl) ?_ (by assumption) ?_
                · intro w hSw
                  go_simp
                simp only [Act.put, List.setIfInBounds_toArray, List.set_cons_zero, List.set_cons_succ]
                refine take_do (i := 15) (v := .bool false) rfl (by kernel_rfl) (by kernel_rfl) (by kernel_rfl) (fun _ _ _ h => h) (by rfl) ?_ (by assumption) ?_
                · intro w hSw
                  go_simp
                simp only [Act.put, List.setIfInBounds_toArray, List.set_cons_zero, List.set_cons_succ]
                refine wpAnyH_done (by kernel_rfl) ?_ _
                go_wp2_with fail
                go_meet
                exact ⟨rfl, hHeld⟩
            · have hfd := field_c eN eD eC
              have hsC2 : (eC == 0) = false := by simp [hsC]
              refine wp_region_held_drew (S := (fun w' => w'.cell? ⟨A, 0, none⟩ = some (.int .i64 n1) ∧ w'.cell? ⟨A, 1, none⟩ = some (.int .i64 d1) ∧ w'.cell? ⟨A + 1, 0, none⟩ = some (.int .i64 n2) ∧ w'.cell? ⟨A + 1, 1, none⟩ = some (.int .i64 d2) ∧ w'.cell? ⟨D, 0, none⟩ = some (.int .i64 eN) ∧ w'.cell? ⟨D, 1, none⟩ = some (.int .i64 eD) ∧ w'.cell? ⟨D, 2, none⟩ = some (.int .i64 eC) ∧ Hid (Below w.heap.size w w'))) (by kernel_rfl) (keep7 (Below.refl _ _).drew HS.out) (fun hHeld => ?_)
              refine take_do (i := 0) (v := .agg #[.int .i64 n1, .int .i64 d1]) rfl (by kernel_rfl) (by kernel_rfl) (by kernel_rfl) (fun _ _ _ h => h) (by rfl) ?_ (by assumption) ?_
              · intro w hSw
                go_simp
              simp only [Act.put, List.setIfInBounds_toArray, List.set_cons_zero, List.set_cons_succ]
              refine take_do (i := 1) (v := .agg #[.int .i64 n2, .int .i64 d2]) rfl (by kernel_rfl) (by kernel_rfl) (by kernel_rfl) (fun _ _ _ h => h) (by rfl) ?_ (by assumption) ?_
              · intro w hSw
                go_simp
              simp only [Act.put, List.setIfInBounds_toArray, List.set_cons_zero, List.set_cons_succ]
              refine take_call (i := 2) rfl (by kernel_rfl) (fun K hK => ?_)
              go_simp
              refine (E2.out _ (hid7 (by assumption))).mono ?_
              rintro e w' ⟨rfl, hb⟩
              go_wp2_with fail
              refine hK.out _ _ (keep7 hb hHeld) (fun hHeld2 => ?_)
              clear hK hHeld hb
              have hHeld := hHeld2
              clear hHeld2
              refine take_do (i := 3) (v := .int .i64 eC) rfl (by kernel_rfl) (by kernel_rfl) (by kernel_rfl) (fun _ _ _ h => h) (by rfl) ?_ (by assumption) ?_
              · intro w hSw
                go_simp
              simp only [Act.put, List.setIfInBounds_toArray, List.set_cons_zero, List.set_cons_succ]
              refine take_do (i := 4) (v := .bool false) rfl (by kernel_rfl) (by kernel_rfl) (by kernel_rfl) (fun _ _ _ h => h) (by rfl) ?_ (by assumption) ?_
              · intro w hSw
                go_simp
              simp only [Act.put, List.setIfInBounds_toArray, List.set_cons_zero, List.set_cons_succ]
              refine take_do (i := 5) (v := .bool false) rfl (by kernel_rfl) (by kernel_rfl) (by kernel_rfl) (fun _ _ _ h => h) (by rfl) ?_ (by assumption) ?_
              · intro w hSw
                go_simp
              simp only [Act.put, List.setIfInBounds_toArray, List.set_cons_zero, List.set_cons_succ]
              refine take_skip (i := 6) rfl (by kernel_rfl) (by kernel_rfl) (by kernel_rfl) (fun _ _ _ h => h) (by rfl) (by assumption) ?_
              simp only [Act.put, List.setIfInBounds_toArray, List.set_cons_zero, List.set_cons_succ]
              refine take_skip (i := 7) rfl (by kernel_rfl) (by kernel_rfl) (by kernel_rfl) (fun _ _ _ h => h) (by rfl) (by assumption) ?_
              simp only [Act.put, List.setIfInBounds_toArray, List.set_cons_zero, List.set_cons_succ]
              refine take_skip (i := 8) rfl (by kernel_rfl) (by kernel_rfl) (by kernel_rfl) (fun _ _ _ h => h) (by rfl) (by assumption) ?_
              simp only [Act.put, List.setIfInBounds_toArray, List.set_cons_zero, List.set_cons_succ]
              refine take_skip (i := 9) rfl (by kernel_rfl) (by kernel_rfl) (by kernel_rfl) (fun _ _ _ h => h) (by rfl) (by assumption) ?_
              simp only [Act.put, List.setIfInBounds_toArray, List.set_cons_zero, List.set_cons_succ]
              refine take_skip (i := 10) rfl (by kernel_rfl) (by kernel_rfl) (by kernel_rfl) (fun _ _ _ h => h) (by rfl) (by assumption) ?_
              simp only [Act.put, List.setIfInBounds_toArray, List.set_cons_zero, List.set_cons_succ]
              refine take_skip (i := 11) rfl (by kernel_rfl) (by kernel_rfl) (by kernel_rfl) (fun _ _ _ h => h) (by rfl) (by assumption) ?_
              simp only [Act.put, List.setIfInBounds_toArray, List.set_cons_zero, List.set_cons_succ]
              refine take_skip (i := 12) rfl (by kernel_rfl) (by kernel_rfl) (by kernel_rfl) (fun _ _ _ h => h) (by rfl) (by assumption) ?_
              simp only [Act.put, List.setIfInBounds_toArray, List.set_cons_zero, List.set_cons_succ]
              refine take_skip (i := 13) rfl (by kernel_rfl) (by kernel_rfl) (by kernel_rfl) (fun _ _ _ h => h) (by rfl) (by assumption) ?_
              simp only [Act.put, List.setIfInBounds_toArray, List.set_cons_zero, List.set_cons_succ]
              refine take_skip (i := 14) rfl (by kernel_rfl) (by kernel_rfl) (by kernel_rfl) (fun _ _ _ h => h) (by rfl) (by assumption) ?_
              simp only [Act.put, List.setIfInBounds_toArray, List.set_cons_zero, List.set_cons_succ]
              refine take_do (i := 15) (v := .bool false) rfl (by kernel_rfl) (by kernel_rfl) (by kernel_rfl) (fun _ _ _ h => h) (by rfl) ?_ (by assumption) ?_
              · intro w hSw
                go_simp
              simp only [Act.put, List.setIfInBounds_toArray, List.set_cons_zero, List.set_cons_succ]
              refine wpAnyH_done (by kernel_rfl) ?_ _
              go_wp2_with fail
              go_meet
              exact ⟨rfl, hHeld⟩
          case rest =>
            obtain ⟨rfl, HT⟩ := hcut
            clear HS
            obtain ⟨c5, c6, c7, c8, _, _, _, HB⟩ := HT.out
            clear HT
            go_wp2_with fail
            refine (P1.out _ HB).mono ?_
            rintro e w8 ⟨rfl, hb6⟩
            have HS : Hid ((fun w' => w'.cell? ⟨A, 0, none⟩ = some (.int .i64 n1) ∧ w'.cell? ⟨A, 1, none⟩ = some (.int .i64 d1) ∧ w'.cell? ⟨A + 1, 0, none⟩ = some (.int .i64 n2) ∧ w'.cell? ⟨A + 1, 1, none⟩ = some (.int .i64 d2) ∧ w'.cell? ⟨w8.heap.size, 0, none⟩ = some (.int .i64 pN) ∧ w'.cell? ⟨w8.heap.size, 1, none⟩ = some (.int .i64 pD) ∧ w'.cell? ⟨w8.heap.size, 2, none⟩ = some (.int .i64 pC) ∧ Hid (Below w.heap.size w w')) (w8.alloc (.cells #[.int .i64 pN, .int .i64 pD, .int .i64 pC] 29))) := keep_new HB c5 c6 c7 c8 hb6
            clear HB c5 c6 c7 c8 hb6
            go_wp2_with fail
            generalize w8.alloc (.cells #[.int .i64 pN, .int .i64 pD, .int .i64 pC] 29) = w9 at *
            generalize w8.heap.size = P at *
            go_cut [95] (fun s wx => s = .bool false ∧ Hid ((fun w' => w'.cell? ⟨A, 0, none⟩ = some (.int .i64 n1) ∧ w'.cell? ⟨A, 1, none⟩ = some (.int .i64 d1) ∧ w'.cell? ⟨A + 1, 0, none⟩ = some (.int .i64 n2) ∧ w'.cell? ⟨A + 1, 1, none⟩ = some (.int .i64 d2) ∧ w'.cell? ⟨P, 0, none⟩ = some (.int .i64 pN) ∧ w'.cell? ⟨P, 1, none⟩ = some (.int .i64 pD) ∧ w'.cell? ⟨P, 2, none⟩ = some (.int .i64 pC) ∧ Hid (Below w.heap.size w w')) wx))
            case first =>
              by_cases hsC : pC = 0
              · subst hsC
                have hfd := field_c pN pD 0
                have hbd := build_f n1 d1
                by_cases hn0 : n2 = 0
                · subst hn0
                  refine wp_region_held_drew (S := (fun w' => w'.cell? ⟨A, 0, none⟩ = some (.int .i64 n1) ∧ w'.cell? ⟨A, 1, none⟩ = some (.int .i64 d1) ∧ w'.cell? ⟨A + 1, 0, none⟩ = some (.int .i64 0) ∧ w'.cell? ⟨A + 1, 1, none⟩ = some (.int .i64 d2) ∧ w'.cell? ⟨P, 0, none⟩ = some (.int .i64 pN) ∧ w'.cell? ⟨P, 1, none⟩ = some (.int .i64 pD) ∧ w'.cell? ⟨P, 2, none⟩ = some (.int .i64 0) ∧ Hid (Below w.heap.size w w'))) (by kernel_rfl) (keep7 (Below.refl _ _).drew HS.out) (fun hHeld => ?_)
                  refine take_do (i := 0) (v := .agg #[.int .i64 n1, .int .i64 d1]) rfl (by kernel_rfl) (by kernel_rfl) (by kernel_rfl) (fun _ _ _ h => h) (by rfl) ?_ (by assumption) ?_
                  · intro w hSw
                    go_simp
                  simp only [Act.put, List.setIfInBounds_toArray, List.set_cons_zero, List.set_cons_succ]
                  refine take_do (i := 1) (v := .agg #[.int .i64 0, .int .i64 d2]) rfl (by kernel_rfl) (by kernel_rfl) (by kernel_rfl) (fun _ _ _ h => h) (by rfl) ?_ (by assumption) ?_
                  · intro w hSw
                    go_simp
                  simp only [Act.put, List.setIfInBounds_toArray, List.set_cons_zero, List.set_cons_succ]
                  refine take_call (i := 2) rfl (by kernel_rfl) (fun K hK => ?_)
                  go_simp
                  refine (P3.out _ (hid7 (by assumption))).mono ?_
                  rintro e w' ⟨rfl, hb⟩
                  go_wp2_with fail
                  refine hK.out _ _ (keep7 hb hHeld) (fun hHeld2 => ?_)
                  clear hK hHeld hb
                  have hHeld := hHeld2
                  clear hHeld2
                  refine take_do (i := 3) (v := .int .i64 0) rfl (by kernel_rfl) (by kernel_rfl) (by kernel_rfl) (fun _ _ _ h => h) (by rfl) ?_ (by assumption) ?_
                  · intro w hSw
                    go_simp
                  simp only [Act.put, List.setIfInBounds_toArray, List.set_cons_zero, List.set_cons_succ]
                  refine take_do (i := 4) (v := .bool true) rfl (by kernel_rfl) (by kernel_rfl) (by kernel_rfl) (fun _ _ _ h => h) (by rfl) ?_ (by assumption) ?_
                  · intro w hSw
                    go_simp
                  simp only [Act.put, List.setIfInBounds_toArray, List.set_cons_zero, List.set_cons_succ]
                  refine take_do (i := 5) (v := .bool true) rfl (by kernel_rfl) (by kernel_rfl) (by kernel_rfl) (fun _ _ _ h => h) (by rfl) ?_ (by assumption) ?_
                  · intro w hSw
                    go_simp
                  simp only [Act.put, List.setIfInBounds_toArray, List.set_cons_zero, List.set_cons_succ]
                  refine take_do (i := 6) (v := .pointer (some ⟨A + 1, 0, none⟩)) rfl (by kernel_rfl) (by kernel_rfl) (by kernel_rfl) (fun _ _ _ h => h) (by rfl) ?_ (by assumption) ?_
                  · intro w hSw
                    go_simp
                  simp only [Act.put, List.setIfInBounds_toArray, List.set_cons_zero, List.set_cons_succ]
                  refine take_do (i := 7) (v := .int .i64 0) rfl (by kernel_rfl) (by kernel_rfl) (by kernel_rfl) (fun _ _ _ h => h) (by rfl) ?_ (by assumption) ?_
                  · intro w hSw
                    go_simp
                  simp only [Act.put, List.setIfInBounds_toArray, List.set_cons_zero, List.set_cons_succ]
                  refine take_do (i := 8) (v := .bool false) rfl (by kernel_rfl) (by kernel_rfl) (by kernel_rfl) (fun _ _ _ h => h) (by rfl) ?_ (by assumption) ?_
                  · intro w hSw
                    go_simp
                  simp only [Act.put, List.setIfInBounds_toArray, List.set_cons_zero, List.set_cons_succ]
                  refine take_do (i := 9) (v := .bool false) rfl (by kernel_rfl) (by kernel_rfl) (by kernel_rfl) (fun _ _ _ h => h) (by rfl) ?_ (by assumption) ?_
                  · intro w hSw
                    go_simp
                  simp only [Act.put, List.setIfInBounds_toArray, List.set_cons_zero, List.set_cons_succ]
                  refine take_do (i := 10) (v := .bool false) rfl (by kernel_rfl) (by kernel_rfl) (by kernel_rfl) (fun _ _ _ h => h) (by rfl) ?_ (by assumption) ?_
                  · intro w hSw
                    go_simp
                  simp only [Act.put, List.setIfInBounds_toArray, List.set_cons_zero, List.set_cons_succ]
                  refine take_skip (i := 11) rfl (by kernel_rfl) (by kernel_rfl) (by kernel_rfl) (fun _ _ _ h => h) (by rfl) (by assumption) ?_
                  simp only [Act.put, List.setIfInBounds_toArray, List.set_cons_zero, List.set_cons_succ]
                  refine take_skip (i := 12) rfl (by kernel_rfl) (by kernel_rfl) (by kernel_rfl) (fun _ _ _ h => h) (by rfl) (by assumption) ?_
                  simp only [Act.put, List.setIfInBounds_toArray, List.set_cons_zero, List.set_cons_succ]
                  refine take_skip (i := 13) rfl (by kernel_rfl) (by kernel_rfl) (by kernel_rfl) (fun _ _ _ h => h) (by rfl) (by assumption) ?_
                  simp only [Act.put, List.setIfInBounds_toArray, List.set_cons_zero, List.set_cons_succ]
                  refine take_skip (i := 14) rfl (by kernel_rfl) (by kernel_rfl) (by kernel_rfl) (fun _ _ _ h => h) (by rfl) (by assumption) ?_
                  simp only [Act.put, List.setIfInBounds_toArray, List.set_cons_zero, List.set_cons_succ]
                  refine take_skip (i := 15) rfl (by kernel_rfl) (by kernel_rfl) (by kernel_rfl) (fun _ _ _ h => h) (by rfl) (by assumption) ?_
                  simp only [Act.put, List.setIfInBounds_toArray, List.set_cons_zero, List.set_cons_succ]
                  refine take_skip (i := 16) rfl (by kernel_rfl) (by kernel_rfl) (by kernel_rfl) (fun _ _ _ h => h) (by rfl) (by assumption) ?_
                  simp only [Act.put, List.setIfInBounds_toArray, List.set_cons_zero, List.set_cons_succ]
                  refine take_skip (i := 17) rfl (by kernel_rfl) (by kernel_rfl) (by kernel_rfl) (fun _ _ _ h => h) (by rfl) (by assumption) ?_
                  simp only [Act.put, List.setIfInBounds_toArray, List.set_cons_zero, List.set_cons_succ]
                  refine take_do (i := 18) (v := .bool false) rfl (by kernel_rfl) (by kernel_rfl) (by kernel_rfl) (fun _ _ _ h => h) (by rfl) ?_ (by assumption) ?_
                  · intro w hSw
                    go_simp
                  simp only [Act.put, List.setIfInBounds_toArray, List.set_cons_zero, List.set_cons_succ]
                  refine wpAnyH_done (by kernel_rfl) ?_ _
                  go_wp2_with fail
                  go_meet
                  exact ⟨rfl, hHeld⟩
                · have hn2 : (n2 != 0) = true := by simp [hn0]
                  have P5 : Hid (Ans 14 pN pD n2 d2 n1 d1 0 w) := P4.out rfl hn0
                  refine wp_region_held_drew (S := (fun w' => w'.cell? ⟨A, 0, none⟩ = some (.int .i64 n1) ∧ w'.cell? ⟨A, 1, none⟩ = some (.int .i64 d1) ∧ w'.cell? ⟨A + 1, 0, none⟩ = some (.int .i64 n2) ∧ w'.cell? ⟨A + 1, 1, none⟩ = some (.int .i64 d2) ∧ w'.cell? ⟨P, 0, none⟩ = some (.int .i64 pN) ∧ w'.cell? ⟨P, 1, none⟩ = some (.int .i64 pD) ∧ w'.cell? ⟨P, 2, none⟩ = some (.int .i64 0) ∧ Hid (Below w.heap.size w w'))) (by kernel_rfl) (keep7 (Below.refl _ _).drew HS.out) (fun hHeld => ?_)
                  refine take_do (i := 0) (v := .agg #[.int .i64 n1, .int .i64 d1]) rfl (by kernel_rfl) (by kernel_rfl) (by kernel_rfl) (fun _ _ _ h => h) (by rfl) ?_ (by assumption) ?_
                  · intro w hSw
                    go_simp
                  simp only [Act.put, List.setIfInBounds_toArray, List.set_cons_zero, List.set_cons_succ]
                  refine take_do (i := 1) (v := .agg #[.int .i64 n2, .int .i64 d2]) rfl (by kernel_rfl) (by kernel_rfl) (by kernel_rfl) (fun _ _ _ h => h) (by rfl) ?_ (by assumption) ?_
                  · intro w hSw
                    go_simp
                  simp only [Act.put, List.setIfInBounds_toArray, List.set_cons_zero, List.set_cons_succ]
                  refine take_call (i := 2) rfl (by kernel_rfl) (fun K hK => ?_)
                  go_simp
                  refine (P3.out _ (hid7 (by assumption))).mono ?_
                  rintro e w' ⟨rfl, hb⟩
                  go_wp2_with fail
                  refine hK.out _ _ (keep7 hb hHeld) (fun hHeld2 => ?_)
                  clear hK hHeld hb
                  have hHeld := hHeld2
                  clear hHeld2
                  refine take_do (i := 3) (v := .int .i64 0) rfl (by kernel_rfl) (by kernel_rfl) (by kernel_rfl) (fun _ _ _ h => h) (by rfl) ?_ (by assumption) ?_
                  · intro w hSw
                    go_simp
                  simp only [Act.put, List.setIfInBounds_toArray, List.set_cons_zero, List.set_cons_succ]
                  refine take_do (i := 4) (v := .bool true) rfl (by kernel_rfl) (by kernel_rfl) (by kernel_rfl) (fun _ _ _ h => h) (by rfl) ?_ (by assumption) ?_
                  · intro w hSw
                    go_simp
                  simp only [Act.put, List.setIfInBounds_toArray, List.set_cons_zero, List.set_cons_succ]
                  refine take_do (i := 5) (v := .bool true) rfl (by kernel_rfl) (by kernel_rfl) (by kernel_rfl) (fun _ _ _ h => h) (by rfl) ?_ (by assumption) ?_
                  · intro w hSw
                    go_simp
                  simp only [Act.put, List.setIfInBounds_toArray, List.set_cons_zero, List.set_cons_succ]
                  refine take_do (i := 6) (v := .pointer (some ⟨A + 1, 0, none⟩)) rfl (by kernel_rfl) (by kernel_rfl) (by kernel_rfl) (fun _ _ _ h => h) (by rfl) ?_ (by assumption) ?_
                  · intro w hSw
                    go_simp
                  simp only [Act.put, List.setIfInBounds_toArray, List.set_cons_zero, List.set_cons_succ]
                  refine take_do (i := 7) (v := .int .i64 n2) rfl (by kernel_rfl) (by kernel_rfl) (by kernel_rfl) (fun _ _ _ h => h) (by rfl) ?_ (by assumption) ?_
                  · intro w hSw
                    go_simp
                  simp only [Act.put, List.setIfInBounds_toArray, List.set_cons_zero, List.set_cons_succ]
                  refine take_do (i := 8) (v := .bool true) rfl (by kernel_rfl) (by kernel_rfl) (by kernel_rfl) (fun _ _ _ h => h) (by rfl) ?_ (by assumption) ?_
                  · intro w hSw
                    go_simp
                  simp only [Act.put, List.setIfInBounds_toArray, List.set_cons_zero, List.set_cons_succ]
                  refine take_do (i := 9) (v := .bool true) rfl (by kernel_rfl) (by kernel_rfl) (by kernel_rfl) (fun _ _ _ h => h) (by rfl) ?_ (by assumption) ?_
                  · intro w hSw
                    go_simp
                  simp only [Act.put, List.setIfInBounds_toArray, List.set_cons_zero, List.set_cons_succ]
                  refine take_do (i := 10) (v := .bool true) rfl (by kernel_rfl) (by kernel_rfl) (by kernel_rfl) (fun _ _ _ h => h) (by rfl) ?_ (by assumption) ?_
                  · intro w hSw
                    go_simp
                  simp only [Act.put, List.setIfInBounds_toArray, List.set_cons_zero, List.set_cons_succ]
                  refine take_do (i := 11) (v := .pointer (some ⟨P, 0, none⟩)) rfl (by kernel_rfl) (by kernel_rfl) (by kernel_rfl) (fun _ _ _ h => h) (by rfl) ?_ (by assumption) ?_
                  · intro w hSw
                    go_simp
                  simp only [Act.put, List.setIfInBounds_toArray, List.set_cons_zero, List.set_cons_succ]
                  refine take_do (i := 12) (v := .agg #[.int .i64 pN, .int .i64 pD]) rfl (by kernel_rfl) (by kernel_rfl) (by kernel_rfl) (fun _ _ _ h => h) (by rfl) ?_ (by assumption) ?_
                  · intro w hSw
                    go_simp
                  simp only [Act.put, List.setIfInBounds_toArray, List.set_cons_zero, List.set_cons_succ]
                  refine take_do (i := 13) (v := .agg #[.int .i64 n2, .int .i64 d2]) rfl (by kernel_rfl) (by kernel_rfl) (by kernel_rfl) (fun _ _ _ h => h) (by rfl) ?_ (by assumption) ?_
                  · intro w hSw
                    go_simp
                  simp only [Act.put, List.setIfInBounds_toArray, List.set_cons_zero, List.set_cons_succ]
                  refine take_do (i := 15) (v := .agg #[.int .i64 n1, .int .i64 d1]) rfl (by kernel_rfl) (by kernel_rfl) (by kernel_rfl) (fun _ _ _ h => h) (by rfl) ?_ (by assumption) ?_
                  · intro w hSw
                    go_simp
                  simp only [Act.put, List.setIfInBounds_toArray, List.set_cons_zero, List.set_cons_succ]
                  refine take_do (i := 16) (v := .agg #[.int .i64 n1, .int .i64 d1, .int .i64 0]) rfl (by kernel_rfl) (by kernel_rfl) (by kernel_rfl) (fun _ _ _ h => h) (by rfl) ?_ (by assumption) ?_
                  · intro w hSw
                    go_simp
                  simp only [Act.put, List.setIfInBounds_toArray, List.set_cons_zero, List.set_cons_succ]
                  refine take_call (i := 14) rfl (by kernel_rfl) (fun K hK => ?_)
                  go_simp
                  refine (P5.out _ (hid7 (by assumption))).mono ?_
                  rintro e w' ⟨rfl, hb⟩
                  go_wp2_with fail
                  refine hK.out _ _ (keep7 hb hHeld) (fun hHeld2 => ?_)
                  clear hK hHeld hb
                  have hHeld := hHeld2
                  clear hHeld2
                  refine take_do (i := 17) (v := .bool false) rfl (by kernel_rfl) (by kernel_rfl) (by kernel_rfl) (fun _ _ _ h => h) (by rfl) ?_ (by assumption) ?_
                  · intro w hSw
                    go_simp
                  simp only [Act.put, List.setIfInBounds_toArray, List.set_cons_zero, List.set_cons_succ]
                  refine take_do (i := 18) (v := .bool false) rfl (by kernel_rfl) (by kernel_rfl) (by kernel_rfl) (fun _ _ _ h => h) (by rfl) ?_ (by assumption) ?_
                  · intro w hSw
                    go_simp
                  simp only [Act.put, List.setIfInBounds_toArray, List.set_cons_zero, List.set_cons_succ]
                  refine wpAnyH_done (by kernel_rfl) ?_ _
                  go_wp2_with fail
                  go_meet
                  exact ⟨rfl, hHeld⟩
              · have hfd := field_c pN pD pC
                have hsC2 : (pC == 0) = false := by simp [hsC]
                refine wp_region_held_drew (S := (fun w' => w'.cell? ⟨A, 0, none⟩ = some (.int .i64 n1) ∧ w'.cell? ⟨A, 1, none⟩ = some (.int .i64 d1) ∧ w'.cell? ⟨A + 1, 0, none⟩ = some (.int .i64 n2) ∧ w'.cell? ⟨A + 1, 1, none⟩ = some (.int .i64 d2) ∧ w'.cell? ⟨P, 0, none⟩ = some (.int .i64 pN) ∧ w'.cell? ⟨P, 1, none⟩ = some (.int .i64 pD) ∧ w'.cell? ⟨P, 2, none⟩ = some (.int .i64 pC) ∧ Hid (Below w.heap.size w w'))) (by kernel_rfl) (keep7 (Below.refl _ _).drew HS.out) (fun hHeld => ?_)
                refine take_do (i := 0) (v := .agg #[.int .i64 n1, .int .i64 d1]) rfl (by kernel_rfl) (by kernel_rfl) (by kernel_rfl) (fun _ _ _ h => h) (by rfl) ?_ (by assumption) ?_
                · intro w hSw
                  go_simp
                simp only [Act.put, List.setIfInBounds_toArray, List.set_cons_zero, List.set_cons_succ]
                refine take_do (i := 1) (v := .agg #[.int .i64 n2, .int .i64 d2]) rfl (by kernel_rfl) (by kernel_rfl) (by kernel_rfl) (fun _ _ _ h => h) (by rfl) ?_ (by assumption) ?_
                · intro w hSw
                  go_simp
                simp only [Act.put, List.setIfInBounds_toArray, List.set_cons_zero, List.set_cons_succ]
                refine take_call (i := 2) rfl (by kernel_rfl) (fun K hK => ?_)
                go_simp
                refine (P3.out _ (hid7 (by assumption))).mono ?_
                rintro e w' ⟨rfl, hb⟩
                go_wp2_with fail
                refine hK.out _ _ (keep7 hb hHeld) (fun hHeld2 => ?_)
                clear hK hHeld hb
                have hHeld := hHeld2
                clear hHeld2
                refine take_do (i := 3) (v := .int .i64 pC) rfl (by kernel_rfl) (by kernel_rfl) (by kernel_rfl) (fun _ _ _ h => h) (by rfl) ?_ (by assumption) ?_
                · intro w hSw
                  go_simp
                simp only [Act.put, List.setIfInBounds_toArray, List.set_cons_zero, List.set_cons_succ]
                refine take_do (i := 4) (v := .bool false) rfl (by kernel_rfl) (by kernel_rfl) (by kernel_rfl) (fun _ _ _ h => h) (by rfl) ?_ (by assumption) ?_
                · intro w hSw
                  go_simp
                simp only [Act.put, List.setIfInBounds_toArray, List.set_cons_zero, List.set_cons_succ]
                refine take_do (i := 5) (v := .bool false) rfl (by kernel_rfl) (by kernel_rfl) (by kernel_rfl) (fun _ _ _ h => h) (by rfl) ?_ (by assumption) ?_
                · intro w hSw
                  go_simp
                simp only [Act.put, List.setIfInBounds_toArray, List.set_cons_zero, List.set_cons_succ]
                refine take_skip (i := 6) rfl (by kernel_rfl) (by kernel_rfl) (by kernel_rfl) (fun _ _ _ h => h) (by rfl) (by assumption) ?_
                simp only [Act.put, List.setIfInBounds_toArray, List.set_cons_zero, List.set_cons_succ]
                refine take_skip (i := 7) rfl (by kernel_rfl) (by kernel_rfl) (by kernel_rfl) (fun _ _ _ h => h) (by rfl) (by assumption) ?_
                simp only [Act.put, List.setIfInBounds_toArray, List.set_cons_zero, List.set_cons_succ]
                refine take_skip (i := 8) rfl (by kernel_rfl) (by kernel_rfl) (by kernel_rfl) (fun _ _ _ h => h) (by rfl) (by assumption) ?_
                simp only [Act.put, List.setIfInBounds_toArray, List.set_cons_zero, List.set_cons_succ]
                refine take_do (i := 9) (v := .bool false) rfl (by kernel_rfl) (by kernel_rfl) (by kernel_rfl) (fun _ _ _ h => h) (by rfl) ?_ (by assumption) ?_
                · intro w hSw
                  go_simp
                simp only [Act.put, List.setIfInBounds_toArray, List.set_cons_zero, List.set_cons_succ]
                refine take_do (i := 10) (v := .bool false) rfl (by kernel_rfl) (by kernel_rfl) (by kernel_rfl) (fun _ _ _ h => h) (by rfl) ?_ (by assumption) ?_
                · intro w hSw
                  go_simp
                simp only [Act.put, List.setIfInBounds_toArray, List.set_cons_zero, List.set_cons_succ]
                refine take_skip (i := 11) rfl (by kernel_rfl) (by kernel_rfl) (by kernel_rfl) (fun _ _ _ h => h) (by rfl) (by assumption) ?_
                simp only [Act.put, List.setIfInBounds_toArray, List.set_cons_zero, List.set_cons_succ]
                refine take_skip (i := 12) rfl (by kernel_rfl) (by kernel_rfl) (by kernel_rfl) (fun _ _ _ h => h) (by rfl) (by assumption) ?_
                simp only [Act.put, List.setIfInBounds_toArray, List.set_cons_zero, List.set_cons_succ]
                refine take_skip (i := 13) rfl (by kernel_rfl) (by kernel_rfl) (by kernel_rfl) (fun _ _ _ h => h) (by rfl) (by assumption) ?_
                simp only [Act.put, List.setIfInBounds_toArray, List.set_cons_zero, List.set_cons_succ]
                refine take_skip (i := 14) rfl (by kernel_rfl) (by kernel_rfl) (by kernel_rfl) (fun _ _ _ h => h) (by rfl) (by assumption) ?_
                simp only [Act.put, List.setIfInBounds_toArray, List.set_cons_zero, List.set_cons_succ]
                refine take_skip (i := 15) rfl (by kernel_rfl) (by kernel_rfl) (by kernel_rfl) (fun _ _ _ h => h) (by rfl) (by assumption) ?_
                simp only [Act.put, List.setIfInBounds_toArray, List.set_cons_zero, List.set_cons_succ]
                refine take_skip (i := 16) rfl (by kernel_rfl) (by kernel_rfl) (by kernel_rfl) (fun _ _ _ h => h) (by rfl) (by assumption) ?_
                simp only [Act.put, List.setIfInBounds_toArray, List.set_cons_zero, List.set_cons_succ]
                refine take_skip (i := 17) rfl (by kernel_rfl) (by kernel_rfl) (by kernel_rfl) (fun _ _ _ h => h) (by rfl) (by assumption) ?_
                simp only [Act.put, List.setIfInBounds_toArray, List.set_cons_zero, List.set_cons_succ]
                refine take_do (i := 18) (v := .bool false) rfl (by kernel_rfl) (by kernel_rfl) (by kernel_rfl) (fun _ _ _ h => h) (by rfl) ?_ (by assumption) ?_
                · intro w hSw
                  go_simp
                simp only [Act.put, List.setIfInBounds_toArray, List.set_cons_zero, List.set_cons_succ]
                refine wpAnyH_done (by kernel_rfl) ?_ _
                go_wp2_with fail
                go_meet
                exact ⟨rfl, hHeld⟩
            case rest =>
              obtain ⟨rfl, HT⟩ := hcut
              clear HS
              have HS := HT
              clear HT
              go_wp2_with fail
              refine wp_region_held_drew (S := (fun w' => w'.cell? ⟨A, 0, none⟩ = some (.int .i64 n1) ∧ w'.cell? ⟨A, 1, none⟩ = some (.int .i64 d1) ∧ w'.cell? ⟨A + 1, 0, none⟩ = some (.int .i64 n2) ∧ w'.cell? ⟨A + 1, 1, none⟩ = some (.int .i64 d2) ∧ w'.cell? ⟨P, 0, none⟩ = some (.int .i64 pN) ∧ w'.cell? ⟨P, 1, none⟩ = some (.int .i64 pD) ∧ w'.cell? ⟨P, 2, none⟩ = some (.int .i64 pC) ∧ Hid (Below w.heap.size w w'))) (by kernel_rfl) (keep7 (Below.refl _ _).drew HS.out) (fun hHeld => ?_)
              refine take_do (i := 0) (v := .agg #[.int .i64 n1, .int .i64 d1]) rfl (by kernel_rfl) (by kernel_rfl) (by kernel_rfl) (fun _ _ _ h => h) (by rfl) ?_ (by assumption) ?_
              · intro w hSw
                go_simp
              simp only [Act.put, List.setIfInBounds_toArray, List.set_cons_zero, List.set_cons_succ]
              refine take_do (i := 1) (v := .agg #[.int .i64 n1, .int .i64 d1]) rfl (by kernel_rfl) (by kernel_rfl) (by kernel_rfl) (fun _ _ _ h => h) (by rfl) ?_ (by assumption) ?_
              · intro w hSw
                go_simp
              simp only [Act.put, List.setIfInBounds_toArray, List.set_cons_zero, List.set_cons_succ]
              refine take_call (i := 2) rfl (by kernel_rfl) (fun K hK => ?_)
              go_simp
              refine (C1.out _ (hid7 (by assumption))).mono ?_
              rintro e w' ⟨rfl, hb⟩
              go_wp2_with fail
              refine hK.out _ _ (keep7 hb hHeld) (fun hHeld2 => ?_)
              clear hK hHeld hb
              have hHeld := hHeld2
              clear hHeld2
              refine take_do (i := 3) (v := .bool true) rfl (by kernel_rfl) (by kernel_rfl) (by kernel_rfl) (fun _ _ _ h => h) (by rfl) ?_ (by assumption) ?_
              · intro w hSw
                go_simp
              simp only [Act.put, List.setIfInBounds_toArray, List.set_cons_zero, List.set_cons_succ]
              refine take_do (i := 4) (v := .bool true) rfl (by kernel_rfl) (by kernel_rfl) (by kernel_rfl) (fun _ _ _ h => h) (by rfl) ?_ (by assumption) ?_
              · intro w hSw
                go_simp
              simp only [Act.put, List.setIfInBounds_toArray, List.set_cons_zero, List.set_cons_succ]
              refine take_do (i := 5) (v := .agg #[.int .i64 n1, .int .i64 d1]) rfl (by kernel_rfl) (by kernel_rfl) (by kernel_rfl) (fun _ _ _ h => h) (by rfl) ?_ (by assumption) ?_
              · intro w hSw
                go_simp
              simp only [Act.put, List.setIfInBounds_toArray, List.set_cons_zero, List.set_cons_succ]
              refine take_do (i := 6) (v := .agg #[.int .i64 n2, .int .i64 d2]) rfl (by kernel_rfl) (by kernel_rfl) (by kernel_rfl) (fun _ _ _ h => h) (by rfl) ?_ (by assumption) ?_
              · intro w hSw
                go_simp
              simp only [Act.put, List.setIfInBounds_toArray, List.set_cons_zero, List.set_cons_succ]
              refine take_do (i := 8) (v := .agg #[.int .i64 n2, .int .i64 d2]) rfl (by kernel_rfl) (by kernel_rfl) (by kernel_rfl) (fun _ _ _ h => h) (by rfl) ?_ (by assumption) ?_
              · intro w hSw
                go_simp
              simp only [Act.put, List.setIfInBounds_toArray, List.set_cons_zero, List.set_cons_succ]
              refine take_do (i := 9) (v := .agg #[.int .i64 n1, .int .i64 d1]) rfl (by kernel_rfl) (by kernel_rfl) (by kernel_rfl) (fun _ _ _ h => h) (by rfl) ?_ (by assumption) ?_
              · intro w hSw
                go_simp
              simp only [Act.put, List.setIfInBounds_toArray, List.set_cons_zero, List.set_cons_succ]
              refine take_call (i := 7) rfl (by kernel_rfl) (fun K hK => ?_)
              go_simp
              refine (E3.out _ (hid7 (by assumption))).mono ?_
              rintro e w' ⟨rfl, hb⟩
              go_wp2_with fail
              refine hK.out _ _ (keep7 hb hHeld) (fun hHeld2 => ?_)
              clear hK hHeld hb
              have hHeld := hHeld2
              clear hHeld2
              refine take_call (i := 10) rfl (by kernel_rfl) (fun K hK => ?_)
              go_simp
              refine (C2.out _ (hid7 (by assumption))).mono ?_
              rintro e w' ⟨rfl, hb⟩
              go_wp2_with fail
              refine hK.out _ _ (keep7 hb hHeld) (fun hHeld2 => ?_)
              clear hK hHeld hb
              have hHeld := hHeld2
              clear hHeld2
              refine take_do (i := 11) (v := .int .i64 c) rfl (by kernel_rfl) (by kernel_rfl) (by kernel_rfl) (fun _ _ _ h => h) (by rfl) ?_ (by assumption) ?_
              · intro w hSw
                go_simp
              simp only [Act.put, List.setIfInBounds_toArray, List.set_cons_zero, List.set_cons_succ]
              refine take_do (i := 12) (v := .bool true) rfl (by kernel_rfl) (by kernel_rfl) (by kernel_rfl) (fun _ _ _ h => h) (by rfl) ?_ (by assumption) ?_
              · intro w hSw
                go_simp
              simp only [Act.put, List.setIfInBounds_toArray, List.set_cons_zero, List.set_cons_succ]
              refine take_do (i := 13) (v := .bool true) rfl (by kernel_rfl) (by kernel_rfl) (by kernel_rfl) (fun _ _ _ h => h) (by rfl) ?_ (by assumption) ?_
              · intro w hSw
                go_simp
              simp only [Act.put, List.setIfInBounds_toArray, List.set_cons_zero, List.set_cons_succ]
              refine take_call (i := 14) rfl (by kernel_rfl) (fun K hK => ?_)
              go_simp
              refine hK.out _ _ hHeld (fun hHeld2 => ?_)
              clear hK hHeld
              refine wpAnyH_done (by kernel_rfl) ?_ _
              have HB := hid7 hHeld2
              clear hHeld2
              go_wp2_with fail
              go_ret
              exact ⟨rfl, HB.out⟩
end Go.Proofs.YtemmmhkjjcmcmaaDoor
