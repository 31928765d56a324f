/-
  The model's FirstOut.
-/
import Derived.Test.YtnfdamkjkclnmaaAlP0
import Derived.Test.YtnfdamkjkclnmaaAlS1
import Derived.Test.YtnfdamkjkclnmaaReg
import Derived.Deep.DeepCutAuto
namespace Go.Proofs.Ytnfdamkjkclnmaa
open Go.RowKit Go.Deep

set_option maxRecDepth 100000 in
set_option maxHeartbeats 4000000 in
theorem alAll_any (a : Option Addr) (m cap : Nat) (f : Nat → Int) (w : World) (h : IsAt a m f w) (hm : m ≤ 1048576) :
    Calls Try.prog 35 #[.slice a m cap, .int .i64 (-1000000), .int .i64 1000000] w fun e w' => e = .returned (.bool (Mt.dB (∀ i, i < m → Al.V (f i)))) ∧ w' = w := by
  have H := Lib.hid h
  clear h
  go_enter Try.func35, Try.ntmps35
  go_wp2_with fail
  go_loopw [7] (fun iv wr => ∃ (i : Nat), i ≤ m ∧ iv = .int .i64 i ∧ Hid (wr = w) ∧ Hid (∀ j, j < i → Al.V (f j))) (fun iv _ => m - (intOf iv).toNat)
  case atStart => exact ⟨0, Nat.zero_le _, rfl, rfl, fun j hj => absurd hj (Nat.not_lt_zero _)⟩
  case round =>
    obtain ⟨i, hi, rfl, hW, hP⟩ := hrel
    obtain rfl := hW.out
    clear hW
    by_cases hlt : i < m
    · have hltz : (i : Int) < (m : Int) := by omega
      obtain ⟨b, e, c0⟩ := H.out.at1 hlt
      subst e
      by_cases c1 : f i < -1000000
      · have HE := Lib.hid (Mt.dB_ff (show ¬ ∀ i, i < m → Al.V (f i) from fun k => by have := (k i hlt).1; omega))
        go_wp2_with fail
        go_ret
        exact ⟨by rw [HE.out]; rfl, rfl⟩
      by_cases c2 : 1000000 < f i
      · have HE := Lib.hid (Mt.dB_ff (show ¬ ∀ i, i < m → Al.V (f i) from fun k => by have := (k i hlt).2; omega))
        go_wp2_with fail
        go_ret
        exact ⟨by rw [HE.out]; rfl, rfl⟩
      have HC : Hid (Al.V (f i)) := ⟨by omega, by omega⟩
      go_wp2_with fail
      go_roundw
      case rel => exact ⟨i + 1, by omega, by go_num, by first | exact rfl | exact (trivial : True), fun j hj => by
        by_cases e : j = i
        · subst e; exact HC.out
        · exact hP.out j (by omega)⟩
      case measure => simp [intOf]; omega
    · obtain rfl : i = m := by omega
      have HE := Lib.hid (Mt.dB_tt hP.out)
      go_wp2_with fail
      go_ret
      exact ⟨by rw [HE.out]; rfl, rfl⟩
theorem panel_iff2 {Q : Nat → Int} {N : Nat} {LN : Nat → Nat} {L : Nat → Nat → Int} {M : Nat} : Al.PanelOk Q N LN L M ↔ N ≤ 20 ∧ M = N ∧ (∀ i, i < N → Al.Right (Al.al Q i)) ∧ ∀ i, i < N → VsOk (LN i) (L i) := Iff.rfl
set_option maxRecDepth 100000 in
set_option maxHeartbeats 16000000 in
theorem specFirst_any (la : Option Addr) (N lk : Nat) (Q : Nat → Int) (va : Option Addr) (M vk : Nat) (LN : Nat → Nat) (L : Nat → Nat → Int) (w : World) (h : IsAt la (N * 6) Q w) (hN : N ≤ 1048576) (hv : LsAt va M LN L w) (hM : M ≤ 1048576) (hls : ∀ i, i < M → LN i ≤ 1048576) :
    Calls Try.prog 16 #[.slice la N lk, .slice va M vk] w fun e w' => (∃ r : Int, e = .returned (.int .i64 r) ∧ Al.FoEnd Q N LN L M r) ∧ Below w.heap.size w w' := by
  have H := Lib.hid h
  have HV := Lib.hid hv
  have HL := Lib.hid hls
  clear h hv hls
  by_cases c1 : (400 : Int) < (N : Int)
  · have HE : Hid (Al.FoEnd Q N LN L M 0) := Or.inl ⟨Or.inl (by omega), rfl⟩
    go_enter Try.func16, Try.ntmps16
    go_wp2_with fail
    go_ret
    exact ⟨⟨_, rfl, HE.out⟩, Below.refl _ _⟩
  by_cases c2 : (400 : Int) < (M : Int)
  · have HE : Hid (Al.FoEnd Q N LN L M 0) := Or.inl ⟨Or.inr (by omega), rfl⟩
    go_enter Try.func16, Try.ntmps16
    go_wp2_with fail
    go_ret
    exact ⟨⟨_, rfl, HE.out⟩, Below.refl _ _⟩
  have HNO : Hid (¬ (400 < N ∨ 400 < M)) := by show ¬ _; omega
  by_cases c3 : (20 : Int) < (N : Int)
  · have HE : Hid (Al.FoEnd Q N LN L M (-1)) := Or.inr (Or.inl ⟨HNO.out, fun k => by have := k.1; omega, rfl⟩)
    go_enter Try.func16, Try.ntmps16
    go_wp2_with fail
    go_ret
    exact ⟨⟨_, rfl, HE.out⟩, Below.refl _ _⟩
  by_cases c4 : M = N
  case neg =>
    have HE : Hid (Al.FoEnd Q N LN L M (-1)) := Or.inr (Or.inl ⟨HNO.out, fun k => c4 k.2.1, rfl⟩)
    have z1 : ((M : Int) != (N : Int)) = true := by simp; omega
    clear c4
    go_enter Try.func16, Try.ntmps16
    go_wp2_with fail
    go_ret
    exact ⟨⟨_, rfl, HE.out⟩, Below.refl _ _⟩
  subst c4
  have z1 : ((M : Int) != (M : Int)) = false := by simp
  go_enter Try.func16, Try.ntmps16
  go_wp2_with fail
  go_loopw [7] (fun iv wr => ∃ (i : Nat), i ≤ M ∧ iv = .int .i64 i ∧ Hid (Below w.heap.size w wr) ∧ Hid (∀ j, j < i → Al.Right (Al.al Q j) ∧ VsOk (LN j) (L j))) (fun iv _ => M - (intOf iv).toNat)
  case atStart => exact ⟨0, Nat.zero_le _, rfl, Below.refl _ _, fun j hj => absurd hj (Nat.not_lt_zero _)⟩
  case round =>
    obtain ⟨i, hi, rfl, hB, hP⟩ := hrel
    by_cases hlt : i < M
    · have hltz : (i : Int) < (M : Int) := by omega
      obtain ⟨b, e, k0, k1, k2, k3, k4, k5⟩ := (H.out.below hB.out).at6 hlt
      subst e
      go_wp2_with fail
      clear k0 k1 k2 k3 k4 k5
      refine (sRight_any (Al.al Q i) _).mono ?_
      rintro e w1 ⟨rfl, hb⟩
      have HB1 : Hid (Below w.heap.size w w1) := hB.out.trans (hb.mono hB.out.size)
      clear hb
      by_cases c : Al.Right (Al.al Q i)
      case neg =>
        rw [decide_eq_false c]
        have HE : Hid (Al.FoEnd Q M LN L M (-1)) := Or.inr (Or.inl ⟨HNO.out, fun k => c (k.2.2.1 i hlt), rfl⟩)
        clear c
        go_wp2_with fail
        go_ret
        exact ⟨⟨_, rfl, HE.out⟩, HB1.out⟩
      rw [decide_eq_true c]
      have HA := Lib.hid c
      clear c
      obtain ⟨bv, e, ai, ci, v0, hat⟩ := (HV.out.below HB1.out).one hlt
      subst e
      obtain ⟨m, hm⟩ : ∃ m, m = LN i := ⟨_, rfl⟩
      obtain ⟨f, hf⟩ : ∃ f, f = L i := ⟨_, rfl⟩
      rw [← hm] at v0 hat
      rw [← hf] at hat
      have HAT := Lib.hid hat
      have HM := Lib.hid hm
      have HF := Lib.hid hf
      have hm8 : m ≤ 1048576 := by rw [hm]; exact HL.out i hlt
      clear hm hf hat
      by_cases c : (300 : Int) < (m : Int)
      · have HE : Hid (Al.FoEnd Q M LN L M (-1)) := Or.inr (Or.inl ⟨HNO.out, fun k => by have := (k.2.2.2 i hlt).1; have := HM.out; omega, rfl⟩)
        go_wp2_with fail
        go_ret
        exact ⟨⟨_, rfl, HE.out⟩, HB1.out⟩
      go_wp2_with fail
      clear v0
      refine (alAll_any ai m ci f _ HAT.out hm8).mono ?_
      rintro e w2 ⟨rfl, hw⟩
      rw [hw]
      clear hw w2
      by_cases cv : ∀ j, j < m → Al.V (f j)
      · rw [Mt.dB_tt cv]
        have HC : Hid (VsOk (LN i) (L i)) := by show VsOk _ _; rw [← HM.out, ← HF.out]; exact ⟨by omega, cv⟩
        clear cv
        go_wp2_with fail
        go_roundw
        case rel => exact ⟨i + 1, by omega, by go_num, HB1, fun j hj => by
          by_cases e : j = i
          · subst e; exact ⟨HA.out, HC.out⟩
          · exact hP.out j (by omega)⟩
        case measure => simp [intOf]; omega
      · rw [Mt.dB_ff cv]
        have HE : Hid (Al.FoEnd Q M LN L M (-1)) := Or.inr (Or.inl ⟨HNO.out, fun k => cv (by rw [HM.out, HF.out]; exact (k.2.2.2 i hlt).2), rfl⟩)
        clear cv
        go_wp2_with fail
        go_ret
        exact ⟨⟨_, rfl, HE.out⟩, HB1.out⟩
    · obtain rfl : i = M := by omega
      have HOK : Hid (Al.PanelOk Q i LN L i) := panel_iff2.2 ⟨by omega, rfl, fun j hj => (hP.out j hj).1, fun j hj => (hP.out j hj).2⟩
      have HB0 := Lib.hid hB.out
      have hM20 : i ≤ 20 := by omega
      clear hP hB hlt hi
      go_wp2_with fail
      go_loopw [5, 6, 8] (fun bv lv iv wr => ∃ (j : Nat) (b l : Int), j ≤ i ∧ bv = .int .i64 b ∧ lv = .int .i64 l ∧ iv = .int .i64 j ∧ Hid (Below w.heap.size w wr) ∧ Hid (Al.Up Q LN L j b l)) (fun _ _ iv _ => i - (intOf iv).toNat)
      case atStart => exact ⟨0, -1, 0, Nat.zero_le _, rfl, rfl, rfl, HB0, Al.Up.zero _ _ _ _⟩
      case round =>
        obtain ⟨j, b, l, hj, rfl, rfl, rfl, hB, hU⟩ := hrel
        clear HB0
        by_cases hlt : j < i
        · have hltz : (j : Int) < (i : Int) := by omega
          obtain ⟨ba, e, k0, k1, k2, k3, k4, k5⟩ := (H.out.below hB.out).at6 hlt
          subst e
          obtain ⟨ga, hga⟩ : ∃ g, g = wr.heap.size := ⟨_, rfl⟩
          obtain ⟨W0, hW0⟩ : ∃ W0, W0 = wr.alloc (.cells #[.int .i64 (Q (j * 6)), .int .i64 (Q (j * 6 + 1)), .int .i64 (Q (j * 6 + 2)), .int .i64 (Q (j * 6 + 3)), .int .i64 (Q (j * 6 + 4)), .int .i64 (Q (j * 6 + 5))] 25) := ⟨_, rfl⟩
          have HR0 : Hid (W0.rowIs ga 25 6 (rowN (alL (Al.tk (Al.al Q j) (L j) 0)))) := by show World.rowIs _ _ _ _ _; rw [hW0, hga]; exact rowN_alloc wr [.int .i64 (Q (j * 6)), .int .i64 (Q (j * 6 + 1)), .int .i64 (Q (j * 6 + 2)), .int .i64 (Q (j * 6 + 3)), .int .i64 (Q (j * 6 + 4)), .int .i64 (Q (j * 6 + 5))] _
          have HB0 : Hid (Below w.heap.size w W0) := by show Below _ _ _; rw [hW0]; exact hB.out.alloc hB.out.size _
          have HGA : Hid (w.heap.size ≤ ga) := by show _ ≤ _; rw [hga]; exact hB.out.size
          have HRG : Hid (Al.Right (Al.al Q j)) := HOK.out.2.2.1 j hlt
          have HVO : Hid (VsOk (LN j) (L j)) := HOK.out.2.2.2 j hlt
          have HW0 := Lib.hid hW0
          have HGG := Lib.hid hga
          clear hW0 hga hB
          go_wp2_with fail
          rw [← HGG.out, ← HW0.out]
          clear HGG HW0 k0 k1 k2 k3 k4 k5
          go_loopw [5, 6, 10] (fun bv lv kv wq => ∃ (k : Nat), k ≤ LN j ∧ bv = .int .i64 b ∧ lv = .int .i64 l ∧ kv = .int .i64 k ∧ Hid (wq.rowIs ga 25 6 (rowN (alL (Al.tk (Al.al Q j) (L j) k)))) ∧ Hid (Below w.heap.size w wq) ∧ Hid (∀ q, q < k → ¬ Al.Rai (Al.al Q j) (L j) (LN j) q)) (fun _ _ kv _ => LN j - (intOf kv).toNat)
          case atStart => exact ⟨0, Nat.zero_le _, rfl, rfl, rfl, HR0, HB0, fun q hq => absurd hq (Nat.not_lt_zero _)⟩
          case round =>
            obtain ⟨k, hk, rfl, rfl, rfl, hR, hB, hP⟩ := hrel
            clear HR0 HB0
            obtain ⟨V0, hV0⟩ : ∃ V, V = wr := ⟨_, rfl⟩
            rw [← hV0] at hR hB ⊢
            clear hV0
            obtain ⟨bl, e, ai, ci, v0, hat⟩ := (HV.out.below hB.out).one hlt
            subst e
            obtain ⟨m, hm⟩ : ∃ m, m = LN j := ⟨_, rfl⟩
            rw [← hm] at v0 hat hk
            have HM := Lib.hid hm
            have hm3 : m ≤ 300 := by rw [hm]; exact HVO.out.1
            clear hm
            by_cases hkl : k < m
            · have hklz : (k : Int) < (m : Int) := by omega
              obtain ⟨gv, e, cv⟩ := hat.at1 hkl
              subst e
              obtain ⟨v, hv⟩ : ∃ v, v = L j k := ⟨_, rfl⟩
              rw [← hv] at cv
              have HVV := Lib.hid hv
              obtain ⟨X, hX⟩ : ∃ X, X = Al.tk (Al.al Q j) (L j) k := ⟨_, rfl⟩
              rw [← hX] at hR
              have HX := Lib.hid hX
              have HRX : Hid (Al.Right X) := by show Al.Right X; rw [hX]; exact Al.tk_right HRG.out _ _
              have HAO : Hid (Al.ActOk 1 v) := ⟨⟨by omega, by omega⟩, by rw [hv]; exact HVO.out.2 k (by have := HM.out; omega)⟩
              obtain ⟨Y, hY⟩ : ∃ Y, Y = Al.act X 1 v := ⟨_, rfl⟩
              have HYA := Lib.hid hY
              have HYT : Hid (Y = Al.tk (Al.al Q j) (L j) (k + 1)) := by show Y = _; rw [hY, Al.act_yes HRX.out HAO.out, hX, hv]; rfl
              have HRai : Hid (Al.Rai (Al.al Q j) (L j) (LN j) k ↔ (¬ X.st = 2 ∧ Y.st = 2)) := by
                show _ ↔ _
                rw [HYT.out, hX]
                exact ⟨fun h => h.2, fun h => ⟨by have := HM.out; omega, h⟩⟩
              have C0 := Lib.hid v0
              have C1 := Lib.hid cv
              have HL0 : Hid (bl < V0.heap.size ∧ gv < V0.heap.size ∧ ga < V0.heap.size) := ⟨World.block_lt_of_cell? _ _ v0, World.block_lt_of_cell? _ _ cv, hR.out.lt⟩
              clear hv hX hY cv hat
              go_wp2_with fail
              clear v0
              go_cut [11] (fun q Wq => ∃ xb , q = .pointer (some ⟨xb, 0, none⟩) ∧ Hid (Below V0.heap.size V0 Wq ∧ Wq.rowIs xb 25 6 (rowN (alL Y)) ∧ V0.heap.size ≤ xb))
              case first =>
                refine wp_region_held_drew (S := fun V => Below V0.heap.size V0 V) (by kernel_rfl) (Below.refl _ _).drew (fun hHeld => ?_)
                obtain ⟨Z, hZ⟩ : ∃ Z, Z = V0.drew := ⟨_, rfl⟩
                rw [← hZ] at hHeld ⊢
                clear hZ
                refine take_do (i := 0) (v := (alV X)) rfl (by kernel_rfl) (by kernel_rfl) (by kernel_rfl) (fun _ _ _ h => h) (by rfl) ?_ (by assumption) ?_
                · intro w hSw
                  obtain ⟨⟨x0, x1, x2, x3, x4, x5⟩, _⟩ := rowN6 (nrow_below hR.out hSw)
                  go_simp
                simp only [Act.put, List.setIfInBounds_toArray, List.set_cons_zero, List.set_cons_succ]
                refine take_do (i := 1) (v := (.slice (some ⟨bl, 0, none⟩) i vk)) rfl (by kernel_rfl) (by kernel_rfl) (by kernel_rfl) (fun _ _ _ h => h) (by rfl) ?_ (by assumption) ?_
                · intro w hSw
                  go_simp
                simp only [Act.put, List.setIfInBounds_toArray, List.set_cons_zero, List.set_cons_succ]
                refine take_do (i := 2) (v := (.int .i64 j)) rfl (by kernel_rfl) (by kernel_rfl) (by kernel_rfl) (fun _ _ _ h => h) (by rfl) ?_ (by assumption) ?_
                · intro w hSw
                  go_simp
                simp only [Act.put, List.setIfInBounds_toArray, List.set_cons_zero, List.set_cons_succ]
                refine take_do (i := 3) (v := (.pointer (some ⟨bl, j, none⟩))) rfl (by kernel_rfl) (by kernel_rfl) (by kernel_rfl) (fun _ _ _ h => h) (by rfl) ?_ (by assumption) ?_
                · intro w hSw
                  go_simp
                simp only [Act.put, List.setIfInBounds_toArray, List.set_cons_zero, List.set_cons_succ]
                refine take_do (i := 4) (v := (.slice (some ⟨gv, 0, none⟩) m ci)) rfl (by kernel_rfl) (by kernel_rfl) (by kernel_rfl) (fun _ _ _ h => h) (by rfl) ?_ (by assumption) ?_
                · intro w hSw
                  have d0 := (hSw.cell (p := ⟨bl, j, none⟩) HL0.out.1).trans C0.out
                  go_simp
                simp only [Act.put, List.setIfInBounds_toArray, List.set_cons_zero, List.set_cons_succ]
                refine take_do (i := 5) (v := (.int .i64 k)) rfl (by kernel_rfl) (by kernel_rfl) (by kernel_rfl) (fun _ _ _ h => h) (by rfl) ?_ (by assumption) ?_
                · intro w hSw
                  go_simp
                simp only [Act.put, List.setIfInBounds_toArray, List.set_cons_zero, List.set_cons_succ]
                refine take_do (i := 6) (v := (.pointer (some ⟨gv, k, none⟩))) rfl (by kernel_rfl) (by kernel_rfl) (by kernel_rfl) (fun _ _ _ h => h) (by rfl) ?_ (by assumption) ?_
                · intro w hSw
                  go_simp
                simp only [Act.put, List.setIfInBounds_toArray, List.set_cons_zero, List.set_cons_succ]
                refine take_do (i := 7) (v := (.int .i64 v)) rfl (by kernel_rfl) (by kernel_rfl) (by kernel_rfl) (fun _ _ _ h => h) (by rfl) ?_ (by assumption) ?_
                · intro w hSw
                  have d1 := (hSw.cell (p := ⟨gv, k, none⟩) HL0.out.2.1).trans C1.out
                  go_simp
                simp only [Act.put, List.setIfInBounds_toArray, List.set_cons_zero, List.set_cons_succ]
                refine take_do (i := 8) (v := (.agg #[.int .i64 1, .int .i64 v])) rfl (by kernel_rfl) (by kernel_rfl) (by kernel_rfl) (fun _ _ _ h => h) (by rfl) ?_ (by assumption) ?_
                · intro w hSw
                  go_simp
                simp only [Act.put, List.setIfInBounds_toArray, List.set_cons_zero, List.set_cons_succ]
                refine wpAnyH_ready (rs := [9, 10]) (by kernel_rfl) (by simp) (AllReadyH.cons (at_drop (i := 9) rfl) (fun K2 hK => ?_) (AllReadyH.cons (at_drop (i := 10) rfl) (fun K2 hK => ?_) (AllReadyH.nil)))
                · go_simp
                  refine (specAct_any X 1 v _).mono ?_
                  rintro e Z1 ⟨rfl, hb⟩
                  rw [← HYA.out]
                  go_wp2_with fail
                  refine hK.out _ _ (hHeld.trans (hb.mono hHeld.size)) (fun hHeld2 => ?_)
                  clear hK hHeld hb
                  have hHeld := hHeld2
                  clear hHeld2
                  refine wpAnyH_ready (rs := [10]) (by kernel_rfl) (by simp) (AllReadyH.cons (at_drop (i := 10) rfl) (fun K2 hK => ?_) (AllReadyH.nil))
                  obtain ⟨Z2, hZ2⟩ : ∃ Z2, Z2 = Z1.alloc (.cells #[.int .i64 0, .int .i64 0, .int .i64 0, .int .i64 0, .int .i64 0, .int .i64 0] 25) := ⟨_, rfl⟩
                  have hb : Below Z1.heap.size Z1 Z2 := by rw [hZ2]; exact nbel_alloc _ _
                  have HV : Hid (Z2.rowIs Z1.heap.size 25 6 (rowN [.int .i64 0, .int .i64 0, .int .i64 0, .int .i64 0, .int .i64 0, .int .i64 0])) := by show World.rowIs _ _ _ _ _; rw [hZ2]; exact rowN_alloc _ _ _
                  obtain ⟨xb, hxb⟩ : ∃ xb, xb = Z1.heap.size := ⟨_, rfl⟩
                  rw [← hxb] at HV
                  have HXL : Hid (V0.heap.size ≤ xb) := by show _ ≤ _; rw [hxb]; exact hHeld.size
                  go_simp
                  rw [← hZ2, ← hxb]
                  clear hZ2
                  refine hK.out _ _ (hHeld.trans (hb.mono hHeld.size)) (fun hHeld2 => ?_)
                  clear hK hHeld hxb hb
                  have hHeld := hHeld2
                  clear hHeld2
                  have zr := al6put HV.out rfl (.int .i64 Y.hi) (.int .i64 Y.lo) (.int .i64 Y.dl) (.int .i64 Y.st) (.int .i64 Y.ct) (.int .i64 Y.sh)
                  have zk := fun (k : Nat) (hk : k ≠ xb) => al6blk (W := Z2) hk (.int .i64 Y.hi) (.int .i64 Y.lo) (.int .i64 Y.dl) (.int .i64 Y.st) (.int .i64 Y.ct) (.int .i64 Y.sh)
                  have zb := al6bel (g := xb) hHeld HXL.out (.int .i64 Y.hi) (.int .i64 Y.lo) (.int .i64 Y.dl) (.int .i64 Y.st) (.int .i64 Y.ct) (.int .i64 Y.sh)
                  obtain ⟨⟨o0, o1, o2, o3, o4, o5⟩, z0, z1, z2, z3, z4, z5⟩ := rowN6 HV.out
                  have hol := HV.out.lt
                  refine take_call (i := 11) rfl (by kernel_rfl) (fun K2 hK => ?_)
                  go_simp
                  clear o0 o1 o2 o3 o4 o5 z0 z1 z2 z3 z4 z5
                  generalize ((((((Z2).setCell ⟨xb, 0, none⟩ (.int .i64 Y.hi)).setCell ⟨xb, 1, none⟩ (.int .i64 Y.lo)).setCell ⟨xb, 2, none⟩ (.int .i64 Y.dl)).setCell ⟨xb, 3, none⟩ (.int .i64 Y.st)).setCell ⟨xb, 4, none⟩ (.int .i64 Y.ct)).setCell ⟨xb, 5, none⟩ (.int .i64 Y.sh) = Y9 at zr zk zb  ⊢
                  refine hK.out _ _ zb (fun hHeld2 => ?_)
                  clear hK hHeld hHeld2
                  refine wpAnyH_done (by kernel_rfl) ?_ _
                  have HPR : Hid (Below V0.heap.size V0 Y9 ∧ Y9.rowIs xb 25 6 (rowN (alL Y)) ∧ V0.heap.size ≤ xb) := ⟨zb, zr, HXL.out⟩
                  clear zr zk zb
                  go_wp2_with fail
                  go_meet
                  case rel => exact ⟨xb, rfl, HPR⟩
                · obtain ⟨Z1, hZ1⟩ : ∃ Z1, Z1 = Z.alloc (.cells #[.int .i64 0, .int .i64 0, .int .i64 0, .int .i64 0, .int .i64 0, .int .i64 0] 25) := ⟨_, rfl⟩
                  have hb : Below Z.heap.size Z Z1 := by rw [hZ1]; exact nbel_alloc _ _
                  have HV : Hid (Z1.rowIs Z.heap.size 25 6 (rowN [.int .i64 0, .int .i64 0, .int .i64 0, .int .i64 0, .int .i64 0, .int .i64 0])) := by show World.rowIs _ _ _ _ _; rw [hZ1]; exact rowN_alloc _ _ _
                  obtain ⟨xb, hxb⟩ : ∃ xb, xb = Z.heap.size := ⟨_, rfl⟩
                  rw [← hxb] at HV
                  have HXL : Hid (V0.heap.size ≤ xb) := by show _ ≤ _; rw [hxb]; exact hHeld.size
                  go_simp
                  rw [← hZ1, ← hxb]
                  clear hZ1
                  refine hK.out _ _ (hHeld.trans (hb.mono hHeld.size)) (fun hHeld2 => ?_)
                  clear hK hHeld hxb hb
                  have hHeld := hHeld2
                  clear hHeld2
                  refine wpAnyH_ready (rs := [9]) (by kernel_rfl) (by simp) (AllReadyH.cons (at_drop (i := 9) rfl) (fun K2 hK => ?_) (AllReadyH.nil))
                  go_simp
                  refine (specAct_any X 1 v _).mono ?_
                  rintro e Z2 ⟨rfl, hb⟩
                  rw [← HYA.out]
                  have HV2 := Lib.hid (nrow_below HV.out hb)
                  clear HV
                  have HV := HV2
                  clear HV2
                  go_wp2_with fail
                  refine hK.out _ _ (hHeld.trans (hb.mono hHeld.size)) (fun hHeld2 => ?_)
                  clear hK hHeld hb
                  have hHeld := hHeld2
                  clear hHeld2
                  have zr := al6put HV.out rfl (.int .i64 Y.hi) (.int .i64 Y.lo) (.int .i64 Y.dl) (.int .i64 Y.st) (.int .i64 Y.ct) (.int .i64 Y.sh)
                  have zk := fun (k : Nat) (hk : k ≠ xb) => al6blk (W := Z2) hk (.int .i64 Y.hi) (.int .i64 Y.lo) (.int .i64 Y.dl) (.int .i64 Y.st) (.int .i64 Y.ct) (.int .i64 Y.sh)
                  have zb := al6bel (g := xb) hHeld HXL.out (.int .i64 Y.hi) (.int .i64 Y.lo) (.int .i64 Y.dl) (.int .i64 Y.st) (.int .i64 Y.ct) (.int .i64 Y.sh)
                  obtain ⟨⟨o0, o1, o2, o3, o4, o5⟩, z0, z1, z2, z3, z4, z5⟩ := rowN6 HV.out
                  have hol := HV.out.lt
                  refine take_call (i := 11) rfl (by kernel_rfl) (fun K2 hK => ?_)
                  go_simp
                  clear o0 o1 o2 o3 o4 o5 z0 z1 z2 z3 z4 z5
                  generalize ((((((Z2).setCell ⟨xb, 0, none⟩ (.int .i64 Y.hi)).setCell ⟨xb, 1, none⟩ (.int .i64 Y.lo)).setCell ⟨xb, 2, none⟩ (.int .i64 Y.dl)).setCell ⟨xb, 3, none⟩ (.int .i64 Y.st)).setCell ⟨xb, 4, none⟩ (.int .i64 Y.ct)).setCell ⟨xb, 5, none⟩ (.int .i64 Y.sh) = Y9 at zr zk zb  ⊢
                  refine hK.out _ _ zb (fun hHeld2 => ?_)
                  clear hK hHeld hHeld2
                  refine wpAnyH_done (by kernel_rfl) ?_ _
                  have HPR : Hid (Below V0.heap.size V0 Y9 ∧ Y9.rowIs xb 25 6 (rowN (alL Y)) ∧ V0.heap.size ≤ xb) := ⟨zb, zr, HXL.out⟩
                  clear zr zk zb
                  go_wp2_with fail
                  go_meet
                  case rel => exact ⟨xb, rfl, HPR⟩
              case rest =>
                obtain ⟨xb, rfl, hPR⟩ := hcut
                obtain ⟨V, hVV⟩ : ∃ V, V = wc := ⟨_, rfl⟩
                rw [← hVV] at hPR ⊢
                clear hVV
                have HR4 := Lib.hid (nrow_below hR.out hPR.out.1)
                have HB4 : Hid (Below w.heap.size w V) := hB.out.trans (hPR.out.1.mono hB.out.size)
                have HXR := Lib.hid hPR.out.2.1
                have HXN : Hid (ga ≠ xb) := by have h1 := HL0.out.2.2; have h2 := hPR.out.2.2; show ga ≠ xb; omega
                clear hPR hR hB C0 C1 HL0
                obtain ⟨⟨x0, x1, x2, x3, x4, x5⟩, _⟩ := rowN6 HXR.out
                obtain ⟨⟨r0, r1, r2, r3, r4, r5⟩, f0, f1, f2, f3, f4, f5⟩ := rowN6 HR4.out
                have hrl := HR4.out.lt
                by_cases r : ¬ X.st = 2 ∧ Y.st = 2
                · have HRR := Lib.hid (HRai.out.2 r)
                  have y1 : (Y.st == 2) = true := by simp [r.2]
                  have y2 : (X.st != 2) = true := by simp [r.1]
                  by_cases hb1 : b = -1
                  · have y3 : (b == -1) = true := by simp [hb1]
                    have HU2 : Hid (Al.Up Q LN L (j + 1) (j : Int) (k : Int)) := hU.out.new HRR.out hP.out (Or.inl hb1)
                    clear r hb1
                    go_wp2_with fail
                    go_roundw
                    case rel => exact ⟨j + 1, _, _, by omega, rfl, rfl, by go_num, HB4, HU2⟩
                    case measure => simp [intOf]; omega
                  · have y3 : (b == -1) = false := by simpa using hb1
                    by_cases hb2 : (k : Int) < l
                    · have HU2 : Hid (Al.Up Q LN L (j + 1) (j : Int) (k : Int)) := hU.out.new HRR.out hP.out (Or.inr hb2)
                      clear r hb1
                      go_wp2_with fail
                      go_roundw
                      case rel => exact ⟨j + 1, _, _, by omega, rfl, rfl, by go_num, HB4, HU2⟩
                      case measure => simp [intOf]; omega
                    · have HU2 : Hid (Al.Up Q LN L (j + 1) b l) := hU.out.old hP.out hb1 hb2
                      clear r hb1
                      go_wp2_with fail
                      go_roundw
                      case rel => exact ⟨j + 1, _, _, by omega, rfl, rfl, by go_num, HB4, HU2⟩
                      case measure => simp [intOf]; omega
                · have HRR : Hid (¬ Al.Rai (Al.al Q j) (L j) (LN j) k) := fun h => r (HRai.out.1 h)
                  have HR5 : Hid ((((((((V).setCell ⟨ga, 0, none⟩ (.int .i64 Y.hi)).setCell ⟨ga, 1, none⟩ (.int .i64 Y.lo)).setCell ⟨ga, 2, none⟩ (.int .i64 Y.dl)).setCell ⟨ga, 3, none⟩ (.int .i64 Y.st)).setCell ⟨ga, 4, none⟩ (.int .i64 Y.ct)).setCell ⟨ga, 5, none⟩ (.int .i64 Y.sh)).rowIs ga 25 6 (rowN (alL (Al.tk (Al.al Q j) (L j) (k + 1))))) := by
                    show World.rowIs _ _ _ _ _
                    rw [← HYT.out]
                    exact al6put HR4.out rfl (.int .i64 Y.hi) (.int .i64 Y.lo) (.int .i64 Y.dl) (.int .i64 Y.st) (.int .i64 Y.ct) (.int .i64 Y.sh)
                  have HB5 : Hid (Below w.heap.size w (((((((V).setCell ⟨ga, 0, none⟩ (.int .i64 Y.hi)).setCell ⟨ga, 1, none⟩ (.int .i64 Y.lo)).setCell ⟨ga, 2, none⟩ (.int .i64 Y.dl)).setCell ⟨ga, 3, none⟩ (.int .i64 Y.st)).setCell ⟨ga, 4, none⟩ (.int .i64 Y.ct)).setCell ⟨ga, 5, none⟩ (.int .i64 Y.sh))) := al6bel (g := ga) HB4.out HGA.out (.int .i64 Y.hi) (.int .i64 Y.lo) (.int .i64 Y.dl) (.int .i64 Y.st) (.int .i64 Y.ct) (.int .i64 Y.sh)
                  have HP5 : Hid (∀ q, q < k + 1 → ¬ Al.Rai (Al.al Q j) (L j) (LN j) q) := fun q hq => by
                    by_cases e : q = k
                    · subst e; exact HRR.out
                    · exact hP.out q (by omega)
                  by_cases hy : Y.st = 2
                  · have y1 : (Y.st == 2) = true := by simp [hy]
                    have y2 : (X.st != 2) = false := by
                      by_cases q : X.st = 2
                      · simp [q]
                      · exact absurd ⟨q, hy⟩ r
                    clear r hy
                    go_wp2_with fail
                    go_roundw
                    case rel => exact ⟨k + 1, by have := HM.out; omega, rfl, rfl, by go_num, HR5, HB5, HP5⟩
                    case measure => have := HM.out; simp [intOf]; omega
                  · have y1 : (Y.st == 2) = false := by simpa using hy
                    clear r hy
                    go_wp2_with fail
                    go_roundw
                    case rel => exact ⟨k + 1, by have := HM.out; omega, rfl, rfl, by go_num, HR5, HB5, HP5⟩
                    case measure => have := HM.out; simp [intOf]; omega
            · have hklz : ¬ (k : Int) < (m : Int) := by omega
              have HU2 : Hid (Al.Up Q LN L (j + 1) b l) := hU.out.none (fun q hq => by
                by_cases e : q < k
                · exact hP.out q e hq
                · have := hq.1; have := HM.out; omega)
              clear hat
              go_wp2_with fail
              go_roundw
              case rel => exact ⟨j + 1, _, _, by omega, rfl, rfl, by go_num, hB, HU2⟩
              case measure => simp [intOf]; omega
        · obtain rfl : j = i := by omega
          have HE : Hid (Al.FoEnd Q j LN L j b) := Or.inr (Or.inr ⟨HNO.out, HOK.out, hU.out.first⟩)
          go_wp2_with fail
          go_ret
          exact ⟨⟨_, rfl, HE.out⟩, hB.out⟩
end Go.Proofs.Ytnfdamkjkclnmaa
