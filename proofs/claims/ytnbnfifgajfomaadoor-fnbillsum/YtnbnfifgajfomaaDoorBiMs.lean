/-
  The model's bills.
-/
import Derived.Test.YtnbnfifgajfomaaDoorBiB
import Derived.Test.YtnbnfifgajfomaaDoorBiTs
namespace Go.Proofs.YtnbnfifgajfomaaDoor
open Go.RowKit Go.Deep

set_option maxHeartbeats 1000000 in
theorem bmax_any (a b : Int) (w : World) : Calls Tryd.prog 40 #[.int .i64 a, .int .i64 b] w fun e w' => e = .returned (.int .i64 (max a b)) ∧ w' = w := by
  by_cases h : b < a
  · have e : max a b = a := by omega
    rw [e]
    go_enter Tryd.func40, Tryd.ntmps40
    go_wp2_with fail
    go_ret
    exact ⟨rfl, rfl⟩
  · have e : max a b = b := by omega
    rw [e]
    go_enter Tryd.func40, Tryd.ntmps40
    go_wp2_with fail
    go_ret
    exact ⟨rfl, rfl⟩
set_option maxHeartbeats 1000000 in
theorem bmin_any (a b : Int) (w : World) : Calls Tryd.prog 39 #[.int .i64 a, .int .i64 b] w fun e w' => e = .returned (.int .i64 (min a b)) ∧ w' = w := by
  by_cases h : a < b
  · have e : min a b = a := by omega
    rw [e]
    go_enter Tryd.func39, Tryd.ntmps39
    go_wp2_with fail
    go_ret
    exact ⟨rfl, rfl⟩
  · have e : min a b = b := by omega
    rw [e]
    go_enter Tryd.func39, Tryd.ntmps39
    go_wp2_with fail
    go_ret
    exact ⟨rfl, rfl⟩
set_option maxRecDepth 100000 in
set_option maxHeartbeats 8000000 in
theorem specBill_any (t : Bi.T) (a : Option Addr) (k : Nat) (d x : Int) (w : World) (h : IsAt a (t.bn * 2) t.B w) (hn : t.bn ≤ 9223372036854775807) :
    Calls Tryd.prog 9 #[tfV t a k, .int .i64 d, .int .i64 x] w fun e w' => BlEnd w.heap.size t d x e w' ∧ Below w.heap.size w w' := by
  obtain ⟨W, hW⟩ : ∃ W, W = (w.alloc (.cells #[.int .i64 t.day, .slice a t.bn k, .int .i64 t.sew, .int .i64 t.tax] 25)).alloc (.cells #[.int .i64 0, .slice none 0 0, .int .i64 0, .int .i64 0, .int .i64 0, .int .i64 0, .int .i64 0] 30) := ⟨_, rfl⟩
  have hB : Below w.heap.size w W := by rw [hW]; exact (nbel_alloc _ _).alloc (by simp) _
  have R0 : Hid (W.rowIs w.heap.size 25 4 (rowN (tfL t a k))) := by show W.rowIs _ _ _ _; rw [hW]; exact nrow_below (rowN_alloc w _ _) (nbel_alloc _ _)
  have R1 : Hid (W.rowIs (w.heap.size + 1) 30 7 (rowN blZ)) := by show W.rowIs _ _ _ _; rw [hW]; exact rowN_alloc' (by simp) _ _
  have H := Lib.hid h
  have HB := Lib.hid hB
  have HW := Lib.hid hW
  clear hW h hB
  go_enter Tryd.func9, Tryd.ntmps9
  go_wp2_with fail
  rw [← HW.out]
  clear HW
  refine (specTariff_any t a k _ (H.out.below HB.out) hn).mono ?_
  rintro e w1 ⟨rfl, hb⟩
  have B1 : Hid (Below w.heap.size w w1) := HB.out.trans (hb.mono HB.out.size)
  have R01 := Lib.hid (nrow_below R0.out hb)
  have R11 := Lib.hid (nrow_below R1.out hb)
  clear hb HB R0 R1
  obtain ⟨⟨o0, o1, o2, o3, o4, o5, o6⟩, y0, y1, y2, y3, y4, y5, y6⟩ := rowN7 R11.out
  have hl1 := R11.out.lt
  by_cases c1 : Bi.Right t
  case neg =>
    rw [Bi.dB_ff c1]
    have HN : Hid (¬ Bi.Ok t d x) := fun h => c1 h.1
    clear c1
    have Z7 := Lib.hid (bl7 R11.out (.int .i64 0) (.slice none 0 0) (.int .i64 0) (.int .i64 0) (.int .i64 0) (.int .i64 0) (.int .i64 1))
    have ZB := Lib.hid (bl7b B1.out (show w.heap.size ≤ w.heap.size + 1 by omega) (.int .i64 0) (.slice none 0 0) (.int .i64 0) (.int .i64 0) (.int .i64 0) (.int .i64 0) (.int .i64 1))
    go_wp2_with fail
    refine bodyPost_ret (v := blV Bi.bad 0 none 0) ?_ rfl ⟨Or.inl ⟨HN.out, rfl⟩, ZB.out⟩
    obtain ⟨⟨x0, x1, x2, x3, x4, x5, x6⟩, _⟩ := rowN7 Z7.out
    simp only [results, Tryd.results9]
    simp [go_sem, x0, x1, x2, x3, x4, x5, x6, Bi.bad]
  rw [Bi.dB_tt c1]
  have HC1 := Lib.hid c1
  clear c1
  by_cases k0 : d < 0
  · have HN : Hid (¬ Bi.Ok t d x) := fun h => by have := h.2.1; omega
    have Z7 := Lib.hid (bl7 R11.out (.int .i64 0) (.slice none 0 0) (.int .i64 0) (.int .i64 0) (.int .i64 0) (.int .i64 0) (.int .i64 1))
    have ZB := Lib.hid (bl7b B1.out (show w.heap.size ≤ w.heap.size + 1 by omega) (.int .i64 0) (.slice none 0 0) (.int .i64 0) (.int .i64 0) (.int .i64 0) (.int .i64 0) (.int .i64 1))
    go_wp2_with fail
    refine bodyPost_ret (v := blV Bi.bad 0 none 0) ?_ rfl ⟨Or.inl ⟨HN.out, rfl⟩, ZB.out⟩
    obtain ⟨⟨x0, x1, x2, x3, x4, x5, x6⟩, _⟩ := rowN7 Z7.out
    simp only [results, Tryd.results9]
    simp [go_sem, x0, x1, x2, x3, x4, x5, x6, Bi.bad]
  by_cases k1 : 1000 < d
  · have HN : Hid (¬ Bi.Ok t d x) := fun h => by have := h.2.1; omega
    have Z7 := Lib.hid (bl7 R11.out (.int .i64 0) (.slice none 0 0) (.int .i64 0) (.int .i64 0) (.int .i64 0) (.int .i64 0) (.int .i64 1))
    have ZB := Lib.hid (bl7b B1.out (show w.heap.size ≤ w.heap.size + 1 by omega) (.int .i64 0) (.slice none 0 0) (.int .i64 0) (.int .i64 0) (.int .i64 0) (.int .i64 0) (.int .i64 1))
    go_wp2_with fail
    refine bodyPost_ret (v := blV Bi.bad 0 none 0) ?_ rfl ⟨Or.inl ⟨HN.out, rfl⟩, ZB.out⟩
    obtain ⟨⟨x0, x1, x2, x3, x4, x5, x6⟩, _⟩ := rowN7 Z7.out
    simp only [results, Tryd.results9]
    simp [go_sem, x0, x1, x2, x3, x4, x5, x6, Bi.bad]
  by_cases k2 : x < 0
  · have HN : Hid (¬ Bi.Ok t d x) := fun h => by have := h.2.2; omega
    have Z7 := Lib.hid (bl7 R11.out (.int .i64 0) (.slice none 0 0) (.int .i64 0) (.int .i64 0) (.int .i64 0) (.int .i64 0) (.int .i64 1))
    have ZB := Lib.hid (bl7b B1.out (show w.heap.size ≤ w.heap.size + 1 by omega) (.int .i64 0) (.slice none 0 0) (.int .i64 0) (.int .i64 0) (.int .i64 0) (.int .i64 0) (.int .i64 1))
    go_wp2_with fail
    refine bodyPost_ret (v := blV Bi.bad 0 none 0) ?_ rfl ⟨Or.inl ⟨HN.out, rfl⟩, ZB.out⟩
    obtain ⟨⟨x0, x1, x2, x3, x4, x5, x6⟩, _⟩ := rowN7 Z7.out
    simp only [results, Tryd.results9]
    simp [go_sem, x0, x1, x2, x3, x4, x5, x6, Bi.bad]
  by_cases k3 : 1000000 < x
  · have HN : Hid (¬ Bi.Ok t d x) := fun h => by have := h.2.2; omega
    have Z7 := Lib.hid (bl7 R11.out (.int .i64 0) (.slice none 0 0) (.int .i64 0) (.int .i64 0) (.int .i64 0) (.int .i64 0) (.int .i64 1))
    have ZB := Lib.hid (bl7b B1.out (show w.heap.size ≤ w.heap.size + 1 by omega) (.int .i64 0) (.slice none 0 0) (.int .i64 0) (.int .i64 0) (.int .i64 0) (.int .i64 0) (.int .i64 1))
    go_wp2_with fail
    refine bodyPost_ret (v := blV Bi.bad 0 none 0) ?_ rfl ⟨Or.inl ⟨HN.out, rfl⟩, ZB.out⟩
    obtain ⟨⟨x0, x1, x2, x3, x4, x5, x6⟩, _⟩ := rowN7 Z7.out
    simp only [results, Tryd.results9]
    simp [go_sem, x0, x1, x2, x3, x4, x5, x6, Bi.bad]
  have HOK : Hid (Bi.Ok t d x) := ⟨HC1.out, ⟨by omega, by omega⟩, ⟨by omega, by omega⟩⟩
  clear o0 o1 o2 o3 o4 o5 o6 y0 y1 y2 y3 y4 y5 y6
  obtain ⟨⟨r0, r1, r2, r3⟩, _⟩ := rowN4 R01.out
  have hd := Bi.days_bd HOK.out
  obtain ⟨D, hD⟩ : ∃ D, D = d * t.day := ⟨_, rfl⟩
  rw [← hD] at hd
  have hD1 : d * t.day = D := hD.symm
  have HD := Lib.hid hD
  clear hD
  obtain ⟨V, hV⟩ : ∃ V, V = w1.alloc (.cells #[.int .i64 D, .slice none 0 0, .int .i64 0, .int .i64 0, .int .i64 0, .int .i64 0, .int .i64 0] 30) := ⟨_, rfl⟩
  have HV := Lib.hid hV
  have HS0 : Hid (BmS t a k w w.heap.size w1.heap.size (w.heap.size + 1) D (.slice none 0 0) [] V) := by
    have hb : Below w1.heap.size w1 V := by rw [hV]; exact nbel_alloc _ _
    exact ⟨nrow_below R01.out hb, by rw [hV]; exact rowN_alloc w1 _ _, nrow_below R11.out hb, OwnQ.nil _ _, B1.out.trans (hb.mono B1.out.size), ⟨by have := R11.out.lt; omega, by have := R11.out.lt; omega, B1.out.size⟩⟩
  clear hV R01 R11 B1
  obtain ⟨i1, hi1, hi0, hi2, hi3⟩ := info_parts bbinfo_i64
  go_wp2_with fail
  rw [← HV.out]
  clear HV r0 r1 r2 r3 hD1
  obtain ⟨gb, hgb⟩ : ∃ gb, gb = w1.heap.size := ⟨_, rfl⟩
  rw [← hgb] at HS0 ⊢
  clear hgb hl1
  go_loopw [8, 9, 10] (fun sv lv iv wr => ∃ (i : Nat) (v : Value), i ≤ t.bn ∧ sv = .int .i64 (Bi.lsum t x i) ∧ lv = .int .i64 (Bi.ahead t i) ∧ iv = .int .i64 i ∧ Hid (BmS t a k w w.heap.size gb (w.heap.size + 1) D v (Bi.ll t x i) wr)) (fun _ _ iv _ => t.bn - (intOf iv).toNat)
  case atStart => exact ⟨0, _, Nat.zero_le _, rfl, rfl, rfl, HS0⟩
  case round =>
    obtain ⟨i, v, hi, rfl, rfl, rfl, hS⟩ := hrel
    obtain ⟨av, cv, rfl, _⟩ := hS.out.q.shape
    clear HS0
    obtain ⟨⟨r0, r1, r2, r3⟩, _⟩ := rowN4 hS.out.rt
    have hbn := HC1.out.2.1.1
    obtain ⟨L0, hL0⟩ : ∃ L0, L0 = Bi.lsum t x i := ⟨_, rfl⟩
    have hLb := Bi.lsum_bd HC1.out.2.1 HOK.out.2.2 i hi
    rw [← hL0] at hLb ⊢
    have HL0 := Lib.hid hL0
    clear hL0
    by_cases hlt : i < t.bn
    · have hltz : (i : Int) < (t.bn : Int) := by omega
      obtain ⟨b, rfl, q0, q1⟩ := (H.out.below hS.out.bel).at2 hlt
      have HOKb := Lib.hid (HC1.out.2.1.2 i hlt)
      have ha := Bi.ahead_bd i (fun j hj => HC1.out.2.1.2 j (by omega)) hlt
      have hpb := Bi.part_bd HOKb.out ha.1 HOK.out.2.2
      have hlb := Bi.line_bd HOKb.out ha.1 HOK.out.2.2
      have HNX : Hid (Bi.ahead t (i + 1) = t.B (i * 2)) := rfl
      obtain ⟨A, hA⟩ : ∃ A, A = Bi.ahead t i := ⟨_, rfl⟩
      obtain ⟨up, hup⟩ : ∃ up, up = t.B (i * 2) := ⟨_, rfl⟩
      obtain ⟨pr, hpr⟩ : ∃ pr, pr = t.B (i * 2 + 1) := ⟨_, rfl⟩
      obtain ⟨P, hP⟩ : ∃ P, P = Bi.part t x i := ⟨_, rfl⟩
      obtain ⟨L, hL⟩ : ∃ L, L = Bi.line t x i := ⟨_, rfl⟩
      have hprP : pr * P = L := by rw [hpr, hP, hL]; rfl
      have HLL : Hid (Bi.ll t x (i + 1) = Bi.ll t x i ++ [L]) := by show _ = _; rw [hL]; exact Bi.ll_succ t x i
      have HLS : Hid (Bi.lsum t x (i + 1) = L0 + L) := by show _ = _; rw [hL, HL0.out]; rfl
      rw [← hup] at q0 HNX
      rw [← hpr] at q1
      rw [← hA] at ha ⊢
      rw [← hP] at hpb
      rw [← hL] at hlb
      have HA := Lib.hid hA
      have HUP := Lib.hid hup
      have HPR := Lib.hid hpr
      have HP := Lib.hid hP
      have hx1 : 0 ≤ x ∧ x ≤ 1000000 := HOK.out.2.2
      clear hA hup hpr hP hL
      obtain ⟨⟨b0, b1, b2, b3, b4, b5, b6⟩, f0, f1, f2, f3, f4, f5, f6⟩ := rowN7 hS.out.rb
      have hgl := hS.out.rb.lt
      have hw1 : IntKind.i64.wrap (pr * P) = L := by rw [hprP]; exact biwrap (by omega) (by omega)
      have HSn : Hid (∀ n, BmS t (some ⟨b, 0, none⟩) k w w.heap.size gb (w.heap.size + 1) D (.slice av (Bi.ll t x i).length cv) (Bi.ll t x i) (wr.drewN n)) := fun n => hS.out.below ⟨rfl, rfl, rfl, Nat.le_refl _, fun _ _ => rfl⟩
      by_cases e0 : i + 1 < t.bn
      · have e1 : (i : Int) < (t.bn : Int) - 1 := by omega
        have KM : Hid (∀ w, Calls Tryd.prog 40 #[.int .i64 0, .int .i64 (min x up - A)] w fun e w' => e = .returned (.int .i64 P) ∧ w' = w) := fun w => by
          have e : P = max 0 (min x up - A) := by rw [HP.out, HUP.out, HA.out]; exact Bi.part_in e0
          rw [e]; exact bmax_any _ _ _
        have hub := HOKb.out.2 e0
        rw [← HA.out, ← HUP.out] at hub
        go_wp2_with fail
        refine (bmin_any _ _ _).mono ?_
        rintro e w2 ⟨rfl, hw2⟩
        subst hw2
        obtain ⟨M, hM⟩ : ∃ M, M = min x up := ⟨_, rfl⟩
        have hMb : 0 ≤ M ∧ M ≤ 1000000 := by omega
        rw [← hM] at KM ⊢
        clear hM
        have hw2 : IntKind.i64.wrap (M - A) = M - A := biwrap (by omega) (by omega)
        go_wp2_with fail
        go_quiet ((go_at_call 40; exact Calls.quiet_of_same (KM.out _)))
        go_wp2_with (at_builtin; refine wpList_append_q _ rfl _ _ 28 rfl i1 Tryd.underlying28 hi1 hi0 hi2 hi3 w.heap.size _ (Bi.ll t x i) rfl ((HSn.out _).q.below (nbel_alloc _ _)) (by rw [Bi.ll_len]; omega) (by have := hS.out.bel.size; simp; omega) ⟨w2.heap.size, 0, none⟩ 1 L rfl ?a1 ?_)
        try (case a1 => exact qcell _ _ _)
        intro v' W3 hown hgrow hat
        obtain ⟨rt3, rb3, bel3⟩ := ((HSn.out _).below (nbel_alloc _ _)).grow hgrow
        have S3 : Hid (BmS t (some ⟨b, 0, none⟩) k w w.heap.size gb (w.heap.size + 1) D v' (Bi.ll t x (i + 1)) (W3.setCell ⟨gb, 1, none⟩ v')) := by
          show BmS _ _ _ _ _ _ _ _ _ _ _
          rw [HLL.out]
          exact ((HSn.out _).below (nbel_alloc _ _)).push hown hgrow
        obtain ⟨av2, cv2, rfl, _⟩ := hown.shape
        rw [List.length_append, List.length_singleton] at S3
        clear r0 r1 r2 r3 q0 q1 b0 b1 b2 b3 b4 b5 b6 f0 f1 f2 f3 f4 f5 f6 hgl
        obtain ⟨⟨r0, r1, r2, r3⟩, _⟩ := rowN4 rt3
        obtain ⟨⟨b0, b1, b2, b3, b4, b5, b6⟩, f0, f1, f2, f3, f4, f5, f6⟩ := rowN7 rb3
        have hgl := rb3.lt
        have hgt : w.heap.size ≠ gb := hS.out.ne.2.1
        obtain ⟨b', hb', q0, q1⟩ := (H.out.below bel3).at2 hlt
        cases hb'
        rw [← HUP.out] at q0
        have hbb : b ≠ gb := by
          have := hS.out.ne.2.2
          obtain ⟨b', hb', z0, _⟩ := H.out.at2 hlt
          cases hb'
          have := World.block_lt_of_cell? _ _ z0
          have e : (⟨b, i * 2, none⟩ : Addr).block = b := rfl
          omega
        clear rt3 rb3 bel3 hown hgrow hat hS HSn
        go_wp2_with fail
        go_roundw
        case rel => exact ⟨i + 1, _, by omega, by rw [HLS.out], by rw [HNX.out], by go_num, S3⟩
        case measure => simp [intOf]; omega
      · have e1 : ¬ (i : Int) < (t.bn : Int) - 1 := by omega
        have KM : Hid (∀ w, Calls Tryd.prog 40 #[.int .i64 0, .int .i64 (x - A)] w fun e w' => e = .returned (.int .i64 P) ∧ w' = w) := fun w => by
          have e : P = max 0 (x - A) := by rw [HP.out, HA.out]; exact Bi.part_last e0
          rw [e]; exact bmax_any _ _ _
        have hw2 : IntKind.i64.wrap (x - A) = x - A := biwrap (by omega) (by omega)
        go_wp2_with fail
        go_quiet ((go_at_call 40; exact Calls.quiet_of_same (KM.out _)))
        go_wp2_with (at_builtin; refine wpList_append_q _ rfl _ _ 28 rfl i1 Tryd.underlying28 hi1 hi0 hi2 hi3 w.heap.size _ (Bi.ll t x i) rfl ((HSn.out _).q.below (nbel_alloc _ _)) (by rw [Bi.ll_len]; omega) (by have := hS.out.bel.size; simp; omega) ⟨wr.heap.size, 0, none⟩ 1 L rfl ?c1 ?_)
        try (case c1 => exact qcell _ _ _)
        intro v' W3 hown hgrow hat
        obtain ⟨rt3, rb3, bel3⟩ := ((HSn.out _).below (nbel_alloc _ _)).grow hgrow
        have S3 : Hid (BmS t (some ⟨b, 0, none⟩) k w w.heap.size gb (w.heap.size + 1) D v' (Bi.ll t x (i + 1)) (W3.setCell ⟨gb, 1, none⟩ v')) := by
          show BmS _ _ _ _ _ _ _ _ _ _ _
          rw [HLL.out]
          exact ((HSn.out _).below (nbel_alloc _ _)).push hown hgrow
        obtain ⟨av2, cv2, rfl, _⟩ := hown.shape
        rw [List.length_append, List.length_singleton] at S3
        clear r0 r1 r2 r3 q0 q1 b0 b1 b2 b3 b4 b5 b6 f0 f1 f2 f3 f4 f5 f6 hgl
        obtain ⟨⟨r0, r1, r2, r3⟩, _⟩ := rowN4 rt3
        obtain ⟨⟨b0, b1, b2, b3, b4, b5, b6⟩, f0, f1, f2, f3, f4, f5, f6⟩ := rowN7 rb3
        have hgl := rb3.lt
        have hgt : w.heap.size ≠ gb := hS.out.ne.2.1
        obtain ⟨b', hb', q0, q1⟩ := (H.out.below bel3).at2 hlt
        cases hb'
        rw [← HUP.out] at q0
        have hbb : b ≠ gb := by
          have := hS.out.ne.2.2
          obtain ⟨b', hb', z0, _⟩ := H.out.at2 hlt
          cases hb'
          have := World.block_lt_of_cell? _ _ z0
          have e : (⟨b, i * 2, none⟩ : Addr).block = b := rfl
          omega
        clear rt3 rb3 bel3 hown hgrow hat hS HSn
        go_wp2_with fail
        go_roundw
        case rel => exact ⟨i + 1, _, by omega, by rw [HLS.out], by rw [HNX.out], by go_num, S3⟩
        case measure => simp [intOf]; omega
    · obtain rfl : i = t.bn := by omega
      obtain ⟨⟨b0, b1, b2, b3, b4, b5, b6⟩, f0, f1, f2, f3, f4, f5, f6⟩ := rowN7 hS.out.rb
      obtain ⟨⟨z0, z1, z2, z3, z4, z5, z6⟩, j0, j1, j2, j3, j4, j5, j6⟩ := rowN7 hS.out.rr
      have hgl := hS.out.rb.lt
      have hgr := hS.out.rr.lt
      have hgt : w.heap.size ≠ gb := hS.out.ne.2.1
      have hgn : gb ≠ w.heap.size + 1 := hS.out.ne.1
      obtain ⟨hs1, hs2⟩ := Bi.sew_bd HOK.out
      have hn1 := Bi.net_bd HOK.out
      obtain ⟨ht1, ht2⟩ := Bi.tax_bd HOK.out
      rw [← HL0.out] at hs1
      obtain ⟨X1, hX1⟩ : ∃ X1, X1 = L0 * t.sew := ⟨_, rfl⟩
      obtain ⟨S, hSe⟩ : ∃ S, S = Bi.sewG t x := ⟨_, rfl⟩
      obtain ⟨N, hN⟩ : ∃ N, N = Bi.netG t d x := ⟨_, rfl⟩
      obtain ⟨Y, hY⟩ : ∃ Y, Y = N * t.tax := ⟨_, rfl⟩
      obtain ⟨T, hT⟩ : ∃ T, T = Bi.taxG t d x := ⟨_, rfl⟩
      rw [← hX1] at hs1
      rw [← hSe] at hs2
      rw [← hN] at hn1 ht1
      rw [← hY] at ht1
      rw [← hT] at ht2
      have e1 : L0 * t.sew = X1 := hX1.symm
      have e2 : X1 / 100 = S := by rw [hX1, hSe, HL0.out]; rfl
      have e3 : X1.tdiv 100 = S := by rw [Int.tdiv_eq_ediv_of_nonneg hs1.1]; exact e2
      have e4 : D + L0 + S = N := by rw [hN, HD.out, HL0.out, hSe]; rfl
      have e5 : N * t.tax = Y := hY.symm
      have e6 : (Y + 50) / 100 = T := by rw [hT, hY, hN]; rfl
      have e7 : (Y + 50).tdiv 100 = T := by rw [Int.tdiv_eq_ediv_of_nonneg (by omega)]; exact e6
      have HBB : Hid (Bi.bill t d x = ⟨D, S, N, T, N + T, 0⟩) := by show _ = _; rw [HD.out, hSe, hN, hT]; rfl
      have hDL : D + L0 ≤ 1000000000000 := by omega
      have HQ : Hid (QsOwn w.heap.size t.bn av cv (Bi.line t x) wr) := by
        obtain ⟨a9, c9, e9, h9⟩ := hS.out.q.qs
        cases e9
        rw [Bi.ll_len] at h9
        exact h9.congr (fun j hj => Bi.ll_at _ _ _ _ hj)
      have hll : (Bi.ll t x t.bn).length = t.bn := Bi.ll_len _ _ _
      have C4 := nrow_set (nrow_set (nrow_set (nrow_set hS.out.rr (p := ⟨gb, 2, none⟩) (Ne.symm hgn) (.int .i64 S)) (p := ⟨gb, 3, none⟩) (Ne.symm hgn) (.int .i64 N)) (p := ⟨gb, 4, none⟩) (Ne.symm hgn) (.int .i64 T)) (p := ⟨gb, 5, none⟩) (Ne.symm hgn) (.int .i64 (N + T))
      have D4 := (((hS.out.bel.setCell (p := ⟨gb, 2, none⟩) hS.out.ne.2.2 (.int .i64 S)).setCell (p := ⟨gb, 3, none⟩) hS.out.ne.2.2 (.int .i64 N)).setCell (p := ⟨gb, 4, none⟩) hS.out.ne.2.2 (.int .i64 T)).setCell (p := ⟨gb, 5, none⟩) hS.out.ne.2.2 (.int .i64 (N + T))
      have Z7 := Lib.hid (bl7 C4 (.int .i64 D) (.slice av t.bn cv) (.int .i64 S) (.int .i64 N) (.int .i64 T) (.int .i64 (N + T)) (.int .i64 0))
      have ZB := Lib.hid (bl7b D4 (show w.heap.size ≤ w.heap.size + 1 by omega) (.int .i64 D) (.slice av t.bn cv) (.int .i64 S) (.int .i64 N) (.int .i64 T) (.int .i64 (N + T)) (.int .i64 0))
      have HN1 : Hid (∀ j, (Value.slice av t.bn cv).ownBlock = some j → j ≠ gb ∧ j ≠ w.heap.size + 1) := fun j hj => ⟨fun e => HQ.out.ne hS.out.rb (by decide) (by rw [hj, e]), fun e => HQ.out.ne hS.out.rr (by decide) (by rw [hj, e])⟩
      rw [hll] at b1
      clear C4 D4 hS hX1 hSe hN hY hT hll e2 e6
      go_wp2_with fail
      refine bodyPost_ret (v := blV (Bi.bill t d x) t.bn av cv) ?_ rfl ⟨Or.inr ⟨HOK.out, av, cv, rfl, HQ.out.same (fun j hj _ => ?_)⟩, ZB.out⟩
      · obtain ⟨⟨x0, x1, x2, x3, x4, x5, x6⟩, _⟩ := rowN7 Z7.out
        rw [HBB.out]
        simp only [results, Tryd.results9]
        simp [go_sem, x0, x1, x2, x3, x4, x5, x6]
      · obtain ⟨g1, g2⟩ := HN1.out j hj
        rw [bl7o g2, bihs _ _ _ g1, bihs _ _ _ g1, bihs _ _ _ g1, bihs _ _ _ g1]
end Go.Proofs.YtnbnfifgajfomaaDoor
