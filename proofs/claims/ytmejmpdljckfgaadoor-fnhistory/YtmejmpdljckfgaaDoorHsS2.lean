/-
  The model's HistoryPack.
-/
import Derived.Test.YtmejmpdljckfgaaDoorHsPk
import Derived.Test.YtmejmpdljckfgaaDoorHsS1
import Derived.Deep.QuietTactic
import Derived.BigQuiet
namespace Go.Proofs.YtmejmpdljckfgaaDoor
open Go.RowKit Go.Deep

set_option maxRecDepth 100000 in
set_option maxHeartbeats 4000000 in
theorem hAll_any (a : Option Addr) (m cap : Nat) (f : Nat → Int) (w : World) (h : IsAt a m f w) (hm : m ≤ 1048576) :
    Calls Tryd.prog 78 #[.slice a m cap, .int .i64 (-1000000), .int .i64 1000000] w fun e w' => e = .returned (.bool (Mt.dB (∀ i, i < m → Al.V (f i)))) ∧ w' = w := by
  have H := Lib.hid h
  clear h
  go_enter Tryd.func78, Tryd.ntmps78
  go_wp2_with fail
  go_loopw [7] (fun iv wr => ∃ (i : Nat), i ≤ m ∧ iv = .int .i64 i ∧ Hid (wr = w) ∧ Hid (∀ j, j < i → Al.V (f j))) (fun iv _ => m - (intOf iv).toNat)
  case atStart => exact ⟨0, Nat.zero_le _, rfl, rfl, fun j hj => absurd hj (Nat.not_lt_zero _)⟩
  case round =>
    obtain ⟨i, hi, rfl, hW, hP⟩ := hrel
    obtain rfl := hW.out
    clear hW
    by_cases hlt : i < m
    · have hltz : (i : Int) < (m : Int) := by omega
      obtain ⟨b, e, c0⟩ := H.out.at1 hlt
      subst e
      by_cases c1 : f i < -1000000
      · have HE := Lib.hid (Mt.dB_ff (show ¬ ∀ i, i < m → Al.V (f i) from fun k => by have := (k i hlt).1; omega))
        go_wp2_with fail
        go_ret
        exact ⟨by rw [HE.out]; rfl, rfl⟩
      by_cases c2 : 1000000 < f i
      · have HE := Lib.hid (Mt.dB_ff (show ¬ ∀ i, i < m → Al.V (f i) from fun k => by have := (k i hlt).2; omega))
        go_wp2_with fail
        go_ret
        exact ⟨by rw [HE.out]; rfl, rfl⟩
      have HC : Hid (Al.V (f i)) := ⟨by omega, by omega⟩
      go_wp2_with fail
      go_roundw
      case rel => exact ⟨i + 1, by omega, by go_num, by first | exact rfl | exact (trivial : True), fun j hj => by
        by_cases e : j = i
        · subst e; exact HC.out
        · exact hP.out j (by omega)⟩
      case measure => simp [intOf]; omega
    · obtain rfl : i = m := by omega
      have HE := Lib.hid (Mt.dB_tt hP.out)
      go_wp2_with fail
      go_ret
      exact ⟨by rw [HE.out]; rfl, rfl⟩
theorem habs_any (n : Int) (w : World) (h0 : -9223372036854775807 ≤ n) (h1 : n ≤ 9223372036854775807) :
    Calls Tryd.prog 53 #[.int .i64 n] w fun e w' => e = .returned (.int .i64 (Hs.mag n)) ∧ w' = w := by
  unfold Hs.mag
  by_cases k : n < 0
  · rw [if_pos k]
    go_enter Tryd.func53, Tryd.ntmps53
    go_wp2_with fail
    go_ret
    exact ⟨rfl, rfl⟩
  · rw [if_neg k]
    go_enter Tryd.func53, Tryd.ntmps53
    go_wp2_with fail
    go_ret
    exact ⟨rfl, rfl⟩
theorem PkS.drewN {w : World} {v : Value} {l : List Ln.Nt} {W : World} (h : PkS w v l W) (m : Nat) : PkS w v l (W.drewN m) := ⟨h.own, h.bel.trans ⟨rfl, rfl, rfl, Nat.le_refl _, fun _ _ => rfl⟩⟩
theorem Hs.mag_le {x b : Int} : Hs.mag x ≤ b ↔ (-b ≤ x ∧ x ≤ b) := by unfold Hs.mag; split <;> omega
set_option maxRecDepth 100000 in
set_option maxHeartbeats 2000000 in
theorem svals_any (la : Option Addr) (n cap : Nat) (V : Nat → Int) (w : World) (h : IsAt la n V w) (hn : n ≤ 1048576) :
    Calls Tryd.prog 52 #[.slice la n cap] w fun e w' => e = .returned (.bool (Mt.dB (Hs.Vals V n))) ∧ w' = w := by
  have H := Lib.hid h
  clear h
  by_cases hbig : (n : Int) ≤ 300
  · have HN3 : Hid (n ≤ 300) := by show n ≤ 300; omega
    go_enter Tryd.func52, Tryd.ntmps52
    go_wp2_with fail
    refine (hAll_any la n cap V w H.out hn).mono ?_
    rintro e w1 ⟨rfl, hw⟩
    subst hw
    by_cases c : ∀ i, i < n → Al.V (V i)
    · have HE := Lib.hid (Mt.dB_tt (show Hs.Vals V n from ⟨HN3.out, c⟩))
      rw [Mt.dB_tt c]
      clear c
      go_wp2_with fail
      go_ret
      exact ⟨by rw [HE.out]; rfl, rfl⟩
    · have HE := Lib.hid (Mt.dB_ff (show ¬ Hs.Vals V n from fun h => c h.2))
      rw [Mt.dB_ff c]
      clear c
      go_wp2_with fail
      go_ret
      exact ⟨by rw [HE.out]; rfl, rfl⟩
  · have HE := Lib.hid (Mt.dB_ff (show ¬ Hs.Vals V n from fun h => by have := h.1; omega))
    go_enter Tryd.func52, Tryd.ntmps52
    go_wp2_with fail
    go_ret
    exact ⟨by rw [HE.out]; rfl, rfl⟩
set_option maxRecDepth 100000 in
set_option maxHeartbeats 8000000 in
theorem specPack_any (la : Option Addr) (n cap : Nat) (V : Nat → Int) (b : Int) (w : World) (h : IsAt la n V w) (hn : n ≤ 1048576) :
    Calls Tryd.prog 18 #[.slice la n cap, .int .i64 b] w fun e w' => (∃ a k, e = .returned (.slice a (Hs.keep V n b).length k) ∧ CyO 104 w.heap.size ((Hs.keep V n b).length * 2) a k (Ln.fl (Hs.keep V n b)) w') ∧ Below w.heap.size w w' := by
  obtain ⟨i0, hi0, hz0, hz1, hz2⟩ := info_parts hinfo_pt
  have H := Lib.hid h
  clear h
  obtain ⟨W, hW⟩ : ∃ W, W = w.alloc (.cells #[] 104) := ⟨_, rfl⟩
  have HS0 : Hid (PkS w (.slice (some ⟨w.heap.size, 0, none⟩) 0 0) [] W) := by show PkS _ _ _ _; rw [hW]; exact PkS.made w w (Below.refl _ _)
  have HW := Lib.hid hW
  clear hW
  go_enter Tryd.func18, Tryd.ntmps18
  go_wp2_with fail
  rw [← HW.out]
  clear HW
  refine (svals_any la n cap V W (H.out.below HS0.out.bel) hn).mono ?_
  rintro e w1 ⟨rfl, hw1⟩
  subst hw1
  have HNIL : Hid (CyO 104 w.heap.size (([] : List Ln.Nt).length * 2) (some ⟨w.heap.size, 0, none⟩) 0 (Ln.fl []) w1) := by
    obtain ⟨a, k, e, ho⟩ := cyo_own HS0.out.own
    cases e
    exact ho
  by_cases cv : Hs.Vals V n
  case neg =>
    have HE := Lib.hid (Hs.keep_no (b := b) (show ¬ (Hs.Vals V n ∧ Hs.Band b) from fun h => cv h.1))
    rw [Mt.dB_ff cv]
    clear cv
    go_wp2_with fail
    go_ret
    exact ⟨⟨some ⟨w.heap.size, 0, none⟩, 0, by rw [HE.out]; rfl, by rw [HE.out]; exact HNIL.out⟩, HS0.out.bel⟩
  rw [Mt.dB_tt cv]
  have HV := Lib.hid cv
  clear cv
  by_cases cb : b < 0
  · have HE := Lib.hid (Hs.keep_no (b := b) (show ¬ (Hs.Vals V n ∧ Hs.Band b) from fun h => by have := h.2.1; omega))
    go_wp2_with fail
    go_ret
    exact ⟨⟨some ⟨w.heap.size, 0, none⟩, 0, by rw [HE.out]; rfl, by rw [HE.out]; exact HNIL.out⟩, HS0.out.bel⟩
  by_cases cb2 : 1000000 < b
  · have HE := Lib.hid (Hs.keep_no (b := b) (show ¬ (Hs.Vals V n ∧ Hs.Band b) from fun h => by have := h.2.2; omega))
    go_wp2_with fail
    go_ret
    exact ⟨⟨some ⟨w.heap.size, 0, none⟩, 0, by rw [HE.out]; rfl, by rw [HE.out]; exact HNIL.out⟩, HS0.out.bel⟩
  have HCB : Hid (0 ≤ b ∧ b ≤ 1000000) := ⟨by omega, by omega⟩
  have HE := Lib.hid (Hs.keep_yes (n := n) HV.out (show Hs.Band b from HCB.out))
  have hn3 : n ≤ 300 := HV.out.1
  clear HNIL
  go_wp2_with fail
  go_loopw [5, 6] (fun lv iv wr => ∃ (i : Nat), i ≤ n ∧ iv = .int .i64 i ∧ Hid (PkS w lv (Hs.pack V b i) wr)) (fun _ iv _ => n - (intOf iv).toNat)
  case atStart => exact ⟨0, Nat.zero_le _, rfl, HS0⟩
  case round =>
    obtain ⟨i, hi, rfl, hS⟩ := hrel
    clear HS0
    by_cases hlt : i < n
    · have hltz : (i : Int) < (n : Int) := by omega
      obtain ⟨q, e, c0⟩ := (H.out.below (hS.out.bel)).at1 hlt
      subst e
      obtain ⟨x, hx⟩ : ∃ x, x = V i := ⟨_, rfl⟩
      rw [← hx] at c0
      obtain ⟨l, hl⟩ : ∃ l, l = Hs.pack V b i := ⟨_, rfl⟩
      have HL := Lib.hid hl
      have HX := Lib.hid hx
      rw [← hl] at hS
      have hx0 : -1000000 ≤ x ∧ x ≤ 1000000 := by rw [hx]; exact HV.out.2 i hlt
      have HLN : Hid (l.length ≤ 300) := by show l.length ≤ 300; rw [hl]; exact Nat.le_trans (Hs.pack_len V b i) (by omega)
      have HPL : Hid (0 < i → 0 < l.length ∧ -1000000 ≤ Hs.last l ∧ Hs.last l ≤ 1000000) := fun h => by rw [hl]; exact ⟨Hs.pack_pos V b i h, Hs.pack_last HV.out.2 i hi h⟩
      have HY : Hid (Hs.Far V b l i → Hs.pack V b (i + 1) = l ++ [((i : Int), x)]) := fun h => by rw [hl, hx]; rw [hl] at h; exact Hs.pack_yes h
      have HNO : Hid (¬ Hs.Far V b l i → Hs.pack V b (i + 1) = l) := fun h => by rw [hl]; rw [hl] at h; exact Hs.pack_no h
      clear hx hl
      obtain ⟨a2, c2, hve, _⟩ := own_ns hS.out.own
      have HDR := Lib.hid (fun m => hS.out.drewN m)
      by_cases e0 : i = 0
      · have e1 : ((i : Int) == 0) = true := by simp; omega
        have HE2 := Lib.hid (HY.out (Or.inl e0))
        subst hve
        obtain ⟨N, hN⟩ : ∃ N, N = l.length := ⟨_, rfl⟩
        have HNN := Lib.hid hN
        rw [← hN] at hS HDR ⊢
        clear e0 hN HPL HY HNO
        go_wp2_with fail
        go_quiet (fail)
        generalize hW3 : wr.drewN _ = W3
        have hS3 : PkS w (.slice a2 N c2) l W3 := by rw [← hW3]; exact HDR.out _
        have c1 : W3.cell? ⟨q, i, none⟩ = some (.int .i64 x) := by rw [← hW3]; exact c0
        have HSD := Lib.hid (hS3.below (nbel_alloc W3 (.cells #[.int .i64 (i : Int), .int .i64 x] 104)))
        have HM1 := Lib.hid (one_in W3 104 (i : Int) x)
        clear hW3 hS3 HDR hS c0
        go_wp2_with (at_builtin; refine wpList_append_ns (l := l) (m := [((i : Int), x)]) rfl _ _ 59 rfl 104 i0 (.agg #[.int .i64 0, .int .i64 0]) 16 Tryd.underlying59 hi0 hz0 hz1 hz2 rfl w.heap.size _ rfl HSD.out.own (some ⟨W3.heap.size, 0, none⟩) 1 rfl HM1.out (by have := HLN.out; unfold maxLen; simp; omega) (by have := HLN.out; simp; omega) HSD.out.bel.size ?_)
        intro v' y3 hown hgrow
        have HP := Lib.hid (HSD.out.push (x := (i : Int)) (y := x) (by simpa using hown) hgrow)
        clear hown hgrow HSD HM1 c1
        go_wp2_with fail
        go_roundw
        case rel => exact ⟨i + 1, by omega, by go_num, by rw [HE2.out]; exact HP⟩
        case measure => simp [intOf]; omega
      · have e1 : ((i : Int) == 0) = false := by simp; omega
        obtain ⟨hp1, hp2, hp3⟩ := HPL.out (by omega)
        obtain ⟨g, c3, hve2, k1⟩ := hS.out.last hp1
        rw [hve] at hve2
        cases hve2
        subst hve
        obtain ⟨N, hN⟩ : ∃ N, N = l.length := ⟨_, rfl⟩
        obtain ⟨z, hz⟩ : ∃ z, z = Hs.last l := ⟨_, rfl⟩
        have HNN := Lib.hid hN
        rw [← hN] at hS HDR hp1 k1 ⊢
        rw [← hz] at hp2 hp3 k1
        have HFAR : Hid (Hs.Far V b l i ↔ b < Hs.mag (x - z)) := by
          show _ ↔ _
          unfold Hs.Far
          rw [← hz, ← HX.out]
          have := Hs.mag_le (x := x - z) (b := b)
          constructor
          · rintro (h | h | h)
            · exact absurd h e0
            · omega
            · omega
          · intro h; omega
        have hq1 : ((N : Int) - 1).toNat = N - 1 := by omega
        have hq3 : ¬ (N : Int) - 1 < 0 := by omega
        have hq4 : (N : Int) - 1 < (N : Int) := by omega
        have hq5 : IntKind.i64.wrap ((N : Int) - 1) = (N : Int) - 1 := lnwrap (by have := HLN.out; omega) (by have := HLN.out; omega)
        have hq6 : IntKind.i64.wrap (x - z) = x - z := lnwrap (by omega) (by omega)
        obtain ⟨d, hd⟩ : ∃ d, d = Hs.mag (x - z) := ⟨_, rfl⟩
        have KV : Hid (∀ wx, Calls Tryd.prog 53 #[.int .i64 (x - z)] wx fun e w' => e = .returned (.int .i64 d) ∧ w' = wx) := fun wx => by rw [hd]; exact habs_any (x - z) wx (by omega) (by omega)
        rw [← hd] at HFAR
        clear e0 hN HPL hz hd
        by_cases cf : b < d
        · have cf2 : decide (b < d) = true := by simpa using cf
          have HE2 := Lib.hid (HY.out (HFAR.out.2 cf))
          clear HY HNO HFAR cf
          go_wp2_with fail
          go_quiet ((go_at_call 53; exact Calls.quiet_of_same (KV.out _)))
          generalize hW3 : wr.drewN _ = W3
          have hS3 : PkS w (.slice (some ⟨g, 0, none⟩) N c2) l W3 := by rw [← hW3]; exact HDR.out _
          have c1 : W3.cell? ⟨q, i, none⟩ = some (.int .i64 x) := by rw [← hW3]; exact c0
          have HSD := Lib.hid (hS3.below (nbel_alloc W3 (.cells #[.int .i64 (i : Int), .int .i64 x] 104)))
          have HM1 := Lib.hid (one_in W3 104 (i : Int) x)
          clear hW3 hS3 HDR hS c0 k1
          go_wp2_with (at_builtin; refine wpList_append_ns (l := l) (m := [((i : Int), x)]) rfl _ _ 59 rfl 104 i0 (.agg #[.int .i64 0, .int .i64 0]) 16 Tryd.underlying59 hi0 hz0 hz1 hz2 rfl w.heap.size _ rfl HSD.out.own (some ⟨W3.heap.size, 0, none⟩) 1 rfl HM1.out (by have := HLN.out; unfold maxLen; simp; omega) (by have := HLN.out; simp; omega) HSD.out.bel.size ?_)
          intro v' y3 hown hgrow
          have HP := Lib.hid (HSD.out.push (x := (i : Int)) (y := x) (by simpa using hown) hgrow)
          clear hown hgrow HSD HM1 c1
          go_wp2_with fail
          go_roundw
          case rel => exact ⟨i + 1, by omega, by go_num, by rw [HE2.out]; exact HP⟩
          case measure => simp [intOf]; omega
        · have cf2 : decide (b < d) = false := by simpa using cf
          have HE2 := Lib.hid (HNO.out (fun h => cf (HFAR.out.1 h)))
          clear HY HNO HFAR cf
          go_wp2_with fail
          go_quiet ((go_at_call 53; exact Calls.quiet_of_same (KV.out _)))
          go_wp2_with fail
          go_roundw
          case rel => exact ⟨i + 1, by omega, by go_num, by rw [HE2.out]; exact HDR.out _⟩
          case measure => simp [intOf]; omega
    · obtain rfl : i = n := by omega
      obtain ⟨a, k, rfl, ho⟩ := cyo_own hS.out.own
      have HO := Lib.hid ho
      have HB2 := Lib.hid hS.out.bel
      clear ho hS
      go_wp2_with fail
      go_ret
      exact ⟨⟨a, k, by rw [HE.out]; rfl, by rw [HE.out]; exact HO.out⟩, HB2.out⟩
end Go.Proofs.YtmejmpdljckfgaaDoor
