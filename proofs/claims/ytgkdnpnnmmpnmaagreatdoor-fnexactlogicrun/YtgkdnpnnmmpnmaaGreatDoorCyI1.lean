/-
  Cycles: is a Logic right for a program: the program's.
-/
import Derived.Test.YtgkdnpnnmmpnmaaGreatDoorCyS1
import Derived.Test.YtgkdnpnnmmpnmaaGreatDoorAw
namespace Go.Proofs.YtgkdnpnnmmpnmaaGreatDoor
open Go.RowKit Go.Deep

theorem within_any (a : Option Addr) (n cap : Nat) (f : Nat → Int) (m : Int) (w : World) (h : IsAt a n f w) (hn : n ≤ 1048576) :
    Calls Tryz.prog 93 #[.slice a n cap, .int .i64 m] w fun e w' => e = .returned (.bool (dB (∀ i, i < n → 0 ≤ f i ∧ f i ≤ m))) ∧ w' = w :=
  (allWithin_raw a n cap f m w h (by omega)).mono (fun _ _ ⟨⟨b, h1, h2⟩, h3⟩ => ⟨by rw [h1]; cases b with
    | true => rw [dB_tt (h2.1 rfl)]
    | false => rw [dB_ff (fun q => by have := h2.2 q; cases this)], h3⟩)
set_option maxRecDepth 100000 in
set_option maxHeartbeats 4000000 in
theorem kept_any (s : Cy.Lg) (sa : Option Addr) (sk : Nat) (sb : Option Addr) (sl : Nat) (w : World) (h2 : LgAt s sa sb w) (hs2 : LgSmall s) :
    Calls Tryz.prog 98 #[lgV s sa sk sb sl] w fun e w' => e = .returned (.bool (dB (Cy.Kept s))) ∧ Below w.heap.size w w' := by
  obtain ⟨W, hW⟩ : ∃ W, W = w.alloc (.cells (lgA s sa sk sb sl) 33) := ⟨_, rfl⟩
  have R0 : Hid (W.rowIs w.heap.size 33 3 (rowN (lgL s sa sk sb sl))) := by show World.rowIs _ _ _ _ _; rw [hW]; exact rowN_alloc w (lgL s sa sk sb sl) _
  have B0 : Hid (Below w.heap.size w W) := by show Below _ _ _; rw [hW]; exact nbel_alloc _ _
  have H2 := Lib.hid h2
  have hn1 : s.n ≤ 1048576 := hs2.1
  have hm1 : s.m ≤ 1048576 := hs2.2
  have HW := Lib.hid hW
  clear hW h2 hs2
  obtain ⟨⟨x0, x1, x2⟩, _⟩ := rowN3 R0.out
  rw [HW.out] at x0 x1 x2
  by_cases k1 : s.n ≤ 100
  · have d1 : (s.n : Int) ≤ 100 := by omega
    by_cases k2 : s.m = s.n
    · have d2 : ((s.m : Int) == (s.n : Int)) = true := by rw [k2]; simp
      have K2 := Lib.hid k2
      clear k2
      go_enter Tryz.func98, Tryz.ntmps98
      go_wp2_with fail
      rw [← HW.out]
      refine (within_any sa s.n sk s.T 1 _ (H2.out.t.below B0.out) hn1).mono ?_
      rintro e w2 ⟨rfl, hw⟩
      rw [hw]
      clear hw w2
      by_cases k3 : ∀ i, i < s.n → 0 ≤ s.T i ∧ s.T i ≤ 1
      · rw [dB_tt k3]
        have K3 := Lib.hid k3
        clear k3 x0 x1 x2
        obtain ⟨⟨x0, x1, x2⟩, _⟩ := rowN3 R0.out
        go_wp2_with fail
        refine (within_any sb s.m sl s.C 101 _ (H2.out.c.below B0.out) hm1).mono ?_
        rintro e w2 ⟨rfl, hw⟩
        rw [hw]
        clear hw w2
        have HK : Hid (dB (∀ i, i < s.m → 0 ≤ s.C i ∧ s.C i ≤ 101) = dB (Cy.Kept s)) := dB_congr ⟨fun q => ⟨k1, K2.out, K3.out, q⟩, fun q => q.c⟩
        go_wp2_with fail
        go_ret
        exact ⟨by rw [← HK.out]; rfl, B0.out⟩
      · rw [dB_ff k3]
        have HK : Hid (dB (Cy.Kept s) = false) := dB_ff (fun q => k3 q.t)
        clear k3
        go_wp2_with fail
        go_ret
        exact ⟨by rw [HK.out]; rfl, B0.out⟩
    · have d2 : ((s.m : Int) == (s.n : Int)) = false := by simp; omega
      have HK : Hid (dB (Cy.Kept s) = false) := dB_ff (fun q => k2 q.m)
      clear k2
      go_enter Tryz.func98, Tryz.ntmps98
      go_wp2_with fail
      rw [← HW.out]
      go_ret
      exact ⟨by rw [HK.out]; rfl, B0.out⟩
  · have d1 : ¬ (s.n : Int) ≤ 100 := by omega
    have HK : Hid (dB (Cy.Kept s) = false) := dB_ff (fun q => k1 q.n)
    clear k1
    go_enter Tryz.func98, Tryz.ntmps98
    go_wp2_with fail
    rw [← HW.out]
    go_ret
    exact ⟨by rw [HK.out]; rfl, B0.out⟩
set_option maxRecDepth 100000 in
set_option maxHeartbeats 8000000 in
theorem implOf_cy (p : Pg.Prog) (la : Option Addr) (lk : Nat) (fa : Option Addr) (fk : Nat) (wa : Option Addr) (wk : Nat) (s : Cy.Lg) (sa : Option Addr) (sk : Nat) (sb : Option Addr) (sl : Nat) (w : World) (h : PgAt p la fa wa w) (hs : PgSmall p) (h2 : LgAt s sa sb w) (hs2 : LgSmall s) :
    Calls Tryz.prog 91 #[lgV s sa sk sb sl, pgV p la lk fa fk wa wk] w fun e w' => e = .returned (.bool (dB (Cy.Of p s))) ∧ Below w.heap.size w w' := by
  obtain ⟨W, hW⟩ : ∃ W, W = (w.alloc (.cells (lgA s sa sk sb sl) 33)).alloc (.cells #[.slice la p.bn lk, .slice fa p.on fk, .slice wa p.nn wk] 27) := ⟨_, rfl⟩
  have S0 : Hid (CyW p la lk fa fk wa wk (w.heap.size + 1) w.heap.size s sa sk sb sl w W) := by
    show CyW _ _ _ _ _ _ _ _ _ _ _ _ _ _ _ _
    rw [hW]
    exact ⟨rowN_alloc' (by simp) (pgL p la lk fa fk wa wk) _, nrow_below (rowN_alloc w (lgL s sa sk sb sl) _) (nbel_alloc _ _), (nbel_alloc _ _).alloc (by simp) _⟩
  have H := Lib.hid h
  have HS := Lib.hid hs
  have H2 := Lib.hid h2
  have HS2 := Lib.hid hs2
  have hb1 : p.bn ≤ 1048576 := hs.1.1
  have HW := Lib.hid hW
  clear h hs hW h2 hs2
  obtain ⟨⟨x0, x1, x2⟩, _⟩ := rowN3 S0.out.bp
  rw [HW.out] at x0 x1 x2
  go_enter Tryz.func91, Tryz.ntmps91
  go_wp2_with fail
  rw [← HW.out]
  clear HW x0 x1 x2
  refine (implPRight_any p la lk fa fk wa wk _ (H.out.below S0.out.old) HS.out).mono ?_
  rintro e w1 ⟨rfl, hb⟩
  have S1 := Lib.hid (S0.out.below hb)
  clear hb S0
  by_cases k : Pg.Right p
  · rw [dB_tt k]
    have HR := Lib.hid k
    clear k
    obtain ⟨⟨y0, y1, y2⟩, _⟩ := rowN3 S1.out.bs
    go_wp2_with fail
    clear y0 y1 y2
    refine (kept_any s sa sk sb sl _ (H2.out.below S1.out.old) HS2.out).mono ?_
    rintro e w2 ⟨rfl, hb⟩
    have S2 := Lib.hid (S1.out.below hb)
    clear hb S1
    by_cases k : Cy.Kept s
    · rw [dB_tt k]
      have HKP := Lib.hid k
      clear k
      obtain ⟨⟨x0, x1, x2⟩, _⟩ := rowN3 S2.out.bp
      obtain ⟨⟨y0, y1, y2⟩, _⟩ := rowN3 S2.out.bs
      by_cases k1 : s.n = p.bn
      · have d1' : ((s.n : Int) != (p.bn : Int)) = false := by rw [k1]; simp
        have K1 := Lib.hid k1
        clear k1
        go_wp2_with fail
        clear x0 x1 x2 y0 y1 y2 d1'
        go_loopw [27] (fun iv wr => ∃ (i : Nat), i ≤ p.bn ∧ iv = .int .i64 i ∧ Hid (CyW p la lk fa fk wa wk (w.heap.size + 1) w.heap.size s sa sk sb sl w wr) ∧ Hid (∀ j, j < i → (p.B j).kind ≠ 7 → s.C j = 0)) (fun iv _ => p.bn - (intOf iv).toNat)
        case atStart => exact ⟨0, Nat.zero_le _, rfl, S2, fun j hj => absurd hj (Nat.not_lt_zero _)⟩
        case round =>
          obtain ⟨i, hi, rfl, hS, hP⟩ := hrel
          clear S2
          by_cases hlt : i < p.bn
          · have hltz : (i : Int) < (p.bn : Int) := by omega
            have hlm : i < s.m := by rw [HKP.out.m, K1.out]; exact hlt
            have hlmz : (i : Int) < (s.m : Int) := by omega
            obtain ⟨⟨y0, y1, y2⟩, _⟩ := rowN3 hS.out.bs
            obtain ⟨b, eb, c0, c1, c2, c3⟩ := (H.out.l.below hS.out.old).at_ hlt
            obtain ⟨g, eg, cg⟩ := (H2.out.c.below hS.out.old).at1 hlm
            subst eb eg
            have l0 := hS.out.bs.lt
            have l1 := World.block_lt_of_cell? _ _ cg
            by_cases q : (p.B i).kind = 7
            · have q' : ((p.B i).kind != 7) = false := by simp [q]
              have HP2 : Hid (∀ j, j < i + 1 → (p.B j).kind ≠ 7 → s.C j = 0) := fun j hj hk => by
                by_cases ej : j = i
                · subst ej; exact absurd q hk
                · exact hP.out j (by omega) hk
              clear q hP
              go_wp2_with fail
              go_roundw
              case rel => exact ⟨i + 1, by omega, by go_num, hS.out.below (nbel_alloc _ _), HP2⟩
              case measure => simp [intOf]; omega
            · have q' : ((p.B i).kind != 7) = true := by simp [q]
              by_cases q2 : s.C i = 0
              · have q2' : (s.C i != 0) = false := by simp [q2]
                have HP2 : Hid (∀ j, j < i + 1 → (p.B j).kind ≠ 7 → s.C j = 0) := fun j hj hk => by
                  by_cases ej : j = i
                  · subst ej; exact q2
                  · exact hP.out j (by omega) hk
                clear q q2 hP
                go_wp2_with fail
                go_roundw
                case rel => exact ⟨i + 1, by omega, by go_num, hS.out.below (nbel_alloc _ _), HP2⟩
                case measure => simp [intOf]; omega
              · have q2' : (s.C i != 0) = true := by simp [q2]
                have HK : Hid (dB (Cy.Of p s) = false) := dB_ff (fun z => q2 (z.d i hlt q))
                clear q q2 hP
                go_wp2_with fail
                go_ret
                exact ⟨by rw [HK.out]; rfl, hS.out.old.alloc hS.out.old.size _⟩
          · obtain rfl : i = p.bn := by omega
            have HK : Hid (dB (Cy.Of p s) = true) := dB_tt ⟨HR.out, HKP.out, K1.out, hP.out⟩
            go_wp2_with fail
            go_ret
            exact ⟨by rw [HK.out]; rfl, hS.out.old⟩
      · have d1' : ((s.n : Int) != (p.bn : Int)) = true := by simp; omega
        have d1'' : ((p.bn : Int) != (s.n : Int)) = true := by simp; omega
        have HK : Hid (dB (Cy.Of p s) = false) := dB_ff (fun q => k1 q.n)
        clear k1
        go_wp2_with fail
        go_ret
        exact ⟨by rw [HK.out]; rfl, S2.out.old⟩
    · rw [dB_ff k]
      have HK : Hid (dB (Cy.Of p s) = false) := dB_ff (fun q => k q.k)
      clear k
      go_wp2_with fail
      go_ret
      exact ⟨by rw [HK.out]; rfl, S2.out.old⟩
  · rw [dB_ff k]
    have HK : Hid (dB (Cy.Of p s) = false) := dB_ff (fun q => k q.r)
    clear k
    go_wp2_with fail
    go_ret
    exact ⟨by rw [HK.out]; rfl, S1.out.old⟩
end Go.Proofs.YtgkdnpnnmmpnmaaGreatDoor
