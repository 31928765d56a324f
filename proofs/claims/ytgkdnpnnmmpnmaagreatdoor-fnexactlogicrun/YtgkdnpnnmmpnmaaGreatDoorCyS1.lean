/-
  Cycles: is a Logic right for a program: the model's.
-/
import Derived.Test.YtgkdnpnnmmpnmaaGreatDoorCyM2
import Derived.Test.YtgkdnpnnmmpnmaaGreatDoorPgIs
import Derived.Test.YtgkdnpnnmmpnmaaGreatDoorCySt
namespace Go.Proofs.YtgkdnpnnmmpnmaaGreatDoor
open Go.RowKit Go.Deep

set_option maxRecDepth 100000 in
set_option maxHeartbeats 2000000 in
theorem call_any (a : Option Addr) (m cap : Nat) (f : Nat → Int) (up : Int) (w : World) (h : IsAt a m f w) (hm : m ≤ 1048576) :
    Calls Tryz.prog 68 #[.slice a m cap, .int .i64 0, .int .i64 up] w fun e w' => e = .returned (.bool (dB (∀ i, i < m → 0 ≤ f i ∧ f i ≤ up))) ∧ w' = w := by
  have H := Lib.hid h
  clear h
  go_enter Tryz.func68, Tryz.ntmps68
  go_wp2_with fail
  go_loopw [7] (fun iv wr => ∃ (i : Nat), i ≤ m ∧ iv = .int .i64 i ∧ wr = w ∧ Hid (∀ j, j < i → 0 ≤ f j ∧ f j ≤ up)) (fun iv _ => m - (intOf iv).toNat)
  case atStart => exact ⟨0, Nat.zero_le _, rfl, rfl, fun j hj => absurd hj (Nat.not_lt_zero _)⟩
  case round =>
    obtain ⟨i, hi, rfl, hw, hP⟩ := hrel
    rw [hw]
    clear hw wr
    by_cases hlt : i < m
    · have hltz : (i : Int) < (m : Int) := by omega
      obtain ⟨b, e, c0⟩ := H.out.at1 hlt
      subst e
      by_cases h4 : f i < 0
      · have HK : Hid (dB (∀ i, i < m → 0 ≤ f i ∧ f i ≤ up) = false) := dB_ff (fun k => by have := (k i hlt).1; omega)
        go_wp2_with fail
        go_ret
        exact ⟨by rw [HK.out]; rfl, rfl⟩
      · by_cases h5 : up < f i
        · have HK : Hid (dB (∀ i, i < m → 0 ≤ f i ∧ f i ≤ up) = false) := dB_ff (fun k => by have := (k i hlt).2; omega)
          go_wp2_with fail
          go_ret
          exact ⟨by rw [HK.out]; rfl, rfl⟩
        · go_wp2_with fail
          go_roundw
          case rel =>
            refine ⟨i + 1, by omega, by go_num, (by first | rfl | trivial), fun j hj => ?_⟩
            by_cases ej : j = i
            · subst ej; exact ⟨by omega, by omega⟩
            · exact hP.out j (by omega)
          case measure => simp [intOf]; omega
    · obtain rfl : i = m := by omega
      have HK : Hid (dB (∀ j, j < i → 0 ≤ f j ∧ f j ≤ up) = true) := dB_tt hP.out
      go_wp2_with fail
      go_ret
      exact ⟨by rw [HK.out]; rfl, rfl⟩
theorem cbit_any (b : Bool) (w : World) : Calls Tryz.prog 71 #[.bool b] w fun e w' => e = .returned (.int .i64 (if b = true then 1 else 0)) ∧ w' = w := by
  cases b
  · go_enter Tryz.func71, Tryz.ntmps71
    go_wp2_with fail
    go_ret
    exact ⟨rfl, rfl⟩
  · go_enter Tryz.func71, Tryz.ntmps71
    go_wp2_with fail
    go_ret
    exact ⟨rfl, rfl⟩
/-- What stands in a function of a program and a Logic: their boxes, the old memory. -/
structure CyW (p : Pg.Prog) (la : Option Addr) (lk : Nat) (fa : Option Addr) (fk : Nat) (wa : Option Addr) (wk : Nat) (x y : Nat) (s : Cy.Lg) (sa : Option Addr) (sk : Nat) (sb : Option Addr) (sl : Nat) (w W : World) : Prop where
  bp : W.rowIs x 27 3 (rowN (pgL p la lk fa fk wa wk))
  bs : W.rowIs y 33 3 (rowN (lgL s sa sk sb sl))
  old : Below w.heap.size w W
theorem CyW.below {p : Pg.Prog} {la : Option Addr} {lk : Nat} {fa : Option Addr} {fk : Nat} {wa : Option Addr} {wk : Nat} {x y : Nat} {s : Cy.Lg} {sa : Option Addr} {sk : Nat} {sb : Option Addr} {sl : Nat} {w W W' : World} (h : CyW p la lk fa fk wa wk x y s sa sk sb sl w W) (hb : Below W.heap.size W W') : CyW p la lk fa fk wa wk x y s sa sk sb sl w W' :=
  ⟨nrow_below h.bp hb, nrow_below h.bs hb, h.old.trans (hb.mono h.old.size)⟩
set_option maxRecDepth 100000 in
set_option maxHeartbeats 8000000 in
theorem specOf_cy (p : Pg.Prog) (la : Option Addr) (lk : Nat) (fa : Option Addr) (fk : Nat) (wa : Option Addr) (wk : Nat) (s : Cy.Lg) (sa : Option Addr) (sk : Nat) (sb : Option Addr) (sl : Nat) (w : World) (h : PgAt p la fa wa w) (hs : PgSmall p) (h2 : LgAt s sa sb w) (hs2 : LgSmall s) :
    Calls Tryz.prog 67 #[pgV p la lk fa fk wa wk, lgV s sa sk sb sl] w fun e w' => e = .returned (.bool (dB (Cy.Of p s))) ∧ Below w.heap.size w w' := by
  obtain ⟨W, hW⟩ : ∃ W, W = (w.alloc (.cells #[.slice la p.bn lk, .slice fa p.on fk, .slice wa p.nn wk] 27)).alloc (.cells (lgA s sa sk sb sl) 33) := ⟨_, rfl⟩
  have S0 : Hid (CyW p la lk fa fk wa wk w.heap.size (w.heap.size + 1) s sa sk sb sl w W) := by
    show CyW _ _ _ _ _ _ _ _ _ _ _ _ _ _ _ _
    rw [hW]
    exact ⟨nrow_below (rowN_alloc w _ _) (nbel_alloc _ _), rowN_alloc' (by simp) (lgL s sa sk sb sl) _, (nbel_alloc _ _).alloc (by simp) _⟩
  have H := Lib.hid h
  have HS := Lib.hid hs
  have H2 := Lib.hid h2
  have hb1 : p.bn ≤ 1048576 := hs.1.1
  have hn1 : s.n ≤ 1048576 := hs2.1
  have hm1 : s.m ≤ 1048576 := hs2.2
  have HW := Lib.hid hW
  clear h hs hW h2 hs2
  obtain ⟨⟨x0, x1, x2⟩, _⟩ := rowN3 S0.out.bp
  rw [HW.out] at x0 x1 x2
  go_enter Tryz.func67, Tryz.ntmps67
  go_wp2_with fail
  rw [← HW.out]
  clear HW x0 x1 x2
  refine (specPRight_any p la lk fa fk wa wk _ (H.out.below S0.out.old) HS.out).mono ?_
  rintro e w1 ⟨rfl, hb⟩
  have S1 := Lib.hid (S0.out.below hb)
  clear hb S0
  by_cases k : Pg.Right p
  · rw [dB_tt k]
    have HR := Lib.hid k
    clear k
    obtain ⟨⟨x0, x1, x2⟩, _⟩ := rowN3 S1.out.bp
    obtain ⟨⟨y0, y1, y2⟩, _⟩ := rowN3 S1.out.bs
    by_cases k1 : s.n = p.bn
    · have d1 : ((s.n : Int) == (p.bn : Int)) = true := by rw [k1]; simp
      have d1' : ((s.n : Int) != (p.bn : Int)) = false := by rw [k1]; simp
      have K1 := Lib.hid k1
      clear k1
      by_cases k2 : s.m = p.bn
      · have d2 : ((s.m : Int) == (p.bn : Int)) = true := by rw [k2]; simp
        have d2' : ((s.m : Int) != (p.bn : Int)) = false := by rw [k2]; simp
        have K2 := Lib.hid k2
        clear k2
        go_wp2_with fail
        refine (call_any sa s.n sk s.T 1 _ (H2.out.t.below S1.out.old) hn1).mono ?_
        rintro e w2 ⟨rfl, hw⟩
        rw [hw]
        clear hw w2
        by_cases k3 : ∀ i, i < s.n → 0 ≤ s.T i ∧ s.T i ≤ 1
        · rw [dB_tt k3]
          have K3 := Lib.hid k3
          clear k3
          go_wp2_with fail
          refine (call_any sb s.m sl s.C 101 _ (H2.out.c.below S1.out.old) hm1).mono ?_
          rintro e w2 ⟨rfl, hw⟩
          rw [hw]
          clear hw w2
          by_cases k4 : ∀ i, i < s.m → 0 ≤ s.C i ∧ s.C i ≤ 101
          · rw [dB_tt k4]
            have K4 := Lib.hid k4
            clear k4
            go_wp2_with fail
            clear x0 x1 x2 y0 y1 y2
            go_loopw [5] (fun iv wr => ∃ (i : Nat), i ≤ p.bn ∧ iv = .int .i64 i ∧ Hid (CyW p la lk fa fk wa wk w.heap.size (w.heap.size + 1) s sa sk sb sl w wr) ∧ Hid (∀ j, j < i → (p.B j).kind ≠ 7 → s.C j = 0)) (fun iv _ => p.bn - (intOf iv).toNat)
            case atStart => exact ⟨0, Nat.zero_le _, rfl, S1, fun j hj => absurd hj (Nat.not_lt_zero _)⟩
            case round =>
              obtain ⟨i, hi, rfl, hS, hP⟩ := hrel
              clear S1
              obtain ⟨⟨x0, x1, x2⟩, _⟩ := rowN3 hS.out.bp
              obtain ⟨⟨y0, y1, y2⟩, _⟩ := rowN3 hS.out.bs
              by_cases hlt : i < p.bn
              · have hltz : (i : Int) < (p.bn : Int) := by omega
                have hlm : i < s.m := by rw [K2.out]; exact hlt
                have hlmz : (i : Int) < (s.m : Int) := by omega
                obtain ⟨b, eb, c0, c1, c2, c3⟩ := (H.out.l.below hS.out.old).at_ hlt
                obtain ⟨g, eg, cg⟩ := (H2.out.c.below hS.out.old).at1 hlm
                subst eb eg
                by_cases q : (p.B i).kind = 7
                · have q' : ((p.B i).kind != 7) = false := by simp [q]
                  have HP2 : Hid (∀ j, j < i + 1 → (p.B j).kind ≠ 7 → s.C j = 0) := fun j hj hk => by
                    by_cases ej : j = i
                    · subst ej; exact absurd q hk
                    · exact hP.out j (by omega) hk
                  clear q hP
                  go_wp2_with fail
                  go_roundw
                  case rel => exact ⟨i + 1, by omega, by go_num, hS, HP2⟩
                  case measure => simp [intOf]; omega
                · have q' : ((p.B i).kind != 7) = true := by simp [q]
                  by_cases q2 : s.C i = 0
                  · have q2' : (s.C i != 0) = false := by simp [q2]
                    have HP2 : Hid (∀ j, j < i + 1 → (p.B j).kind ≠ 7 → s.C j = 0) := fun j hj hk => by
                      by_cases ej : j = i
                      · subst ej; exact q2
                      · exact hP.out j (by omega) hk
                    clear q q2 hP
                    go_wp2_with fail
                    go_roundw
                    case rel => exact ⟨i + 1, by omega, by go_num, hS, HP2⟩
                    case measure => simp [intOf]; omega
                  · have q2' : (s.C i != 0) = true := by simp [q2]
                    have HK : Hid (dB (Cy.Of p s) = false) := dB_ff (fun z => q2 (z.d i hlt q))
                    clear q q2 hP
                    go_wp2_with fail
                    go_ret
                    exact ⟨by rw [HK.out]; rfl, hS.out.old⟩
              · obtain rfl : i = p.bn := by omega
                have HK : Hid (dB (Cy.Of p s) = true) := dB_tt ⟨HR.out, ⟨by rw [K1.out]; exact HR.out.n, by rw [K1.out, K2.out], K3.out, K4.out⟩, K1.out, hP.out⟩
                go_wp2_with fail
                go_ret
                exact ⟨by rw [HK.out]; rfl, hS.out.old⟩
          · rw [dB_ff k4]
            have HK : Hid (dB (Cy.Of p s) = false) := dB_ff (fun q => k4 q.k.c)
            clear k4
            go_wp2_with fail
            go_ret
            exact ⟨by rw [HK.out]; rfl, S1.out.old⟩
        · rw [dB_ff k3]
          have HK : Hid (dB (Cy.Of p s) = false) := dB_ff (fun q => k3 q.k.t)
          clear k3
          go_wp2_with fail
          go_ret
          exact ⟨by rw [HK.out]; rfl, S1.out.old⟩
      · have d2 : ((s.m : Int) == (p.bn : Int)) = false := by simp; omega
        have d2' : ((s.m : Int) != (p.bn : Int)) = true := by simp; omega
        have HK : Hid (dB (Cy.Of p s) = false) := dB_ff (fun q => k2 (q.k.m.trans q.n))
        clear k2
        go_wp2_with fail
        go_ret
        exact ⟨by rw [HK.out]; rfl, S1.out.old⟩
    · have d1 : ((s.n : Int) == (p.bn : Int)) = false := by simp; omega
      have d1' : ((s.n : Int) != (p.bn : Int)) = true := by simp; omega
      have HK : Hid (dB (Cy.Of p s) = false) := dB_ff (fun q => k1 q.n)
      clear k1
      go_wp2_with fail
      go_ret
      exact ⟨by rw [HK.out]; rfl, S1.out.old⟩
  · rw [dB_ff k]
    have HK : Hid (dB (Cy.Of p s) = false) := dB_ff (fun q => k q.r)
    clear k
    go_wp2_with fail
    go_ret
    exact ⟨by rw [HK.out]; rfl, S1.out.old⟩
end Go.Proofs.YtgkdnpnnmmpnmaaGreatDoor
