/-
  Right jobs: the program's test and the model's.
-/
import Derived.Test.YtganlipebndeoaaJbMem
import Derived.Test.YtganlipebndeoaaJbRs
namespace Go.Proofs.Ytganlipebndeoaa
open Go.RowKit Go.Deep

/-- A job is right at its place. -/
structure Je.Ok (x : Je) (i : Nat) : Prop where
  d : 1 ≤ x.dy ∧ x.dy ≤ 30
  c : 1 ≤ x.cw ∧ x.cw ≤ 20
  a : Pl.Rising x.an x.A i
  r : Pl.Rising x.rn x.R 100
/-- Right jobs. -/
def JRight (m : Nat) (bs : Nat → Je) : Prop := m ≤ 30 ∧ ∀ i, i < m → (bs i).Ok i
theorem jbel_alloc (w : World) (o : Obj) : Below w.heap.size w (w.alloc o) := (Below.refl _ _).alloc (Nat.le_refl _) o
set_option maxHeartbeats 400000 in
theorem spanHolds_any (lo hi x : Int) (w : World) :
    Calls Try.prog 37 #[.agg #[.int .i64 lo, .int .i64 hi], .int .i64 x] w fun e w' => e = .returned (.bool (dB (lo ≤ x ∧ x ≤ hi))) ∧ Below w.heap.size w w' := by
  by_cases h1 : lo ≤ x
  · by_cases h2 : x ≤ hi
    · rw [dB_tt ⟨h1, h2⟩]
      go_enter Try.func37, Try.ntmps37
      go_wp2_with fail
      go_ret
      exact ⟨rfl, jbel_alloc _ _⟩
    · rw [dB_ff (show ¬ (lo ≤ x ∧ x ≤ hi) from fun h => h2 h.2)]
      go_enter Try.func37, Try.ntmps37
      go_wp2_with fail
      go_ret
      exact ⟨rfl, jbel_alloc _ _⟩
  · rw [dB_ff (show ¬ (lo ≤ x ∧ x ≤ hi) from fun h => h1 h.1)]
    go_enter Try.func37, Try.ntmps37
    go_wp2_with fail
    go_ret
    exact ⟨rfl, jbel_alloc _ _⟩
set_option maxRecDepth 100000 in
set_option maxHeartbeats 2000000 in
theorem jobRight_any (x : Je) (i : Nat) (w : World) (hi : i ≤ 30) (h : JeL x w) (hs : x.an ≤ 1048576 ∧ x.rn ≤ 1048576) :
    Calls Try.prog 25 #[jbV x, .int .i64 i] w fun e w' => e = .returned (.bool (dB (x.Ok i))) ∧ Below w.heap.size w w' := by
  obtain ⟨b, hb⟩ : ∃ b, b = dB (x.Ok i) := ⟨_, rfl⟩
  rw [← hb]
  have HBB := Lib.hid hb
  clear hb
  obtain ⟨W, hW⟩ : ∃ W, W = w.alloc (.cells #[.int .i64 x.dy, .int .i64 x.cw, .slice x.pa x.an x.ak, .slice x.pr x.rn x.rk] 44) := ⟨_, rfl⟩
  have HB : Hid (Below w.heap.size w W) := by show Below _ _ _; rw [hW]; exact nbel_alloc _ _
  have HR : Hid (W.rowIs w.heap.size 44 4 (rowN [.int .i64 x.dy, .int .i64 x.cw, .slice x.pa x.an x.ak, .slice x.pr x.rn x.rk])) := by show W.rowIs _ _ _ _; rw [hW]; exact rowN_alloc w _ _
  have H := Lib.hid (h.below HB.out)
  have HS := Lib.hid hs
  have HW := Lib.hid hW
  clear hW h hs
  have O : Hid (∀ {p q r s : Prop}, (b = dB (x.Ok i)) → ((p = (1 ≤ x.dy ∧ x.dy ≤ 30)) → (q = (1 ≤ x.cw ∧ x.cw ≤ 20)) → (r = Pl.Rising x.an x.A i) → (s = Pl.Rising x.rn x.R 100) → (b = (dB p && dB q && dB r && dB s)))) := by
    intro p q r s hb hp hq hr hs
    subst hp hq hr hs
    rw [hb]
    by_cases c : x.Ok i
    · rw [dB_tt c, dB_tt c.d, dB_tt c.c, dB_tt c.a, dB_tt c.r]; rfl
    · rw [dB_ff c]
      by_cases c1 : 1 ≤ x.dy ∧ x.dy ≤ 30
      · by_cases c2 : 1 ≤ x.cw ∧ x.cw ≤ 20
        · by_cases c3 : Pl.Rising x.an x.A i
          · by_cases c4 : Pl.Rising x.rn x.R 100
            · exact absurd ⟨c1, c2, c3, c4⟩ c
            · rw [dB_ff c4]; simp
          · rw [dB_ff c3]; simp
        · rw [dB_ff c2]; simp
      · rw [dB_ff c1]; simp
  have HO : Hid (b = (dB (1 ≤ x.dy ∧ x.dy ≤ 30) && dB (1 ≤ x.cw ∧ x.cw ≤ 20) && dB (Pl.Rising x.an x.A i) && dB (Pl.Rising x.rn x.R 100))) := O.out HBB.out rfl rfl rfl rfl
  clear O HBB
  obtain ⟨p1, h1⟩ : ∃ p, p = dB (1 ≤ x.dy ∧ x.dy ≤ 30) := ⟨_, rfl⟩
  obtain ⟨p2, h2⟩ : ∃ p, p = dB (1 ≤ x.cw ∧ x.cw ≤ 20) := ⟨_, rfl⟩
  obtain ⟨p3, h3⟩ : ∃ p, p = dB (Pl.Rising x.an x.A i) := ⟨_, rfl⟩
  obtain ⟨p4, h4⟩ : ∃ p, p = dB (Pl.Rising x.rn x.R 100) := ⟨_, rfl⟩
  have HO2 : Hid (b = (p1 && p2 && p3 && p4)) := by show b = _; rw [h1, h2, h3, h4]; exact HO.out
  have C1 : Hid (∀ W0, Calls Try.prog 37 #[.agg #[.int .i64 1, .int .i64 30], .int .i64 x.dy] W0 fun e w' => e = .returned (.bool p1) ∧ Below W0.heap.size W0 w') := fun W0 => by rw [h1]; exact spanHolds_any _ _ _ _
  have C2 : Hid (∀ W0, Calls Try.prog 37 #[.agg #[.int .i64 1, .int .i64 20], .int .i64 x.cw] W0 fun e w' => e = .returned (.bool p2) ∧ Below W0.heap.size W0 w') := fun W0 => by rw [h2]; exact spanHolds_any _ _ _ _
  have C3 : Hid (∀ W0, JeL x W0 → Calls Try.prog 38 #[.slice x.pa x.an x.ak, .int .i64 i] W0 fun e w' => e = .returned (.bool p3) ∧ w' = W0) := fun W0 hj => by rw [h3]; exact prising_any _ _ _ _ i _ hj.1 HS.out.1 (by omega)
  have C4 : Hid (∀ W0, JeL x W0 → Calls Try.prog 38 #[.slice x.pr x.rn x.rk, .int .i64 100] W0 fun e w' => e = .returned (.bool p4) ∧ w' = W0) := fun W0 hj => by rw [h4]; exact prising_any _ _ _ _ 100 _ hj.2 HS.out.2 (by omega)
  clear h1 h2 h3 h4 HO HS
  obtain ⟨⟨a0, a1, a2, a3⟩, _⟩ := rowN4 HR.out
  have la : w.heap.size < W.heap.size := HR.out.lt
  go_enter Try.func25, Try.ntmps25
  go_wp2_with fail
  rw [← HW.out]
  clear HW
  refine (C1.out _).mono ?_
  rintro e w1 ⟨rfl, hb⟩
  replace HR := Lib.hid (nrow_below HR.out hb)
  replace H := Lib.hid (H.out.below hb)
  replace HB : Hid (Below w.heap.size w w1) := HB.out.trans (hb.mono HB.out.size)
  clear a0 a1 a2 a3 la hb
  obtain ⟨⟨a0, a1, a2, a3⟩, _⟩ := rowN4 HR.out
  have la : w.heap.size < w1.heap.size := HR.out.lt
  cases p1 with
  | false =>
    go_wp2_with fail
    go_ret
    exact ⟨by rw [HO2.out]; rfl, HB.out⟩
  | true =>
  go_wp2_with fail
  refine (C2.out _).mono ?_
  rintro e w2 ⟨rfl, hb⟩
  replace HR := Lib.hid (nrow_below HR.out hb)
  replace H := Lib.hid (H.out.below hb)
  replace HB : Hid (Below w.heap.size w w2) := HB.out.trans (hb.mono HB.out.size)
  clear a0 a1 a2 a3 la hb
  obtain ⟨⟨a0, a1, a2, a3⟩, _⟩ := rowN4 HR.out
  have la : w.heap.size < w2.heap.size := HR.out.lt
  cases p2 with
  | false =>
    go_wp2_with fail
    go_ret
    exact ⟨by rw [HO2.out]; rfl, HB.out⟩
  | true =>
  go_wp2_with fail
  refine (C3.out _ H.out).mono ?_
  rintro e w3 ⟨rfl, hb⟩
  subst w3
  cases p3 with
  | false =>
    go_wp2_with fail
    go_ret
    exact ⟨by rw [HO2.out]; rfl, HB.out⟩
  | true =>
  go_wp2_with fail
  refine (C4.out _ H.out).mono ?_
  rintro e w3 ⟨rfl, hb⟩
  subst w3
  go_wp2_with fail
  go_ret
  exact ⟨by rw [HO2.out]; rfl, HB.out⟩
set_option maxRecDepth 100000 in
set_option maxHeartbeats 2000000 in
theorem implJobs_any (a : Option Addr) (m cap : Nat) (bs : Nat → Je) (w : World) (h : JbsAt a m bs w) (hs : JSm m bs) :
    Calls Try.prog 9 #[.slice a m cap] w fun e w' => e = .returned (.bool (dB (JRight m bs))) ∧ Below w.heap.size w w' := by
  by_cases hm : 30 < m
  · have hz : (30 : Int) < (m : Int) := by omega
    rw [dB_ff (show ¬ JRight m bs from fun k => by have := k.1; omega)]
    clear h
    go_enter Try.func9, Try.ntmps9
    go_wp2_with fail
    go_ret
    exact ⟨rfl, Below.refl _ _⟩
  have hz : ¬ (30 : Int) < (m : Int) := by omega
  have H := Lib.hid h
  have HS := Lib.hid hs
  clear h hs
  go_enter Try.func9, Try.ntmps9
  go_wp2_with fail
  go_loopw [3, 4, 10] (fun _ _ iv wr => ∃ (i : Nat), i ≤ m ∧ iv = .int .i64 i ∧ Hid (Below w.heap.size w wr) ∧ Hid (∀ j, j < i → (bs j).Ok j)) (fun _ _ iv _ => m - (intOf iv).toNat)
  case atStart => exact ⟨0, Nat.zero_le _, rfl, Below.refl _ _, fun j hj => absurd hj (Nat.not_lt_zero _)⟩
  case round =>
    obtain ⟨i, hi, rfl, hB, hP⟩ := hrel
    by_cases hlt : i < m
    · have hltz : (i : Int) < (m : Int) := by omega
      obtain ⟨b, rfl, ⟨c0, c1, c2, c3⟩, hL⟩ := (H.out.below hB.out).at_ hlt
      have HL := Lib.hid hL
      have HB2 : Hid (∀ o, Below w.heap.size w (wr.alloc o)) := fun o => hB.out.trans ((nbel_alloc _ _).mono hB.out.size)
      clear hL
      go_wp2_with fail
      refine (jobRight_any (bs i) i _ (by omega) (HL.out.below (nbel_alloc _ _)) (HS.out i hlt)).mono ?_
      rintro e w1 ⟨rfl, hb⟩
      have HB1 : Hid (Below w.heap.size w w1) := (HB2.out _).trans (hb.mono (HB2.out _).size)
      clear hb c0 c1 c2 c3
      by_cases c : (bs i).Ok i
      · rw [dB_tt c]
        have HC := Lib.hid c
        clear c
        go_wp2_with fail
        go_roundw
        case rel => exact ⟨i + 1, by omega, by go_num, HB1, fun j hj => by
          by_cases e : j = i
          · subst e; exact HC.out
          · exact hP.out j (by omega)⟩
        case measure => simp [intOf]; omega
      · rw [dB_ff c]
        have HC : Hid (dB (JRight m bs) = false) := dB_ff (fun k => c (k.2 i hlt))
        clear c
        go_wp2_with fail
        go_ret
        exact ⟨by rw [HC.out]; rfl, HB1.out⟩
    · obtain rfl : i = m := by omega
      go_wp2_with fail
      go_ret
      exact ⟨by rw [dB_tt (show JRight i bs from ⟨by omega, hP.out⟩)]; rfl, hB.out⟩
set_option maxRecDepth 100000 in
set_option maxHeartbeats 4000000 in
theorem specJobs_any (a : Option Addr) (m cap : Nat) (bs : Nat → Je) (w : World) (h : JbsAt a m bs w) (hs : JSm m bs) :
    Calls Try.prog 7 #[.slice a m cap] w fun e w' => e = .returned (.bool (dB (JRight m bs))) ∧ Below w.heap.size w w' := by
  by_cases hm : 30 < m
  · have hz : (30 : Int) < (m : Int) := by omega
    rw [dB_ff (show ¬ JRight m bs from fun k => by have := k.1; omega)]
    clear h
    go_enter Try.func7, Try.ntmps7
    go_wp2_with fail
    go_ret
    exact ⟨rfl, Below.refl _ _⟩
  have hz : ¬ (30 : Int) < (m : Int) := by omega
  have H := Lib.hid h
  have HS := Lib.hid hs
  clear h hs
  go_enter Try.func7, Try.ntmps7
  go_wp2_with fail
  go_loopw [3, 4] (fun iv _ wr => ∃ (i : Nat), i ≤ m ∧ iv = .int .i64 i ∧ Hid (Below w.heap.size w wr) ∧ Hid (∀ j, j < i → (bs j).Ok j)) (fun iv _ _ => m - (intOf iv).toNat)
  case atStart => exact ⟨0, Nat.zero_le _, rfl, Below.refl _ _, fun j hj => absurd hj (Nat.not_lt_zero _)⟩
  case round =>
    obtain ⟨i, hi, rfl, hB, hP⟩ := hrel
    by_cases hlt : i < m
    · have hltz : (i : Int) < (m : Int) := by omega
      obtain ⟨b, rfl, ⟨c0, c1, c2, c3⟩, hL⟩ := (H.out.below hB.out).at_ hlt
      have hsi := HS.out i hlt
      obtain ⟨x, hx⟩ : ∃ x, x = bs i := ⟨_, rfl⟩
      have HX := Lib.hid hx
      rw [← hx] at hL c0 c1 c2 c3 hsi
      obtain ⟨dy, cw, pa, an, ak, A, pr, rn, rk, R⟩ := x
      simp only at c0 c1 c2 c3 hsi
      obtain ⟨W, hW⟩ : ∃ W, W = wr.alloc (.cells #[.int .i64 dy, .int .i64 cw, .slice pa an ak, .slice pr rn rk] 44) := ⟨_, rfl⟩
      have HL : Hid (JeL ⟨dy, cw, pa, an, ak, A, pr, rn, rk, R⟩ W) := by show JeL _ _; rw [hW]; exact hL.below (nbel_alloc _ _)
      have HB2 : Hid (Below w.heap.size w W) := by show Below _ _ _; rw [hW]; exact hB.out.trans ((nbel_alloc _ _).mono hB.out.size)
      have HR : Hid (W.rowIs wr.heap.size 44 4 (rowN [.int .i64 dy, .int .i64 cw, .slice pa an ak, .slice pr rn rk])) := by show W.rowIs _ _ _ _; rw [hW]; exact rowN_alloc wr _ _
      have HW := Lib.hid hW
      have HNO : Hid (¬ (Je.Ok ⟨dy, cw, pa, an, ak, A, pr, rn, rk, R⟩ i) → dB (JRight m bs) = false) := fun c => dB_ff (fun k => c (by rw [HX.out]; exact k.2 i hlt))
      have HYES : Hid (Je.Ok ⟨dy, cw, pa, an, ak, A, pr, rn, rk, R⟩ i → ∀ j, j < i + 1 → (bs j).Ok j) := fun c j hj => by
        by_cases e : j = i
        · subst e; rw [← HX.out]; exact c
        · exact hP.out j (by omega)
      clear hL hW hx HX hB hP
      by_cases k1 : dy < 1
      · have HE := Lib.hid (HNO.out (fun c => by have := c.d.1; simp only at this; omega))
        go_wp2_with fail
        go_ret
        exact ⟨by rw [HE.out]; rfl, by first | exact HB2.out | (rw [← HW.out]; exact HB2.out)⟩
      by_cases k2 : 30 < dy
      · have HE := Lib.hid (HNO.out (fun c => by have := c.d.2; simp only at this; omega))
        go_wp2_with fail
        go_ret
        exact ⟨by rw [HE.out]; rfl, by first | exact HB2.out | (rw [← HW.out]; exact HB2.out)⟩
      by_cases k3 : cw < 1
      · have HE := Lib.hid (HNO.out (fun c => by have := c.c.1; simp only at this; omega))
        go_wp2_with fail
        go_ret
        exact ⟨by rw [HE.out]; rfl, by first | exact HB2.out | (rw [← HW.out]; exact HB2.out)⟩
      by_cases k4 : 20 < cw
      · have HE := Lib.hid (HNO.out (fun c => by have := c.c.2; simp only at this; omega))
        go_wp2_with fail
        go_ret
        exact ⟨by rw [HE.out]; rfl, by first | exact HB2.out | (rw [← HW.out]; exact HB2.out)⟩
      have HD : Hid ((1 ≤ dy ∧ dy ≤ 30) ∧ (1 ≤ cw ∧ cw ≤ 20)) := ⟨⟨by omega, by omega⟩, by omega, by omega⟩
      go_wp2_with fail
      rw [← HW.out]
      refine (srising_any pa an ak A i _ HL.out.1 hsi.1 (by omega)).mono ?_
      rintro e w1 ⟨rfl, hb⟩
      replace HR := Lib.hid (nrow_below HR.out hb)
      replace HL := Lib.hid (HL.out.below hb)
      replace HB2 : Hid (Below w.heap.size w w1) := HB2.out.trans (hb.mono HB2.out.size)
      clear hb HW c0 c1 c2 c3 k1 k2 k3 k4
      obtain ⟨⟨a0, a1, a2, a3⟩, _⟩ := rowN4 HR.out
      have la : wr.heap.size < w1.heap.size := HR.out.lt
      by_cases k5 : Pl.Rising an A i
      · rw [dB_tt k5]
        have HK5 := Lib.hid k5
        clear k5
        by_cases k6 : 100 < rn
        · have k6z : (100 : Int) < (rn : Int) := by omega
          have HE := Lib.hid (HNO.out (fun c => by have := c.r.le; simp only at this; omega))
          go_wp2_with fail
          go_ret
          exact ⟨by rw [HE.out]; rfl, HB2.out⟩
        have k6z : ¬ (100 : Int) < (rn : Int) := by omega
        go_wp2_with fail
        refine (srising_any pr rn rk R 100 _ HL.out.2 hsi.2 (by omega)).mono ?_
        rintro e w2 ⟨rfl, hb⟩
        replace HB2 : Hid (Below w.heap.size w w2) := HB2.out.trans (hb.mono HB2.out.size)
        clear hb a0 a1 a2 a3 la
        by_cases k7 : Pl.Rising rn R 100
        · rw [dB_tt k7]
          have HY := Lib.hid (HYES.out ⟨HD.out.1, HD.out.2, HK5.out, k7⟩)
          clear k7
          go_wp2_with fail
          go_roundw
          case rel => exact ⟨i + 1, by omega, by go_num, HB2, HY.out⟩
          case measure => simp [intOf]; omega
        · rw [dB_ff k7]
          have HE := Lib.hid (HNO.out (fun c => k7 c.r))
          clear k7
          go_wp2_with fail
          go_ret
          exact ⟨by rw [HE.out]; rfl, HB2.out⟩
      · rw [dB_ff k5]
        have HE := Lib.hid (HNO.out (fun c => k5 c.a))
        clear k5
        go_wp2_with fail
        go_ret
        exact ⟨by rw [HE.out]; rfl, HB2.out⟩
    · obtain rfl : i = m := by omega
      go_wp2_with fail
      go_ret
      exact ⟨by rw [dB_tt (show JRight i bs from ⟨by omega, hP.out⟩)]; rfl, hB.out⟩
end Go.Proofs.Ytganlipebndeoaa
