/-
  The program's test of plans.
-/
import Derived.Test.YtipmjobhegpdgaaGreatDoorPlMath
import Derived.Test.YtipmjobhegpdgaaGreatDoorAw
namespace Go.Proofs.YtipmjobhegpdgaaGreatDoor
open Go.RowKit Go.Deep

set_option maxHeartbeats 400000 in
theorem pwithin_any (x m : Int) (w : World) :
    Calls Tryz.prog 74 #[.int .i64 x, .int .i64 m] w fun e w' => e = .returned (.bool (dB (0 ≤ x ∧ x ≤ m))) ∧ w' = w := by
  by_cases h1 : 0 ≤ x
  · by_cases h2 : x ≤ m
    · rw [dB_tt ⟨h1, h2⟩]
      go_enter Tryz.func74, Tryz.ntmps74
      go_wp2_with fail
      go_ret
      exact ⟨rfl, rfl⟩
    · rw [dB_ff (show ¬ (0 ≤ x ∧ x ≤ m) from fun h => h2 h.2)]
      go_enter Tryz.func74, Tryz.ntmps74
      go_wp2_with fail
      go_ret
      exact ⟨rfl, rfl⟩
  · rw [dB_ff (show ¬ (0 ≤ x ∧ x ≤ m) from fun h => h1 h.1)]
    go_enter Tryz.func74, Tryz.ntmps74
    go_wp2_with fail
    go_ret
    exact ⟨rfl, rfl⟩
theorem pflows_any (a : Option Addr) (n cap : Nat) (f : Nat → Int) (w : World) (h : IsAt a n f w) (hn : n ≤ 1048576) :
    Calls Tryz.prog 70 #[.slice a n cap] w fun e w' => e = .returned (.bool (dB (Pl.FlowsOk n f))) ∧ w' = w := by
  refine (flows_raw a n cap f w h (by omega)).mono ?_
  rintro e w1 ⟨⟨b, rfl, hb⟩, rfl⟩
  refine ⟨?_, rfl⟩
  by_cases c : Pl.FlowsOk n f
  · rw [dB_tt c, hb.2 c]
  · rw [dB_ff c]
    cases b with
    | false => rfl
    | true => exact absurd (hb.1 rfl) c
/-- The number behind which the next must come. -/
def Pl.lastOf (f : Nat → Int) (i : Nat) : Int := if i = 0 then -1 else f (i - 1)
set_option maxHeartbeats 1000000 in
theorem prising_any (a : Option Addr) (n cap : Nat) (f : Nat → Int) (top : Nat) (w : World) (h : IsAt a n f w) (hn : n ≤ 1048576) (ht : top ≤ 1048576) :
    Calls Tryz.prog 71 #[.slice a n cap, .int .i64 top] w fun e w' => e = .returned (.bool (dB (Pl.Rising n f top))) ∧ w' = w := by
  have H := Lib.hid h
  clear h
  go_enter Tryz.func71, Tryz.ntmps71
  go_wp2_with fail
  go_loopw [5, 7, 10] (fun lv _ iv wr => ∃ (i : Nat), i ≤ n ∧ iv = .int .i64 i ∧ lv = .int .i64 (Pl.lastOf f i) ∧ wr = w ∧ Hid (∀ j, j < i → (0 ≤ f j ∧ f j < top) ∧ (0 < j → f (j - 1) < f j))) (fun _ _ iv _ => n - (intOf iv).toNat)
  case atStart => exact ⟨0, Nat.zero_le _, rfl, rfl, rfl, fun j hj => absurd hj (Nat.not_lt_zero _)⟩
  case round =>
    obtain ⟨i, hi, rfl, rfl, rfl, hP⟩ := hrel
    by_cases hlt : i < n
    · have hltz : (i : Int) < (n : Int) := by omega
      obtain ⟨b, rfl, c0⟩ := H.out.at1 hlt
      have HL : Hid (-1 ≤ Pl.lastOf f i ∧ (0 < i → Pl.lastOf f i = f (i - 1)) ∧ (i = 0 → Pl.lastOf f i = -1)) := by
        unfold Pl.lastOf
        by_cases e : i = 0
        · subst e; exact ⟨by simp, fun h => absurd h (by omega), fun _ => by simp⟩
        · rw [if_neg e]
          exact ⟨by have := (hP.out (i - 1) (by omega)).1.1; omega, fun _ => rfl, fun h => absurd h e⟩
      generalize Pl.lastOf f i = lv at HL ⊢
      by_cases c1 : f i ≤ lv
      · have HE : Hid (dB (Pl.Rising n f top) = false) := dB_ff (fun h => by
          have := h i hlt
          have k := HL.out
          by_cases e : i = 0
          · have := k.2.2 e; omega
          · have := k.2.1 (by omega); omega)
        go_wp2_with fail
        go_ret
        exact ⟨by rw [HE.out]; rfl, rfl⟩
      · by_cases c2 : (top : Int) ≤ f i
        · have HE : Hid (dB (Pl.Rising n f top) = false) := dB_ff (fun h => by have := h i hlt; omega)
          go_wp2_with fail
          go_ret
          exact ⟨by rw [HE.out]; rfl, rfl⟩
        · have HC : Hid ((0 ≤ f i ∧ f i < top) ∧ (0 < i → f (i - 1) < f i)) := by
            have k := HL.out
            exact ⟨by omega, fun h => by have := k.2.1 h; omega⟩
          go_wp2_with fail
          go_roundw
          case rel => exact ⟨i + 1, by omega, by go_num, by simp [Pl.lastOf], by trivial, fun j hj => by
            by_cases e : j = i
            · subst e; exact HC.out
            · exact hP.out j (by omega)⟩
          case measure => simp [intOf]; omega
    · obtain rfl : i = n := by omega
      go_wp2_with fail
      go_ret
      exact ⟨by rw [dB_tt (show Pl.Rising i f top from hP.out)]; rfl, rfl⟩
set_option maxHeartbeats 1000000 in
theorem phas_any (n : Pl.Plan) (la : Option Addr) (lk : Nat) (fa : Option Addr) (fk : Nat) (wa : Option Addr) (wk : Nat) (x : Int) (w : World) :
    Calls Tryz.prog 53 #[plV n la lk fa fk wa wk, .int .i64 x] w fun e w' => e = .returned (.bool (dB (0 ≤ x ∧ x < n.hn))) ∧ Below w.heap.size w w' := by
  by_cases h1 : 0 ≤ x
  · by_cases h2 : x < n.hn
    · rw [dB_tt ⟨h1, h2⟩]
      go_enter Tryz.func53, Tryz.ntmps53
      go_wp2_with fail
      go_ret
      exact ⟨rfl, (Below.refl _ _).alloc (Nat.le_refl _) _⟩
    · rw [dB_ff (show ¬ (0 ≤ x ∧ x < n.hn) from fun h => h2 h.2)]
      go_enter Tryz.func53, Tryz.ntmps53
      go_wp2_with fail
      go_ret
      exact ⟨rfl, (Below.refl _ _).alloc (Nat.le_refl _) _⟩
  · rw [dB_ff (show ¬ (0 ≤ x ∧ x < n.hn) from fun h => h1 h.1)]
    go_enter Tryz.func53, Tryz.ntmps53
    go_wp2_with fail
    go_ret
    exact ⟨rfl, (Below.refl _ _).alloc (Nat.le_refl _) _⟩
/-- Three numbers of a row are wrong. -/
def Pl.Bad3 (h : Nat) (x y z : Int) : Prop := ¬ ((0 ≤ x ∧ x < h) ∧ (0 ≤ y ∧ y < h) ∧ x ≠ y ∧ (0 ≤ z ∧ z ≤ 2))
set_option maxRecDepth 100000 in
set_option maxHeartbeats 2000000 in
theorem prowbad_any (n : Pl.Plan) (la : Option Addr) (lk : Nat) (fa : Option Addr) (fk : Nat) (wa : Option Addr) (wk : Nat) (x y z : Int) (g : Nat) (w : World)
    (hr : w.rowIs g 32 3 (rowN (plL n la lk fa fk wa wk))) :
    Calls Tryz.prog 73 #[.agg #[.int .i64 x, .int .i64 y, .int .i64 z], .pointer (some ⟨g, 0, none⟩)] w fun e w' => e = .returned (.bool (dB (Pl.Bad3 n.hn x y z))) ∧ Below w.heap.size w w' := by
  have HR := Lib.hid hr
  have hg : g < w.heap.size := hr.lt
  clear hr
  obtain ⟨W, hW⟩ : ∃ W, W = w.alloc (.cells #[.int .i64 x, .int .i64 y, .int .i64 z] 61) := ⟨_, rfl⟩
  have HB : Hid (Below w.heap.size w W) := by show Below _ _ _; rw [hW]; exact nbel_alloc _ _
  have HX : Hid (W.rowIs w.heap.size 61 3 (rowN [.int .i64 x, .int .i64 y, .int .i64 z])) := by show W.rowIs _ _ _ _; rw [hW]; exact rowN_alloc w _ _
  have HRW : Hid (W.rowIs g 32 3 (rowN (plL n la lk fa fk wa wk))) := nrow_below HR.out HB.out
  have HW := Lib.hid hW
  obtain ⟨⟨p0, p1, p2⟩, _⟩ := rowN3 HR.out
  clear hW HR
  by_cases c1 : x = y
  · have HE : Hid (dB (Pl.Bad3 n.hn x y z) = true) := dB_tt (fun h => h.2.2.1 c1)
    have c1' : (x == y) = true := by simp [c1]
    subst c1
    go_enter Tryz.func73, Tryz.ntmps73
    go_wp2_with fail
    rw [← HW.out]
    go_ret
    exact ⟨by rw [HE.out]; rfl, HB.out⟩
  · have c1' : (x == y) = false := by simp [c1]
    go_enter Tryz.func73, Tryz.ntmps73
    go_wp2_with fail
    rw [← HW.out]
    refine (phas_any n la lk fa fk wa wk x _).mono ?_
    rintro e w1 ⟨rfl, hb1⟩
    have HB1 : Hid (Below w.heap.size w w1) := HB.out.trans (hb1.mono HB.out.size)
    have HR1 := Lib.hid (nrow_below HRW.out hb1)
    have HX1 := Lib.hid (nrow_below HX.out hb1)
    clear hb1 p0 p1 p2 HRW HX hg
    obtain ⟨⟨p0, p1, p2⟩, _⟩ := rowN3 HR1.out
    obtain ⟨⟨x0, x1, x2⟩, _⟩ := rowN3 HX1.out
    by_cases c2 : 0 ≤ x ∧ x < n.hn
    · rw [dB_tt c2]
      go_wp2_with fail
      refine (phas_any n la lk fa fk wa wk y _).mono ?_
      rintro e w2 ⟨rfl, hb2⟩
      have HB2 : Hid (Below w.heap.size w w2) := HB1.out.trans (hb2.mono HB1.out.size)
      have HX2 := Lib.hid (nrow_below HX1.out hb2)
      clear hb2 p0 p1 p2 x0 x1 x2 HR1 HX1
      obtain ⟨⟨x0, x1, x2⟩, _⟩ := rowN3 HX2.out
      by_cases c3 : 0 ≤ y ∧ y < n.hn
      · rw [dB_tt c3]
        go_wp2_with fail
        refine (pwithin_any _ _ _).mono ?_
        rintro e w3 ⟨rfl, rfl⟩
        by_cases c4 : 0 ≤ z ∧ z ≤ 2
        · rw [dB_tt c4]
          have HE : Hid (dB (Pl.Bad3 n.hn x y z) = false) := dB_ff (fun h => h ⟨c2, c3, c1, c4⟩)
          go_wp2_with fail
          go_ret
          exact ⟨by rw [HE.out]; rfl, HB2.out⟩
        · rw [dB_ff c4]
          have HE : Hid (dB (Pl.Bad3 n.hn x y z) = true) := dB_tt (fun h => c4 h.2.2.2)
          go_wp2_with fail
          go_ret
          exact ⟨by rw [HE.out]; rfl, HB2.out⟩
      · rw [dB_ff c3]
        have HE : Hid (dB (Pl.Bad3 n.hn x y z) = true) := dB_tt (fun h => c3 h.2.1)
        go_wp2_with fail
        go_ret
        exact ⟨by rw [HE.out]; rfl, HB2.out⟩
    · rw [dB_ff c2]
      have HE : Hid (dB (Pl.Bad3 n.hn x y z) = true) := dB_tt (fun h => c2 h.1)
      go_wp2_with fail
      go_ret
      exact ⟨by rw [HE.out]; rfl, HB1.out⟩
theorem Pl.bad3_iff {n : Pl.Plan} {i : Nat} : Pl.Bad3 n.hn (n.R (i * 3)) (n.R (i * 3 + 1)) (n.R (i * 3 + 2)) ↔ ¬ Pl.RowOk n i := Iff.rfl
set_option maxRecDepth 100000 in
set_option maxHeartbeats 2000000 in
theorem pindex_any (n : Pl.Plan) (la : Option Addr) (lk : Nat) (fa : Option Addr) (fk : Nat) (wa : Option Addr) (wk : Nat) (g : Nat) (w : World) (h : IsAt la (n.rn * 3) n.R w) (hs : n.rn ≤ 1048576)
    (hr : w.rowIs g 32 3 (rowN (plL n la lk fa fk wa wk))) :
    Calls Tryz.prog 89 #[.slice la n.rn lk, .func (.func 73) #[] #[.pointer (some ⟨g, 0, none⟩)]] w fun e w' => (∃ z : Int, e = .returned (.int .i64 z) ∧ (0 ≤ z ↔ ¬ ∀ i, i < n.rn → Pl.RowOk n i)) ∧ Below w.heap.size w w' := by
  have H := Lib.hid h
  have HR := Lib.hid hr
  clear h hr
  go_enter Tryz.func89, Tryz.ntmps89
  go_wp2_with fail
  go_loopw [5, 8] (fun _ iv wr => ∃ (i : Nat), i ≤ n.rn ∧ iv = .int .i64 i ∧ Hid (Below w.heap.size w wr) ∧ Hid (∀ j, j < i → Pl.RowOk n j)) (fun _ iv _ => n.rn - (intOf iv).toNat)
  case atStart => exact ⟨0, Nat.zero_le _, rfl, Below.refl _ _, fun j hj => absurd hj (Nat.not_lt_zero _)⟩
  case round =>
    obtain ⟨i, hi, rfl, hB, hP⟩ := hrel
    by_cases hlt : i < n.rn
    · have hltz : (i : Int) < (n.rn : Int) := by omega
      obtain ⟨b, e, c0, c1, c2⟩ := (H.out.below hB.out).at3 hlt
      subst e
      go_wp2_with fail
      refine (prowbad_any n _ lk fa fk wa wk _ _ _ g _ (nrow_below HR.out hB.out)).mono ?_
      rintro e w1 ⟨rfl, hb⟩
      have HB1 : Hid (Below w.heap.size w w1) := hB.out.trans (hb.mono hB.out.size)
      clear hb c0 c1 c2
      by_cases c : Pl.RowOk n i
      · rw [dB_ff (fun x => Pl.bad3_iff.1 x c)]
        have HC := Lib.hid c
        clear c
        go_wp2_with fail
        go_roundw
        case rel => exact ⟨i + 1, by omega, by go_num, HB1, fun j hj => by
          by_cases e : j = i
          · subst e; exact HC.out
          · exact hP.out j (by omega)⟩
        case measure => simp [intOf]; omega
      · rw [dB_tt (Pl.bad3_iff.2 c)]
        have HC : Hid (¬ ∀ i, i < n.rn → Pl.RowOk n i) := fun x => c (x i hlt)
        clear c
        go_wp2_with fail
        go_ret
        exact ⟨⟨_, rfl, ⟨fun _ => HC.out, fun _ => by omega⟩⟩, HB1.out⟩
    · obtain rfl : i = n.rn := by omega
      go_wp2_with fail
      go_ret
      exact ⟨⟨_, rfl, ⟨fun x => absurd x (by omega), fun x => absurd hP.out x⟩⟩, hB.out⟩
set_option maxRecDepth 100000 in
set_option maxHeartbeats 2000000 in
theorem pcontains_any (n : Pl.Plan) (la : Option Addr) (lk : Nat) (fa : Option Addr) (fk : Nat) (wa : Option Addr) (wk : Nat) (g : Nat) (w : World) (h : IsAt la (n.rn * 3) n.R w) (hs : n.rn ≤ 1048576)
    (hr : w.rowIs g 32 3 (rowN (plL n la lk fa fk wa wk))) :
    Calls Tryz.prog 72 #[.slice la n.rn lk, .func (.func 73) #[] #[.pointer (some ⟨g, 0, none⟩)]] w fun e w' => e = .returned (.bool (dB (¬ ∀ i, i < n.rn → Pl.RowOk n i))) ∧ Below w.heap.size w w' := by
  have H := Lib.hid h
  have HR := Lib.hid hr
  clear h hr
  go_enter Tryz.func72, Tryz.ntmps72
  go_wp2_with fail
  refine (pindex_any n la lk fa fk wa wk g _ H.out hs HR.out).mono ?_
  rintro e w1 ⟨⟨z, rfl, hz⟩, hb⟩
  have HB := Lib.hid hb
  have HZ := Lib.hid hz
  clear hb hz
  by_cases c : 0 ≤ z
  · have HE := Lib.hid (dB_tt (HZ.out.1 c))
    go_wp2_with fail
    go_ret
    exact ⟨by rw [HE.out]; simp <;> omega, HB.out⟩
  · have HE := Lib.hid (dB_ff (fun x => c (HZ.out.2 x)))
    go_wp2_with fail
    go_ret
    exact ⟨by rw [HE.out]; simp <;> omega, HB.out⟩
set_option maxRecDepth 100000 in
set_option maxHeartbeats 4000000 in
theorem planRight_any (n : Pl.Plan) (la : Option Addr) (lk : Nat) (fa : Option Addr) (fk : Nat) (wa : Option Addr) (wk : Nat) (w : World) (h : PlAt n la fa wa w) (hs : PlSmall n) :
    Calls Tryz.prog 48 #[plV n la lk fa fk wa wk] w fun e w' => e = .returned (.bool (dB (Pl.Right n))) ∧ Below w.heap.size w w' := by
  obtain ⟨W, hW⟩ : ∃ W, W = w.alloc (.cells #[.slice la n.rn lk, .slice fa n.sn fk, .slice wa n.hn wk] 32) := ⟨_, rfl⟩
  have HB : Hid (Below w.heap.size w W) := by show Below _ _ _; rw [hW]; exact nbel_alloc _ _
  have HR : Hid (W.rowIs w.heap.size 32 3 (rowN (plL n la lk fa fk wa wk))) := by show W.rowIs _ _ _ _; rw [hW]; exact rowN_alloc w _ _
  have H := Lib.hid (h.below HB.out)
  have HS := Lib.hid hs
  have HW := Lib.hid hW
  clear hW h hs
  obtain ⟨⟨p0, p1, p2⟩, _⟩ := rowN3 HR.out
  have hwW : w.heap.size < W.heap.size := HR.out.lt
  by_cases c1 : n.hn = 0
  · have HE := Lib.hid (dB_ff (fun x : Pl.Right n => by have := x.h1; omega))
    have c1' : ((n.hn : Int) == 0) = true := by simp [c1]
    clear c1
    go_enter Tryz.func48, Tryz.ntmps48
    go_wp2_with fail
    rw [← HW.out]
    go_ret
    exact ⟨by rw [HE.out]; rfl, HB.out⟩
  have c1' : ((n.hn : Int) == 0) = false := by simp [c1]
  by_cases c2 : (40 : Int) < (n.hn : Int)
  · have HE := Lib.hid (dB_ff (fun x : Pl.Right n => by have := x.h2; omega))
    go_enter Tryz.func48, Tryz.ntmps48
    go_wp2_with fail
    rw [← HW.out]
    go_ret
    exact ⟨by rw [HE.out]; rfl, HB.out⟩
  go_enter Tryz.func48, Tryz.ntmps48
  go_wp2_with fail
  rw [← HW.out]
  refine (pflows_any wa n.hn wk n.H _ H.out.w (by omega)).mono ?_
  rintro e w1 ⟨rfl, rfl⟩
  by_cases c3 : Pl.FlowsOk n.hn n.H
  · rw [dB_tt c3]
    have HC3 := Lib.hid c3
    clear c3
    by_cases c4 : (100 : Int) < (n.rn : Int)
    · have HE := Lib.hid (dB_ff (fun x : Pl.Right n => by have := x.r; omega))
      go_wp2_with fail
      go_ret
      exact ⟨by rw [HE.out]; rfl, HB.out⟩
    go_wp2_with fail
    refine (prising_any fa n.sn fk n.S n.hn _ H.out.f HS.out.2.1 (by omega)).mono ?_
    rintro e w2 ⟨rfl, rfl⟩
    by_cases c5 : Pl.Rising n.sn n.S n.hn
    · rw [dB_tt c5]
      have HC5 := Lib.hid c5
      clear c5
      go_wp2_with fail
      refine (pcontains_any n la lk fa fk wa wk _ _ H.out.l HS.out.1 HR.out).mono ?_
      rintro e w3 ⟨rfl, hb3⟩
      have HB3 : Hid (Below w.heap.size w w3) := HB.out.trans (hb3.mono HB.out.size)
      clear hb3
      by_cases c6 : ∀ i, i < n.rn → Pl.RowOk n i
      · rw [dB_ff (fun x => x c6)]
        have HE := Lib.hid (dB_tt (show Pl.Right n from ⟨by omega, by omega, HC3.out, by omega, HC5.out, c6⟩))
        clear c6
        go_wp2_with fail
        go_ret
        exact ⟨by rw [HE.out]; rfl, HB3.out⟩
      · rw [dB_tt c6]
        have HE := Lib.hid (dB_ff (fun x : Pl.Right n => c6 x.rows))
        clear c6
        go_wp2_with fail
        go_ret
        exact ⟨by rw [HE.out]; rfl, HB3.out⟩
    · rw [dB_ff c5]
      have HE := Lib.hid (dB_ff (fun x : Pl.Right n => c5 x.s))
      clear c5
      go_wp2_with fail
      go_ret
      exact ⟨by rw [HE.out]; rfl, HB.out⟩
  · rw [dB_ff c3]
    have HE := Lib.hid (dB_ff (fun x : Pl.Right n => c3 x.hs))
    clear c3
    go_wp2_with fail
    go_ret
    exact ⟨by rw [HE.out]; rfl, HB.out⟩
end Go.Proofs.YtipmjobhegpdgaaGreatDoor
