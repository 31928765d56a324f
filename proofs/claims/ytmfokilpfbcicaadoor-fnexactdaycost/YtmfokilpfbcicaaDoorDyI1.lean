/-
  The program's test of days.
-/
import Derived.Test.YtmfokilpfbcicaaDoorDyMath
import Derived.Test.YtmfokilpfbcicaaDoorAw
namespace Go.Proofs.YtmfokilpfbcicaaDoor
open Go.RowKit Go.Deep

theorem dB_of {P : Prop} {b : Bool} (h : b = true ↔ P) : b = dB P := by
  by_cases p : P
  · rw [dB_tt p]; exact h.2 p
  · rw [dB_ff p]
    cases b with
    | false => rfl
    | true => exact absurd (h.1 rfl) p
theorem dyin_any (a : Option Addr) (n cap : Nat) (f : Nat → Int) (m : Int) (w : World) (h : IsAt a n f w) (hn : n ≤ 1048576) :
    Calls Tryd.prog 29 #[.slice a n cap, .int .i64 m] w fun e w' => e = .returned (.bool (dB (Dy.AllIn n f m))) ∧ w' = w := by
  refine (allWithin_raw a n cap f m w h (by omega)).mono ?_
  rintro e w1 ⟨⟨b, rfl, hb⟩, rfl⟩
  exact ⟨by rw [dB_of (P := Dy.AllIn n f m) hb], rfl⟩
set_option maxRecDepth 100000 in
set_option maxHeartbeats 4000000 in
theorem slots_any (n : Dy.Day) (la : Option Addr) (lk : Nat) (fa : Option Addr) (fk : Nat) (wa : Option Addr) (wk : Nat) (w : World) (h : DyAt n la fa wa w) (hs : DySmall n) :
    Calls Tryd.prog 36 #[dyV n la lk fa fk wa wk] w fun e w' => e = .returned (.bool (dB (Dy.SlotsOk n))) ∧ Below w.heap.size w w' := by
  obtain ⟨W, hW⟩ : ∃ W, W = w.alloc (.cells #[.slice la n.mn lk, .slice fa n.wn fk, .slice wa n.pn wk, .int .i64 n.tank, .int .i64 n.low, .int .i64 n.high] 32) := ⟨_, rfl⟩
  have HB : Hid (Below w.heap.size w W) := by show Below _ _ _; rw [hW]; exact nbel_alloc _ _
  have HR : Hid (W.rowIs w.heap.size 32 6 (rowN (dyL n la lk fa fk wa wk))) := by show W.rowIs _ _ _ _; rw [hW]; exact rowN_alloc w _ _
  have H := Lib.hid (h.below HB.out)
  have HS := Lib.hid hs
  have HW := Lib.hid hW
  clear hW h hs
  by_cases c1 : n.wn = 0
  · have HE := Lib.hid (dB_ff (fun x : Dy.SlotsOk n => by have := x.w1; omega))
    have c1' : ((n.wn : Int) == 0) = true := by simp [c1]
    clear c1
    go_enter Tryd.func36, Tryd.ntmps36
    go_wp2_with fail
    rw [← HW.out]
    go_ret
    exact ⟨by rw [HE.out]; rfl, HB.out⟩
  have c1' : ((n.wn : Int) == 0) = false := by simp [c1]
  by_cases c2 : (48 : Int) < (n.wn : Int)
  · have HE := Lib.hid (dB_ff (fun x : Dy.SlotsOk n => by have := x.w2; omega))
    go_enter Tryd.func36, Tryd.ntmps36
    go_wp2_with fail
    rw [← HW.out]
    go_ret
    exact ⟨by rw [HE.out]; rfl, HB.out⟩
  by_cases c3 : n.pn ≠ n.wn
  · have HE := Lib.hid (dB_ff (fun x : Dy.SlotsOk n => c3 x.p))
    have c3' : ((n.pn : Int) != (n.wn : Int)) = true := by simp; omega
    clear c3
    go_enter Tryd.func36, Tryd.ntmps36
    go_wp2_with fail
    rw [← HW.out]
    go_ret
    exact ⟨by rw [HE.out]; rfl, HB.out⟩
  have c3' : ((n.pn : Int) != (n.wn : Int)) = false := by simp; omega
  have HC3 : Hid (n.pn = n.wn) := by show n.pn = n.wn; omega
  clear c3
  go_enter Tryd.func36, Tryd.ntmps36
  go_wp2_with fail
  rw [← HW.out]
  refine (dyin_any fa n.wn fk n.W 1000 _ H.out.f (by omega)).mono ?_
  rintro e w1 ⟨rfl, rfl⟩
  obtain ⟨⟨p0, p1, p2, p3, p4, p5⟩, _⟩ := rowN6 HR.out
  by_cases c4 : Dy.AllIn n.wn n.W 1000
  case neg =>
    rw [dB_ff c4]
    have HE := Lib.hid (dB_ff (fun x : Dy.SlotsOk n => c4 x.ws))
    clear c4
    go_wp2_with fail
    go_ret
    exact ⟨by rw [HE.out]; rfl, HB.out⟩
  rw [dB_tt c4]
  have HC4 := Lib.hid c4
  clear c4
  go_wp2_with fail
  refine (dyin_any wa n.pn wk n.P 1000 _ H.out.w HS.out.2.2).mono ?_
  rintro e w2 ⟨rfl, rfl⟩
  by_cases c5 : Dy.AllIn n.pn n.P 1000
  case neg =>
    rw [dB_ff c5]
    have HE := Lib.hid (dB_ff (fun x : Dy.SlotsOk n => c5 x.ps))
    clear c5
    go_wp2_with fail
    go_ret
    exact ⟨by rw [HE.out]; rfl, HB.out⟩
  rw [dB_tt c5]
  have HE : Hid (dB (Dy.SlotsOk n) = true) := dB_tt ⟨by omega, by omega, HC3.out, HC4.out, c5⟩
  clear c5
  go_wp2_with fail
  go_ret
  exact ⟨by rw [HE.out]; rfl, HB.out⟩
/-- Two numbers of a mode are wrong. -/
def Dy.Bad2 (x y : Int) : Prop := ¬ ((0 ≤ x ∧ x ≤ 300) ∧ (0 ≤ y ∧ y ≤ 1000))
set_option maxRecDepth 100000 in
set_option maxHeartbeats 2000000 in
theorem modebad_any (x y : Int) (w : World) :
    Calls Tryd.prog 46 #[.agg #[.int .i64 x, .int .i64 y]] w fun e w' => e = .returned (.bool (dB (Dy.Bad2 x y))) ∧ Below w.heap.size w w' := by
  obtain ⟨W, hW⟩ : ∃ W, W = w.alloc (.cells #[.int .i64 x, .int .i64 y] 46) := ⟨_, rfl⟩
  have HB : Hid (Below w.heap.size w W) := by show Below _ _ _; rw [hW]; exact nbel_alloc _ _
  have HX : Hid (W.rowIs w.heap.size 46 2 (rowN [.int .i64 x, .int .i64 y])) := by show W.rowIs _ _ _ _; rw [hW]; exact rowN_alloc w _ _
  have HW := Lib.hid hW
  clear hW
  go_enter Tryd.func46, Tryd.ntmps46
  go_wp2_with fail
  rw [← HW.out]
  refine (awithin_any _ _ _).mono ?_
  rintro e w1 ⟨rfl, rfl⟩
  obtain ⟨⟨x0, x1⟩, _⟩ := rowN2 HX.out
  by_cases c1 : 0 ≤ x ∧ x ≤ 300
  case neg =>
    rw [decide_eq_false c1]
    have HE : Hid (dB (Dy.Bad2 x y) = true) := dB_tt (fun h => c1 h.1)
    clear c1
    go_wp2_with fail
    go_ret
    exact ⟨by rw [HE.out]; rfl, HB.out⟩
  rw [decide_eq_true c1]
  go_wp2_with fail
  refine (awithin_any _ _ _).mono ?_
  rintro e w1 ⟨rfl, rfl⟩
  by_cases c2 : 0 ≤ y ∧ y ≤ 1000
  · rw [decide_eq_true c2]
    have HE : Hid (dB (Dy.Bad2 x y) = false) := dB_ff (fun h => h ⟨c1, c2⟩)
    clear c1 c2
    go_wp2_with fail
    go_ret
    exact ⟨by rw [HE.out]; rfl, HB.out⟩
  · rw [decide_eq_false c2]
    have HE : Hid (dB (Dy.Bad2 x y) = true) := dB_tt (fun h => c2 h.2)
    clear c1 c2
    go_wp2_with fail
    go_ret
    exact ⟨by rw [HE.out]; rfl, HB.out⟩
theorem Dy.bad2_iff {n : Dy.Day} {i : Nat} : Dy.Bad2 (n.M (i * 2)) (n.M (i * 2 + 1)) ↔ ¬ Dy.ModeOk n i := Iff.rfl
set_option maxRecDepth 100000 in
set_option maxHeartbeats 2000000 in
theorem dyindex_any (n : Dy.Day) (la : Option Addr) (lk : Nat) (w : World) (h : IsAt la (n.mn * 2) n.M w) (hs : n.mn ≤ 1048576) :
    Calls Tryd.prog 52 #[.slice la n.mn lk, .func (.func 46) #[] #[]] w fun e w' => (∃ z : Int, e = .returned (.int .i64 z) ∧ (0 ≤ z ↔ ¬ ∀ i, i < n.mn → Dy.ModeOk n i)) ∧ Below w.heap.size w w' := by
  have H := Lib.hid h
  clear h
  go_enter Tryd.func52, Tryd.ntmps52
  go_wp2_with fail
  go_loopw [5, 8] (fun _ iv wr => ∃ (i : Nat), i ≤ n.mn ∧ iv = .int .i64 i ∧ Hid (Below w.heap.size w wr) ∧ Hid (∀ j, j < i → Dy.ModeOk n j)) (fun _ iv _ => n.mn - (intOf iv).toNat)
  case atStart => exact ⟨0, Nat.zero_le _, rfl, Below.refl _ _, fun j hj => absurd hj (Nat.not_lt_zero _)⟩
  case round =>
    obtain ⟨i, hi, rfl, hB, hP⟩ := hrel
    by_cases hlt : i < n.mn
    · have hltz : (i : Int) < (n.mn : Int) := by omega
      obtain ⟨b, e, c0, c1⟩ := (H.out.below hB.out).at2 hlt
      subst e
      go_wp2_with fail
      refine (modebad_any _ _ _).mono ?_
      rintro e w1 ⟨rfl, hb⟩
      have HB1 : Hid (Below w.heap.size w w1) := hB.out.trans (hb.mono hB.out.size)
      clear hb c0 c1
      by_cases c : Dy.ModeOk n i
      · rw [dB_ff (fun x => Dy.bad2_iff.1 x c)]
        have HC := Lib.hid c
        clear c
        go_wp2_with fail
        go_roundw
        case rel => exact ⟨i + 1, by omega, by go_num, HB1, fun j hj => by
          by_cases e : j = i
          · subst e; exact HC.out
          · exact hP.out j (by omega)⟩
        case measure => simp [intOf]; omega
      · rw [dB_tt (Dy.bad2_iff.2 c)]
        have HC : Hid (¬ ∀ i, i < n.mn → Dy.ModeOk n i) := fun x => c (x i hlt)
        clear c
        go_wp2_with fail
        go_ret
        exact ⟨⟨_, rfl, ⟨fun _ => HC.out, fun _ => by omega⟩⟩, HB1.out⟩
    · obtain rfl : i = n.mn := by omega
      go_wp2_with fail
      go_ret
      exact ⟨⟨_, rfl, ⟨fun x => absurd x (by omega), fun x => absurd hP.out x⟩⟩, hB.out⟩
set_option maxRecDepth 100000 in
set_option maxHeartbeats 2000000 in
theorem dycontains_any (n : Dy.Day) (la : Option Addr) (lk : Nat) (w : World) (h : IsAt la (n.mn * 2) n.M w) (hs : n.mn ≤ 1048576) :
    Calls Tryd.prog 45 #[.slice la n.mn lk, .func (.func 46) #[] #[]] w fun e w' => e = .returned (.bool (dB (¬ ∀ i, i < n.mn → Dy.ModeOk n i))) ∧ Below w.heap.size w w' := by
  have H := Lib.hid h
  clear h
  go_enter Tryd.func45, Tryd.ntmps45
  go_wp2_with fail
  refine (dyindex_any n la lk _ H.out hs).mono ?_
  rintro e w1 ⟨⟨z, rfl, hz⟩, hb⟩
  have HB := Lib.hid hb
  have HZ := Lib.hid hz
  clear hb hz
  by_cases c : 0 ≤ z
  · have HE := Lib.hid (dB_tt (HZ.out.1 c))
    go_wp2_with fail
    go_ret
    exact ⟨by rw [HE.out]; simp <;> omega, HB.out⟩
  · have HE := Lib.hid (dB_ff (fun x => c (HZ.out.2 x)))
    go_wp2_with fail
    go_ret
    exact ⟨by rw [HE.out]; simp <;> omega, HB.out⟩
set_option maxRecDepth 100000 in
set_option maxHeartbeats 2000000 in
theorem modes_any (n : Dy.Day) (la : Option Addr) (lk : Nat) (w : World) (h : IsAt la (n.mn * 2) n.M w) (hs : n.mn ≤ 1048576) :
    Calls Tryd.prog 37 #[.slice la n.mn lk] w fun e w' => e = .returned (.bool (dB (Dy.ModesOk n))) ∧ Below w.heap.size w w' := by
  have H := Lib.hid h
  clear h
  by_cases c1 : n.mn = 0
  · have HE := Lib.hid (dB_ff (fun x : Dy.ModesOk n => by have := x.m1; omega))
    have c1' : ((n.mn : Int) == 0) = true := by simp [c1]
    clear c1
    go_enter Tryd.func37, Tryd.ntmps37
    go_wp2_with fail
    go_ret
    exact ⟨by rw [HE.out]; rfl, Below.refl _ _⟩
  have c1' : ((n.mn : Int) == 0) = false := by simp [c1]
  by_cases c2 : (6 : Int) < (n.mn : Int)
  · have HE := Lib.hid (dB_ff (fun x : Dy.ModesOk n => by have := x.m2; omega))
    go_enter Tryd.func37, Tryd.ntmps37
    go_wp2_with fail
    go_ret
    exact ⟨by rw [HE.out]; rfl, Below.refl _ _⟩
  go_enter Tryd.func37, Tryd.ntmps37
  go_wp2_with fail
  refine (dycontains_any n la lk _ H.out hs).mono ?_
  rintro e w1 ⟨rfl, hb⟩
  have HB := Lib.hid hb
  clear hb
  by_cases c : ∀ i, i < n.mn → Dy.ModeOk n i
  · rw [dB_ff (fun x => x c)]
    have HE : Hid (dB (Dy.ModesOk n) = true) := dB_tt ⟨by omega, by omega, c⟩
    clear c
    go_wp2_with fail
    go_ret
    exact ⟨by rw [HE.out]; rfl, HB.out⟩
  · rw [dB_tt c]
    have HE : Hid (dB (Dy.ModesOk n) = false) := dB_ff (fun x => c x.ms)
    clear c
    go_wp2_with fail
    go_ret
    exact ⟨by rw [HE.out]; rfl, HB.out⟩
end Go.Proofs.YtmfokilpfbcicaaDoor
