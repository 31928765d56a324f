/-
  AssetsRight: the program's and the model's.
-/
import Derived.Test.YtbkpedcabbppbaaDoorRnMem
import Derived.Deep.QuietTactic
namespace Go.Proofs.YtbkpedcabbppbaaDoor
open Go.RowKit Go.Deep

/-- One right asset. -/
def Rn.AsOk (x y : Int) : Prop := (1 ≤ x ∧ x ≤ 300) ∧ (0 ≤ y ∧ y ≤ 1000)
theorem rwithin_any (n most : Int) (w : World) :
    Calls Tryd.prog 63 #[.int .i64 n, .int .i64 most] w fun e w' => e = .returned (.bool (decide (0 ≤ n ∧ n ≤ most))) ∧ w' = w := by
  go_enter Tryd.func63, Tryd.ntmps63
  go_wp2_with fail
  all_goals
    go_ret
    exact ⟨by congr 2; simp <;> omega, rfl⟩
set_option maxRecDepth 100000 in
theorem rholds_any (lo hi n : Int) (w : World) :
    Calls Tryd.prog 68 #[.agg #[.int .i64 lo, .int .i64 hi], .int .i64 n] w fun e w' => e = .returned (.bool (decide (lo ≤ n ∧ n ≤ hi))) ∧ Below w.heap.size w w' := by
  go_enter Tryd.func68, Tryd.ntmps68
  go_wp2_with fail
  all_goals
    go_ret
    exact ⟨by congr 2; simp <;> omega, nbel_alloc _ _⟩
set_option maxRecDepth 100000 in
set_option maxHeartbeats 2000000 in
theorem asbad_any (x y : Int) (w : World) :
    Calls Tryd.prog 67 #[.agg #[.int .i64 x, .int .i64 y]] w fun e w' => e = .returned (.bool (dB (¬ Rn.AsOk x y))) ∧ Below w.heap.size w w' := by
  obtain ⟨W, hW⟩ : ∃ W, W = w.alloc (.cells #[.int .i64 x, .int .i64 y] 53) := ⟨_, rfl⟩
  have HB : Hid (Below w.heap.size w W) := by show Below _ _ _; rw [hW]; exact nbel_alloc _ _
  have HX : Hid (W.rowIs w.heap.size 53 2 (rowN [.int .i64 x, .int .i64 y])) := by show W.rowIs _ _ _ _; rw [hW]; exact rowN_alloc w _ _
  have HW := Lib.hid hW
  clear hW
  go_enter Tryd.func67, Tryd.ntmps67
  go_wp2_with fail
  rw [← HW.out]
  clear HW
  refine (rholds_any _ _ _ _).mono ?_
  rintro e w1 ⟨rfl, hb⟩
  replace HX := Lib.hid (nrow_below HX.out hb)
  replace HB : Hid (Below w.heap.size w w1) := HB.out.trans (hb.mono HB.out.size)
  clear hb
  obtain ⟨⟨x0, x1⟩, _⟩ := rowN2 HX.out
  by_cases c1 : 1 ≤ x ∧ x ≤ 300
  case neg =>
    rw [decide_eq_false c1]
    have HE : Hid (dB (¬ Rn.AsOk x y) = true) := dB_tt (fun h => c1 h.1)
    clear c1
    go_wp2_with fail
    go_ret
    exact ⟨by rw [HE.out]; rfl, HB.out⟩
  rw [decide_eq_true c1]
  go_wp2_with fail
  refine (rwithin_any _ _ _).mono ?_
  rintro e w1 ⟨rfl, rfl⟩
  by_cases c2 : 0 ≤ y ∧ y ≤ 1000
  · rw [decide_eq_true c2]
    have HE : Hid (dB (¬ Rn.AsOk x y) = false) := dB_ff (fun h => h ⟨c1, c2⟩)
    clear c1 c2
    go_wp2_with fail
    go_ret
    exact ⟨by rw [HE.out]; rfl, HB.out⟩
  · rw [decide_eq_false c2]
    have HE : Hid (dB (¬ Rn.AsOk x y) = true) := dB_tt (fun h => c2 h.2)
    clear c1 c2
    go_wp2_with fail
    go_ret
    exact ⟨by rw [HE.out]; rfl, HB.out⟩
set_option maxRecDepth 100000 in
set_option maxHeartbeats 2000000 in
theorem asindex_any (a : Option Addr) (n cap : Nat) (f : Nat → Int) (w : World) (h : IsAt a (n * 2) f w) (hs : n ≤ 1048576) :
    Calls Tryd.prog 74 #[.slice a n cap, .func (.func 67) #[] #[]] w fun e w' => (∃ z : Int, e = .returned (.int .i64 z) ∧ (0 ≤ z ↔ ¬ ∀ i, i < n → Rn.AsOk (f (i * 2)) (f (i * 2 + 1)))) ∧ Below w.heap.size w w' := by
  have H := Lib.hid h
  clear h
  go_enter Tryd.func74, Tryd.ntmps74
  go_wp2_with fail
  go_loopw [5, 8] (fun _ iv wr => ∃ (i : Nat), i ≤ n ∧ iv = .int .i64 i ∧ Hid (Below w.heap.size w wr) ∧ Hid (∀ j, j < i → Rn.AsOk (f (j * 2)) (f (j * 2 + 1)))) (fun _ iv _ => n - (intOf iv).toNat)
  case atStart => exact ⟨0, Nat.zero_le _, rfl, Below.refl _ _, fun j hj => absurd hj (Nat.not_lt_zero _)⟩
  case round =>
    obtain ⟨i, hi, rfl, hB, hP⟩ := hrel
    by_cases hlt : i < n
    · have hltz : (i : Int) < (n : Int) := by omega
      obtain ⟨b, e, c0, c1⟩ := (H.out.below hB.out).at2 hlt
      subst e
      go_wp2_with fail
      refine (asbad_any _ _ _).mono ?_
      rintro e w1 ⟨rfl, hb⟩
      have HB1 : Hid (Below w.heap.size w w1) := hB.out.trans (hb.mono hB.out.size)
      clear hb c0 c1
      by_cases c : Rn.AsOk (f (i * 2)) (f (i * 2 + 1))
      · rw [dB_ff (fun x => x c)]
        have HC := Lib.hid c
        clear c
        go_wp2_with fail
        go_roundw
        case rel => exact ⟨i + 1, by omega, by go_num, HB1, fun j hj => by
          by_cases e : j = i
          · subst e; exact HC.out
          · exact hP.out j (by omega)⟩
        case measure => simp [intOf]; omega
      · rw [dB_tt c]
        have HC : Hid (¬ ∀ i, i < n → Rn.AsOk (f (i * 2)) (f (i * 2 + 1))) := fun x => c (x i hlt)
        clear c
        go_wp2_with fail
        go_ret
        exact ⟨⟨_, rfl, ⟨fun _ => HC.out, fun _ => by omega⟩⟩, HB1.out⟩
    · obtain rfl : i = n := by omega
      go_wp2_with fail
      go_ret
      exact ⟨⟨_, rfl, ⟨fun x => absurd x (by omega), fun x => absurd hP.out x⟩⟩, hB.out⟩
set_option maxRecDepth 100000 in
set_option maxHeartbeats 2000000 in
theorem ascontains_any (a : Option Addr) (n cap : Nat) (f : Nat → Int) (w : World) (h : IsAt a (n * 2) f w) (hs : n ≤ 1048576) :
    Calls Tryd.prog 66 #[.slice a n cap, .func (.func 67) #[] #[]] w fun e w' => e = .returned (.bool (dB (¬ ∀ i, i < n → Rn.AsOk (f (i * 2)) (f (i * 2 + 1))))) ∧ Below w.heap.size w w' := by
  have H := Lib.hid h
  clear h
  go_enter Tryd.func66, Tryd.ntmps66
  go_wp2_with fail
  refine (asindex_any a n cap f _ H.out hs).mono ?_
  rintro e w1 ⟨⟨z, rfl, hz⟩, hb⟩
  have HB := Lib.hid hb
  have HZ := Lib.hid hz
  clear hb hz
  by_cases c : 0 ≤ z
  · have HE := Lib.hid (dB_tt (HZ.out.1 c))
    go_wp2_with fail
    go_ret
    exact ⟨by rw [HE.out]; simp <;> omega, HB.out⟩
  · have HE := Lib.hid (dB_ff (fun x => c (HZ.out.2 x)))
    go_wp2_with fail
    go_ret
    exact ⟨by rw [HE.out]; simp <;> omega, HB.out⟩
set_option maxRecDepth 100000 in
set_option maxHeartbeats 2000000 in
theorem implAssets_any (a : Option Addr) (n cap : Nat) (f : Nat → Int) (w : World) (h : IsAt a (n * 2) f w) (hs : n ≤ 1048576) :
    Calls Tryd.prog 54 #[.slice a n cap] w fun e w' => e = .returned (.bool (dB (Rn.Right n f))) ∧ Below w.heap.size w w' := by
  have H := Lib.hid h
  clear h
  by_cases c1 : (n : Int) ≤ 40
  case neg =>
    have HE := Lib.hid (dB_ff (fun x : Rn.Right n f => by have := x.1; omega))
    go_enter Tryd.func54, Tryd.ntmps54
    go_wp2_with fail
    go_ret
    exact ⟨by rw [HE.out]; rfl, Below.refl _ _⟩
  go_enter Tryd.func54, Tryd.ntmps54
  go_wp2_with fail
  refine (ascontains_any a n cap f _ H.out hs).mono ?_
  rintro e w1 ⟨rfl, hb⟩
  have HB := Lib.hid hb
  clear hb
  by_cases c : ∀ i, i < n → Rn.AsOk (f (i * 2)) (f (i * 2 + 1))
  · rw [dB_ff (fun x => x c)]
    have HE : Hid (dB (Rn.Right n f) = true) := dB_tt ⟨by omega, c⟩
    clear c
    go_wp2_with fail
    go_ret
    exact ⟨by rw [HE.out]; rfl, HB.out⟩
  · rw [dB_tt c]
    have HE : Hid (dB (Rn.Right n f) = false) := dB_ff (fun x => c x.2)
    clear c
    go_wp2_with fail
    go_ret
    exact ⟨by rw [HE.out]; rfl, HB.out⟩
set_option maxRecDepth 100000 in
set_option maxHeartbeats 2000000 in
theorem rright_any (a : Option Addr) (n cap : Nat) (f : Nat → Int) (z : Int) (w : World) (h : IsAt a (n * 2) f w) (hs : n ≤ 1048576) :
    Calls Tryd.prog 46 #[.slice a n cap, .int .i64 z] w fun e w' => e = .returned (.bool (dB (Rn.Right n f ∧ Rn.BudOk z))) ∧ Below w.heap.size w w' := by
  have H := Lib.hid h
  clear h
  go_enter Tryd.func46, Tryd.ntmps46
  go_wp2_with fail
  refine (implAssets_any a n cap f _ H.out hs).mono ?_
  rintro e w1 ⟨rfl, hb⟩
  have HB := Lib.hid hb
  clear hb
  by_cases c : Rn.Right n f
  case neg =>
    rw [dB_ff c]
    have HE := Lib.hid (dB_ff (fun x : Rn.Right n f ∧ Rn.BudOk z => c x.1))
    clear c
    go_wp2_with fail
    go_ret
    exact ⟨by rw [HE.out]; rfl, HB.out⟩
  rw [dB_tt c]
  have HC := Lib.hid c
  clear c
  go_wp2_with fail
  refine (rwithin_any _ _ _).mono ?_
  rintro e w2 ⟨rfl, rfl⟩
  by_cases c : 0 ≤ z ∧ z ≤ 300
  · rw [decide_eq_true c]
    have HE := Lib.hid (dB_tt (show Rn.Right n f ∧ Rn.BudOk z from ⟨HC.out, c⟩))
    clear c
    go_wp2_with fail
    go_ret
    exact ⟨by rw [HE.out]; rfl, HB.out⟩
  · rw [decide_eq_false c]
    have HE := Lib.hid (dB_ff (fun x : Rn.Right n f ∧ Rn.BudOk z => c x.2))
    clear c
    go_wp2_with fail
    go_ret
    exact ⟨by rw [HE.out]; rfl, HB.out⟩
set_option maxRecDepth 100000 in
set_option maxHeartbeats 4000000 in
theorem specAssets_any (a : Option Addr) (n cap : Nat) (f : Nat → Int) (w : World) (h : IsAt a (n * 2) f w) (hs : n ≤ 1048576) :
    Calls Tryd.prog 31 #[.slice a n cap] w fun e w' => e = .returned (.bool (dB (Rn.Right n f))) ∧ Below w.heap.size w w' := by
  have H := Lib.hid h
  clear h
  by_cases c1 : (40 : Int) < (n : Int)
  · have HE := Lib.hid (dB_ff (fun x : Rn.Right n f => by have := x.1; omega))
    go_enter Tryd.func31, Tryd.ntmps31
    go_wp2_with fail
    go_ret
    exact ⟨by rw [HE.out]; rfl, Below.refl _ _⟩
  go_enter Tryd.func31, Tryd.ntmps31
  go_wp2_with fail
  go_loopw [3] (fun iv wr => ∃ (i : Nat), i ≤ n ∧ iv = .int .i64 i ∧ Hid (Below w.heap.size w wr) ∧ Hid (∀ j, j < i → Rn.AsOk (f (j * 2)) (f (j * 2 + 1)))) (fun iv _ => n - (intOf iv).toNat)
  case atStart => exact ⟨0, Nat.zero_le _, rfl, Below.refl _ _, fun j hj => absurd hj (Nat.not_lt_zero _)⟩
  case round =>
    obtain ⟨i, hi, rfl, hB, hP⟩ := hrel
    by_cases hlt : i < n
    · have hltz : (i : Int) < (n : Int) := by omega
      obtain ⟨b, e, c0, c1⟩ := (H.out.below hB.out).at2 hlt
      subst e
      by_cases c : Rn.AsOk (f (i * 2)) (f (i * 2 + 1))
      · obtain ⟨⟨h1, h2⟩, h3, h4⟩ := c
        have HC : Hid (Rn.AsOk (f (i * 2)) (f (i * 2 + 1))) := ⟨⟨h1, h2⟩, h3, h4⟩
        have e1 : ¬ f (i * 2) < 1 := by omega
        have e2 : ¬ (300 : Int) < f (i * 2) := by omega
        have e3 : ¬ f (i * 2 + 1) < 0 := by omega
        have e4 : ¬ (1000 : Int) < f (i * 2 + 1) := by omega
        clear h1 h2 h3 h4
        go_wp2_with fail
        go_roundw
        case rel => exact ⟨i + 1, by omega, by go_num, hB, fun j hj => by
          by_cases e : j = i
          · subst e; exact HC.out
          · exact hP.out j (by omega)⟩
        case measure => simp [intOf]; omega
      · have HE := Lib.hid (dB_ff (fun x : Rn.Right n f => c (x.2 i hlt)))
        have hc : f (i * 2) < 1 ∨ (¬ f (i * 2) < 1 ∧ 300 < f (i * 2)) ∨ (¬ f (i * 2) < 1 ∧ ¬ 300 < f (i * 2) ∧ f (i * 2 + 1) < 0) ∨ (¬ f (i * 2) < 1 ∧ ¬ 300 < f (i * 2) ∧ ¬ f (i * 2 + 1) < 0 ∧ 1000 < f (i * 2 + 1)) := by
          unfold Rn.AsOk at c
          omega
        clear c
        rcases hc with h1 | ⟨h1, h2⟩ | ⟨h1, h2, h3⟩ | ⟨h1, h2, h3, h4⟩
        all_goals
          go_wp2_with fail
          go_ret
          exact ⟨by rw [HE.out]; rfl, hB.out⟩
    · obtain rfl : i = n := by omega
      go_wp2_with fail
      go_ret
      exact ⟨by rw [dB_tt (show Rn.Right i f from ⟨by omega, hP.out⟩)]; rfl, hB.out⟩
end Go.Proofs.YtbkpedcabbppbaaDoor
