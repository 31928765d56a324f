/-
  The program's test of days, whole.
-/
import Derived.Test.YtmfokilpfbcicaaDoorDyI1
import Derived.Test.YtmfokilpfbcicaaDoorReg
namespace Go.Proofs.YtmfokilpfbcicaaDoor
open Go.RowKit Go.Deep

theorem dywrap {x : Int} (h1 : -9223372036854775808 ≤ x) (h2 : x ≤ 9223372036854775807) : IntKind.i64.wrap x = x := by simp [IntKind.wrap, IntKind.bits, IntKind.signed]; omega
set_option maxHeartbeats 400000 in
theorem dyless_any (x y : Int) (w : World) :
    Calls Tryd.prog 47 #[.int .i64 x, .int .i64 y] w fun e w' => e = .returned (.bool (decide (x < y))) ∧ w' = w := by
  have nan : ∀ (x : Int) (w : World), Calls Tryd.prog 53 #[.int .i64 x] w fun e w' => e = .returned (.bool false) ∧ w' = w := by
    intro x w
    have hx : (x != x) = false := by simp
    go_enter Tryd.func53, Tryd.ntmps53
    go_wp2_with fail
    go_ret
    exact ⟨rfl, rfl⟩
  go_enter Tryd.func47, Tryd.ntmps47
  go_wp2_with fail
  refine (nan _ _).mono ?_
  rintro e w1 ⟨rfl, rfl⟩
  go_wp2_with fail
  go_ret
  exact ⟨rfl, rfl⟩
/-- What a round of the test of order reads. -/
def SoS (w : World) (b j : Nat) (x y : Int) (W : World) : Prop := W.cell? ⟨b, j, none⟩ = some (.int .i64 x) ∧ W.cell? ⟨b, j + 1, none⟩ = some (.int .i64 y) ∧ Below w.heap.size w W
set_option maxRecDepth 100000 in
set_option maxHeartbeats 1000000 in
theorem dysorted_any (a : Option Addr) (n cap : Nat) (f : Nat → Int) (w : World) (h : IsAt a n f w) (hn : n ≤ 1048576) :
    Calls Tryd.prog 38 #[.slice a n cap] w fun e w' => e = .returned (.bool (dB (∀ i, i + 1 < n → f i ≤ f (i + 1)))) ∧ Below w.heap.size w w' := by
  have H := Lib.hid h
  clear h
  go_enter Tryd.func38, Tryd.ntmps38
  go_wp2_with fail
  go_loopw [3] (fun iv wr => ∃ (i : Int), -1 ≤ i ∧ i < n ∧ iv = .int .i64 i ∧ Hid (Below w.heap.size w wr) ∧ Hid (∀ j : Nat, i < (j : Int) + 1 → j + 1 < n → f j ≤ f (j + 1))) (fun iv _ => (intOf iv + 1).toNat)
  case atStart => exact ⟨(n : Int) - 1, by omega, by omega, by go_num, Below.refl _ _, fun j h1 h2 => absurd h2 (by omega)⟩
  case round =>
    obtain ⟨i, hi0, hi, rfl, hB, hP⟩ := hrel
    by_cases hlt : 0 < i
    · obtain ⟨j, rfl⟩ : ∃ j : Nat, i = ((j + 1 : Nat) : Int) := ⟨(i - 1).toNat, by omega⟩
      obtain ⟨b, e, c0⟩ := (H.out.below hB.out).at1 (i := j + 1) (by omega)
      subst e
      obtain ⟨b2, e, c1⟩ := (H.out.below hB.out).at1 (i := j) (by omega)
      simp at e
      subst e
      have HS : Hid (SoS w b j (f j) (f (j + 1)) wr.drew) := ⟨c1, c0, hB.out.drew⟩
      clear c0 c1 hB
      go_wp2_with fail
      refine wp_region_held_drew (S := SoS w b j (f j) (f (j + 1))) (by kernel_rfl) HS.out (fun hHeld => ?_)
      refine take_do (i := 0) (v := (.slice (some ⟨b, 0, none⟩) n cap)) rfl (by kernel_rfl) (by kernel_rfl) (by kernel_rfl) (fun _ _ _ h => h) (by rfl) ?_ (by assumption) ?_
      · intro w hSw
        go_simp
      simp only [Act.put, List.setIfInBounds_toArray, List.set_cons_zero, List.set_cons_succ]
      refine take_do (i := 1) (v := (.int .i64 ((j + 1 : Nat) : Int))) rfl (by kernel_rfl) (by kernel_rfl) (by kernel_rfl) (fun _ _ _ h => h) (by rfl) ?_ (by assumption) ?_
      · intro w hSw
        go_simp
      simp only [Act.put, List.setIfInBounds_toArray, List.set_cons_zero, List.set_cons_succ]
      refine take_do (i := 2) (v := (.pointer (some ⟨b, j + 1, none⟩))) rfl (by kernel_rfl) (by kernel_rfl) (by kernel_rfl) (fun _ _ _ h => h) (by rfl) ?_ (by assumption) ?_
      · intro w hSw
        go_simp
        intro hq
        exfalso
        omega
      simp only [Act.put, List.setIfInBounds_toArray, List.set_cons_zero, List.set_cons_succ]
      refine take_do (i := 3) (v := (.int .i64 (f (j + 1)))) rfl (by kernel_rfl) (by kernel_rfl) (by kernel_rfl) (fun _ _ _ h => h) (by rfl) ?_ (by assumption) ?_
      · intro w hSw
        obtain ⟨c1, c0, _⟩ := hSw
        go_simp
      simp only [Act.put, List.setIfInBounds_toArray, List.set_cons_zero, List.set_cons_succ]
      refine take_do (i := 4) (v := (.slice (some ⟨b, 0, none⟩) n cap)) rfl (by kernel_rfl) (by kernel_rfl) (by kernel_rfl) (fun _ _ _ h => h) (by rfl) ?_ (by assumption) ?_
      · intro w hSw
        go_simp
      simp only [Act.put, List.setIfInBounds_toArray, List.set_cons_zero, List.set_cons_succ]
      refine take_do (i := 5) (v := (.int .i64 ((j + 1 : Nat) : Int))) rfl (by kernel_rfl) (by kernel_rfl) (by kernel_rfl) (fun _ _ _ h => h) (by rfl) ?_ (by assumption) ?_
      · intro w hSw
        go_simp
      simp only [Act.put, List.setIfInBounds_toArray, List.set_cons_zero, List.set_cons_succ]
      refine take_do (i := 6) (v := (.int .i64 (j : Int))) rfl (by kernel_rfl) (by kernel_rfl) (by kernel_rfl) (fun _ _ _ h => h) (by rfl) ?_ (by assumption) ?_
      · intro w hSw
        go_simp
        exact dywrap (by omega) (by omega)
      simp only [Act.put, List.setIfInBounds_toArray, List.set_cons_zero, List.set_cons_succ]
      refine take_do (i := 7) (v := (.pointer (some ⟨b, j, none⟩))) rfl (by kernel_rfl) (by kernel_rfl) (by kernel_rfl) (fun _ _ _ h => h) (by rfl) ?_ (by assumption) ?_
      · intro w hSw
        go_simp
        intro hq
        exfalso
        omega
      simp only [Act.put, List.setIfInBounds_toArray, List.set_cons_zero, List.set_cons_succ]
      refine take_do (i := 8) (v := (.int .i64 (f j))) rfl (by kernel_rfl) (by kernel_rfl) (by kernel_rfl) (fun _ _ _ h => h) (by rfl) ?_ (by assumption) ?_
      · intro w hSw
        obtain ⟨c1, c0, _⟩ := hSw
        go_simp
      simp only [Act.put, List.setIfInBounds_toArray, List.set_cons_zero, List.set_cons_succ]
      refine take_call (i := 9) rfl (by kernel_rfl) (fun K2 hK => ?_)
      go_simp
      refine (dyless_any _ _ _).mono ?_
      rintro e w1 ⟨rfl, rfl⟩
      go_wp2_with fail
      refine hK.out _ _ hHeld (fun hHeld2 => ?_)
      clear hK hHeld
      refine wpAnyH_done (by kernel_rfl) ?_ _
      have HB2 := Lib.hid hHeld2.2.2
      clear hHeld2 HS
      by_cases c : f (j + 1) < f j
      · rw [decide_eq_true c]
        have HE : Hid (dB (∀ i, i + 1 < n → f i ≤ f (i + 1)) = false) := dB_ff (fun x => by have := x j (by omega); omega)
        clear c
        go_wp2_with fail
        go_ret
        exact ⟨by rw [HE.out]; rfl, HB2.out⟩
      · rw [decide_eq_false c]
        have HC : Hid (f j ≤ f (j + 1)) := by show _ ≤ _; omega
        clear c
        go_wp2_with fail
        go_roundw
        case rel => exact ⟨(j : Int), by omega, by omega, by go_num, HB2, fun k h1 h2 => by
          by_cases e : k = j
          · subst e; exact HC.out
          · exact hP.out k (by omega) h2⟩
        case measure => simp [intOf] <;> omega
    · have HE : Hid (dB (∀ i, i + 1 < n → f i ≤ f (i + 1)) = true) := dB_tt (fun j hj => hP.out j (by omega) hj)
      go_wp2_with fail
      go_ret
      exact ⟨by rw [HE.out]; rfl, hB.out⟩
/-- Five numbers in a row. -/
def five (a b c d e : Int) (i : Nat) : Int := if i = 0 then a else if i = 1 then b else if i = 2 then c else if i = 3 then d else e
theorem five_ok (n : Dy.Day) : (∀ i, i + 1 < 5 → five 0 n.low n.tank n.high 300 i ≤ five 0 n.low n.tank n.high 300 (i + 1)) ↔ Dy.TankOk n := by
  constructor
  · intro h
    have h0 := h 0 (by omega)
    have h1 := h 1 (by omega)
    have h2 := h 2 (by omega)
    have h3 := h 3 (by omega)
    simp [five] at h0 h1 h2 h3
    exact ⟨h0, h1, h2, h3⟩
  · rintro ⟨h0, h1, h2, h3⟩ i hi
    have hc : i = 0 ∨ i = 1 ∨ i = 2 ∨ i = 3 := by omega
    rcases hc with rfl | rfl | rfl | rfl
    · simpa [five] using h0
    · simpa [five] using h1
    · simpa [five] using h2
    · simpa [five] using h3
set_option maxRecDepth 100000 in
set_option maxHeartbeats 4000000 in
theorem dayRight_any (n : Dy.Day) (la : Option Addr) (lk : Nat) (fa : Option Addr) (fk : Nat) (wa : Option Addr) (wk : Nat) (w : World) (h : DyAt n la fa wa w) (hs : DySmall n) :
    Calls Tryd.prog 28 #[dyV n la lk fa fk wa wk] w fun e w' => e = .returned (.bool (dB (Dy.Right n))) ∧ Below w.heap.size w w' := by
  obtain ⟨W, hW⟩ : ∃ W, W = w.alloc (.cells #[.slice la n.mn lk, .slice fa n.wn fk, .slice wa n.pn wk, .int .i64 n.tank, .int .i64 n.low, .int .i64 n.high] 32) := ⟨_, rfl⟩
  have HB : Hid (Below w.heap.size w W) := by show Below _ _ _; rw [hW]; exact nbel_alloc _ _
  have HR : Hid (W.rowIs w.heap.size 32 6 (rowN (dyL n la lk fa fk wa wk))) := by show W.rowIs _ _ _ _; rw [hW]; exact rowN_alloc w _ _
  have H := Lib.hid (h.below HB.out)
  have HS := Lib.hid hs
  have HW := Lib.hid hW
  clear hW h hs
  go_enter Tryd.func28, Tryd.ntmps28
  go_wp2_with fail
  rw [← HW.out]
  refine (slots_any n la lk fa fk wa wk _ H.out HS.out).mono ?_
  rintro e w1 ⟨rfl, hb1⟩
  have HB1 : Hid (Below w.heap.size w w1) := HB.out.trans (hb1.mono HB.out.size)
  have HR1 := Lib.hid (nrow_below HR.out hb1)
  have H1 := Lib.hid (H.out.below hb1)
  clear hb1 HB HR H
  obtain ⟨⟨p0, p1, p2, p3, p4, p5⟩, _⟩ := rowN6 HR1.out
  by_cases c1 : Dy.SlotsOk n
  case neg =>
    rw [dB_ff c1]
    have HE := Lib.hid (dB_ff (fun x : Dy.Right n => c1 x.1))
    clear c1
    go_wp2_with fail
    go_ret
    exact ⟨by rw [HE.out]; rfl, HB1.out⟩
  rw [dB_tt c1]
  have HC1 := Lib.hid c1
  clear c1
  go_wp2_with fail
  refine (modes_any n la lk _ H1.out.l HS.out.1).mono ?_
  rintro e w2 ⟨rfl, hb2⟩
  have HB2 : Hid (Below w.heap.size w w2) := HB1.out.trans (hb2.mono HB1.out.size)
  have HR2 := Lib.hid (nrow_below HR1.out hb2)
  clear hb2 HB1 HR1 H1 p0 p1 p2 p3 p4 p5
  obtain ⟨⟨p0, p1, p2, p3, p4, p5⟩, _⟩ := rowN6 HR2.out
  by_cases c2 : Dy.ModesOk n
  case neg =>
    rw [dB_ff c2]
    have HE := Lib.hid (dB_ff (fun x : Dy.Right n => c2 x.2.1))
    clear c2
    go_wp2_with fail
    go_ret
    exact ⟨by rw [HE.out]; rfl, HB2.out⟩
  rw [dB_tt c2]
  have HC2 := Lib.hid c2
  clear c2
  have HZ : Hid (IsAt (some ⟨w2.heap.size, 0, none⟩) 5 (five 0 n.low n.tank n.high 300) (w2.alloc (.cells #[.int .i64 0, .int .i64 n.low, .int .i64 n.tank, .int .i64 n.high, .int .i64 300] 2))) := by
    refine Or.inr ⟨_, rfl, fun j hj => ?_⟩
    have hc : j = 0 ∨ j = 1 ∨ j = 2 ∨ j = 3 ∨ j = 4 := by omega
    obtain ⟨⟨c0, c1, c2, c3, c4⟩, _⟩ := rowN5 (rowN_alloc w2 [.int .i64 0, .int .i64 n.low, .int .i64 n.tank, .int .i64 n.high, .int .i64 300] 2)
    rcases hc with rfl | rfl | rfl | rfl | rfl
    · exact c0
    · exact c1
    · exact c2
    · exact c3
    · exact c4
  have HBZ : Hid (Below w.heap.size w (w2.alloc (.cells #[.int .i64 0, .int .i64 n.low, .int .i64 n.tank, .int .i64 n.high, .int .i64 300] 2))) := HB2.out.alloc HB2.out.size _
  go_wp2_with fail
  refine (dysorted_any _ 5 5 _ _ HZ.out (by omega)).mono ?_
  rintro e w3 ⟨rfl, hb3⟩
  have HB3 : Hid (Below w.heap.size w w3) := HBZ.out.trans (hb3.mono HBZ.out.size)
  clear hb3 HZ HBZ p0 p1 p2 p3 p4 p5
  rw [dB_congr (five_ok n)]
  by_cases c3 : Dy.TankOk n
  · rw [dB_tt c3]
    have HE : Hid (dB (Dy.Right n) = true) := dB_tt ⟨HC1.out, HC2.out, c3⟩
    clear c3
    go_wp2_with fail
    go_ret
    exact ⟨by rw [HE.out]; rfl, HB3.out⟩
  · rw [dB_ff c3]
    have HE : Hid (dB (Dy.Right n) = false) := dB_ff (fun x => c3 x.2.2)
    clear c3
    go_wp2_with fail
    go_ret
    exact ⟨by rw [HE.out]; rfl, HB3.out⟩
end Go.Proofs.YtmfokilpfbcicaaDoor
