/-
  StationRight: the program's.
-/
import Derived.Test.YtdlojhncbgfjbaaGreatDoorLnMem
namespace Go.Proofs.YtdlojhncbgfjbaaGreatDoor
open Go.RowKit Go.Deep

noncomputable def lB (P : Prop) : Bool := @decide P (Classical.propDecidable P)
theorem lB_tt {P : Prop} (h : P) : lB P = true := @decide_eq_true P (Classical.propDecidable P) h
theorem lB_ff {P : Prop} (h : ¬ P) : lB P = false := @decide_eq_false P (Classical.propDecidable P) h
theorem lB_iff {P : Prop} : lB P = true ↔ P := @decide_eq_true_iff P (Classical.propDecidable P)
theorem lwithin_any (n most : Int) (w : World) :
    Calls Tryz.prog 50 #[.int .i64 n, .int .i64 most] w fun e w' => e = .returned (.bool (decide (0 ≤ n ∧ n ≤ most))) ∧ w' = w := by
  go_enter Tryz.func50, Tryz.ntmps50
  go_wp2_with fail
  all_goals
    go_ret
    exact ⟨by congr 2; simp <;> omega, rfl⟩
theorem labout_any (n m : Int) (h0 : 0 ≤ m) (h1 : m ≤ 1000000) (w : World) :
    Calls Tryz.prog 54 #[.int .i64 n, .int .i64 m] w fun e w' => e = .returned (.bool (decide (-m ≤ n ∧ n ≤ m))) ∧ w' = w := by
  go_enter Tryz.func54, Tryz.ntmps54
  go_wp2_with fail
  all_goals
    go_ret
    exact ⟨by congr 2; simp <;> omega, rfl⟩
set_option maxRecDepth 100000 in
theorem lholds_any (lo hi n : Int) (w : World) :
    Calls Tryz.prog 52 #[.agg #[.int .i64 lo, .int .i64 hi], .int .i64 n] w fun e w' => e = .returned (.bool (decide (lo ≤ n ∧ n ≤ hi))) ∧ Below w.heap.size w w' := by
  go_enter Tryz.func52, Tryz.ntmps52
  go_wp2_with fail
  all_goals
    go_ret
    exact ⟨by congr 2; simp <;> omega, nbel_alloc _ _⟩
/-- The block of a station. -/
abbrev stO (s : Ln.S) (a : Option Addr) (k : Nat) : Obj := .cells #[.int .i64 s.unit, .int .i64 s.band, .bool s.seen, .int .i64 s.last, .int .i64 s.next, .slice a s.wait.length k, .int .i64 s.drops] 28
def LastOk (s : Ln.S) : Prop := (-1000000 ≤ s.last ∧ s.last ≤ 1000000) ∧ (s.seen = false → s.last = 0)
set_option maxRecDepth 100000 in
set_option maxHeartbeats 2000000 in
theorem last_any (s : Ln.S) (a : Option Addr) (k : Nat) (w : World) :
    Calls Tryz.prog 51 #[stV s a k] w fun e w' => e = .returned (.bool (lB (LastOk s))) ∧ Below w.heap.size w w' := by
  go_enter Tryz.func51, Tryz.ntmps51
  go_wp2_with fail
  refine (labout_any _ _ (by omega) (by omega) _).mono ?_
  rintro e w1 ⟨rfl, rfl⟩
  by_cases c1 : -1000000 ≤ s.last ∧ s.last ≤ 1000000
  case neg =>
    rw [decide_eq_false c1]
    have HE : Hid (lB (LastOk s) = false) := lB_ff (fun h => c1 h.1)
    clear c1
    go_wp2_with fail
    go_ret
    exact ⟨by rw [HE.out]; rfl, nbel_alloc _ _⟩
  rw [decide_eq_true c1]
  by_cases c2 : s.seen = true
  · have HE : Hid (lB (LastOk s) = true) := lB_tt ⟨c1, fun e => by rw [c2] at e; cases e⟩
    clear c1
    go_wp2_with fail
    go_ret
    exact ⟨by rw [HE.out]; rfl, nbel_alloc _ _⟩
  · have c2' : s.seen = false := by cases h : s.seen <;> simp_all
    clear c2
    by_cases c3 : s.last = 0
    · have HE : Hid (lB (LastOk s) = true) := lB_tt ⟨c1, fun _ => c3⟩
      have c4 : (s.last == 0) = true := by simp [c3]
      clear c1 c3
      go_wp2_with fail
      go_ret
      exact ⟨by rw [HE.out]; rfl, nbel_alloc _ _⟩
    · have HE : Hid (lB (LastOk s) = false) := lB_ff (fun h => c3 (h.2 c2'))
      have c4 : (s.last == 0) = false := by simp [c3]
      clear c1 c3
      go_wp2_with fail
      go_ret
      exact ⟨by rw [HE.out]; rfl, nbel_alloc _ _⟩
def WaitOk (next : Int) (f : Nat → Int) (n : Nat) : Prop := n ≤ 40 ∧ Ln.Wt next f n
set_option maxRecDepth 100000 in
set_option maxHeartbeats 4000000 in
theorem wait_any (a : Option Addr) (n c : Nat) (f : Nat → Int) (next : Int) (w : World) (h : IsIn a (n * 2) f w) (hn : n ≤ 9223372036854775807) :
    Calls Tryz.prog 53 #[.slice a n c, .int .i64 next] w fun e w' => e = .returned (.bool (lB (WaitOk next f n))) ∧ Below w.heap.size w w' := by
  have H := Lib.hid h
  clear h
  by_cases hb : 40 < n
  · have hz : (40 : Int) < (n : Int) := by omega
    have HE : Hid (lB (WaitOk next f n) = false) := lB_ff (fun h => by have := h.1; omega)
    go_enter Tryz.func53, Tryz.ntmps53
    go_wp2_with fail
    go_ret
    exact ⟨by rw [HE.out]; rfl, Below.refl _ _⟩
  have hz : ¬ (40 : Int) < (n : Int) := by omega
  have hn40 : n ≤ 40 := by omega
  clear hb
  go_enter Tryz.func53, Tryz.ntmps53
  go_wp2_with fail
  go_loopw [5, 13] (fun av iv wr => ∃ (i : Nat) (q : Int), i ≤ n ∧ av = .int .i64 q ∧ iv = .int .i64 i ∧ Hid (q = Ln.ah f i) ∧ Hid (Ln.Wt next f i) ∧ Hid (Below w.heap.size w wr)) (fun _ iv _ => n - (intOf iv).toNat)
  case atStart => exact ⟨0, 0, Nat.zero_le _, rfl, rfl, rfl, Ln.Wt.zero _ _, Below.refl _ _⟩
  case round =>
    obtain ⟨i, q, hi, rfl, rfl, hq, hW, hB⟩ := hrel
    by_cases hlt : i < n
    · have hltz : (i : Int) < (n : Int) := by omega
      obtain ⟨b, o, rfl, c0, c1⟩ := (H.out.below hB.out).at2 hlt
      obtain ⟨x, hx⟩ : ∃ x, x = f (i * 2) := ⟨_, rfl⟩
      obtain ⟨y, hy⟩ : ∃ y, y = f (i * 2 + 1) := ⟨_, rfl⟩
      rw [← hx] at c0
      rw [← hy] at c1
      have HX := Lib.hid hx
      have HY := Lib.hid hy
      clear hx hy
      have bad : ¬ (q < x ∧ x < next ∧ -1000000 ≤ y ∧ y ≤ 1000000) → lB (WaitOk next f n) = false := fun hno => lB_ff (fun h => hno (by
        have := h.2 i hlt
        rw [hq.out, HX.out, HY.out]
        exact this))
      have HBAD := Lib.hid bad
      have HB2 : Hid (Below w.heap.size w (wr.alloc (.cells #[.int .i64 x, .int .i64 y] 37))) := hB.out.alloc hB.out.size _
      clear bad
      by_cases k1 : x ≤ q
      · go_wp2_with fail
        go_ret
        exact ⟨by rw [HBAD.out (by omega)]; rfl, HB2.out⟩
      by_cases k2 : next ≤ x
      · go_wp2_with fail
        go_ret
        exact ⟨by rw [HBAD.out (by omega)]; rfl, HB2.out⟩
      go_wp2_with fail
      refine (labout_any _ _ (by omega) (by omega) _).mono ?_
      rintro e w1 ⟨rfl, hw1⟩
      rw [hw1]
      clear hw1 w1
      by_cases k3 : -1000000 ≤ y ∧ y ≤ 1000000
      · rw [decide_eq_true k3]
        have HW2 : Hid (Ln.Wt next f (i + 1)) := hW.out.step (by rw [← hq.out, ← HX.out]; omega) (by rw [← HX.out]; omega) (by rw [← HY.out]; omega) (by rw [← HY.out]; omega)
        have HQ2 : Hid (x = Ln.ah f (i + 1)) := by show _ = _; rw [Ln.ah_succ]; exact HX.out
        clear hq hW hB HBAD
        go_wp2_with fail
        go_roundw
        case rel => exact ⟨i + 1, x, by omega, rfl, by go_num, HQ2, HW2, HB2⟩
        case measure => simp [intOf]; omega
      · rw [decide_eq_false k3]
        have HE := Lib.hid (HBAD.out (fun h => k3 h.2.2))
        clear k3
        go_wp2_with fail
        go_ret
        exact ⟨by rw [HE.out]; rfl, HB2.out⟩
    · obtain rfl : i = n := by omega
      have HE : Hid (lB (WaitOk next f i) = true) := lB_tt ⟨hn40, hW.out⟩
      go_wp2_with fail
      go_ret
      exact ⟨by rw [HE.out]; rfl, hB.out⟩
set_option maxRecDepth 100000 in
set_option maxHeartbeats 4000000 in
theorem implSRight_any (s : Ln.S) (a : Option Addr) (k : Nat) (w : World) (h : IsIn a (s.wait.length * 2) (Ln.fl s.wait) w) (hn : s.wait.length ≤ 9223372036854775807) :
    Calls Tryz.prog 37 #[stV s a k] w fun e w' => e = .returned (.bool (lB s.Right)) ∧ Below w.heap.size w w' := by
  obtain ⟨W, hW⟩ : ∃ W, W = w.alloc (stO s a k) := ⟨_, rfl⟩
  have HB : Hid (Below w.heap.size w W) := by show Below _ _ _; rw [hW]; exact nbel_alloc _ _
  have HX : Hid (W.rowIs w.heap.size 28 7 (rowN (stL s a k))) := by show W.rowIs _ _ _ _; rw [hW]; exact rowN_alloc w (stL s a k) _
  have H := Lib.hid (h.below HB.out)
  have HN := Lib.hid hn
  have HW := Lib.hid hW
  clear hW h hn
  go_enter Tryz.func37, Tryz.ntmps37
  go_wp2_with fail
  refine (lwithin_any _ _ _).mono ?_
  rintro e w1 ⟨rfl, rfl⟩
  rw [← HW.out]
  clear HW
  obtain ⟨⟨x0, x1, x2, x3, x4, x5, x6⟩, _⟩ := rowN7 HX.out
  by_cases c1 : 0 ≤ s.unit ∧ s.unit ≤ 250
  case neg =>
    rw [decide_eq_false c1]
    have HE : Hid (lB s.Right = false) := lB_ff (fun h => c1 h.1.1)
    clear c1
    go_wp2_with fail
    go_ret
    exact ⟨by rw [HE.out]; rfl, HB.out⟩
  rw [decide_eq_true c1]
  go_wp2_with fail
  refine (lwithin_any _ _ _).mono ?_
  rintro e w1 ⟨rfl, rfl⟩
  by_cases c2 : 0 ≤ s.band ∧ s.band ≤ 1000000
  case neg =>
    rw [decide_eq_false c2]
    have HE : Hid (lB s.Right = false) := lB_ff (fun h => c2 h.1.2.1)
    clear c1 c2
    go_wp2_with fail
    go_ret
    exact ⟨by rw [HE.out]; rfl, HB.out⟩
  rw [decide_eq_true c2]
  go_wp2_with fail
  refine (last_any s a k _).mono ?_
  rintro e w2 ⟨rfl, hb⟩
  replace HX := Lib.hid (nrow_below HX.out hb)
  replace H := Lib.hid (H.out.below hb)
  replace HB : Hid (Below w.heap.size w w2) := HB.out.trans (hb.mono HB.out.size)
  clear hb x0 x1 x2 x3 x4 x5 x6
  obtain ⟨⟨x0, x1, x2, x3, x4, x5, x6⟩, _⟩ := rowN7 HX.out
  by_cases c3 : LastOk s
  case neg =>
    rw [lB_ff c3]
    have HE : Hid (lB s.Right = false) := lB_ff (fun h => c3 ⟨h.1.2.2.1, h.1.2.2.2.1⟩)
    clear c1 c2 c3
    go_wp2_with fail
    go_ret
    exact ⟨by rw [HE.out]; rfl, HB.out⟩
  rw [lB_tt c3]
  go_wp2_with fail
  refine (lholds_any _ _ _ _).mono ?_
  rintro e w3 ⟨rfl, hb⟩
  replace HX := Lib.hid (nrow_below HX.out hb)
  replace H := Lib.hid (H.out.below hb)
  replace HB : Hid (Below w.heap.size w w3) := HB.out.trans (hb.mono HB.out.size)
  clear hb x0 x1 x2 x3 x4 x5 x6
  obtain ⟨⟨x0, x1, x2, x3, x4, x5, x6⟩, _⟩ := rowN7 HX.out
  by_cases c4 : 1 ≤ s.next ∧ s.next ≤ 60000
  case neg =>
    rw [decide_eq_false c4]
    have HE : Hid (lB s.Right = false) := lB_ff (fun h => c4 h.1.2.2.2.2.1)
    clear c1 c2 c3 c4
    go_wp2_with fail
    go_ret
    exact ⟨by rw [HE.out]; rfl, HB.out⟩
  rw [decide_eq_true c4]
  go_wp2_with fail
  refine (lwithin_any _ _ _).mono ?_
  rintro e w1 ⟨rfl, rfl⟩
  by_cases c5 : 0 ≤ s.drops ∧ s.drops ≤ 60000
  case neg =>
    rw [decide_eq_false c5]
    have HE : Hid (lB s.Right = false) := lB_ff (fun h => c5 h.1.2.2.2.2.2)
    clear c1 c2 c3 c4 c5
    go_wp2_with fail
    go_ret
    exact ⟨by rw [HE.out]; rfl, HB.out⟩
  rw [decide_eq_true c5]
  go_wp2_with fail
  refine (wait_any a _ k _ s.next _ H.out HN.out).mono ?_
  rintro e w4 ⟨rfl, hb⟩
  replace HB : Hid (Below w.heap.size w w4) := HB.out.trans (hb.mono HB.out.size)
  have HE : Hid (lB (WaitOk s.next (Ln.fl s.wait) s.wait.length) = lB s.Right) := by
    show _ = _
    by_cases q : s.Right
    · rw [lB_tt q]; exact lB_tt q.2
    · rw [lB_ff q]; exact lB_ff (fun h => q ⟨⟨c1, c2, c3.1, c3.2, c4, c5⟩, h⟩)
  clear hb x0 x1 x2 x3 x4 x5 x6 c1 c2 c3 c4 c5
  rw [HE.out]
  obtain ⟨b, hb0⟩ : ∃ b, b = lB s.Right := ⟨_, rfl⟩
  rw [← hb0]
  have HBB := Lib.hid hb0
  clear hb0 HE
  go_wp2_with fail
  go_ret
  exact ⟨by rw [HBB.out]; rfl, HB.out⟩
end Go.Proofs.YtdlojhncbgfjbaaGreatDoor
