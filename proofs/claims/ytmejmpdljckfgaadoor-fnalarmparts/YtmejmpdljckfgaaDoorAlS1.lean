/-
  The model's tests of alarms and acts; its AlarmAct.
-/
import Derived.Test.YtmejmpdljckfgaaDoorAlMem
namespace Go.Proofs.YtmejmpdljckfgaaDoor
open Go.RowKit Go.Deep

theorem alsv_any (n : Int) (w : World) :
    Calls Tryd.prog 73 #[.int .i64 n] w fun e w' => e = .returned (.bool (decide (Al.V n))) ∧ w' = w := by
  go_enter Tryd.func73, Tryd.ntmps73
  go_wp2_with fail
  all_goals
    go_ret
    exact ⟨by rw [show decide (Al.V n) = decide (-1000000 ≤ n ∧ n ≤ 1000000) from rfl]; congr 2; simp <;> omega, rfl⟩
set_option maxRecDepth 100000 in
set_option maxHeartbeats 2000000 in
theorem sact22_any (k v : Int) (w : World) :
    Calls Tryd.prog 40 #[.agg #[.int .i64 k, .int .i64 v]] w fun e w' => e = .returned (.bool (decide (Al.ActOk k v))) ∧ Below w.heap.size w w' := by
  have HB : Hid (Below w.heap.size w (w.alloc (.cells #[.int .i64 k, .int .i64 v] 50))) := nbel_alloc _ _
  by_cases c1 : 1 ≤ k
  case neg =>
    have HE := Lib.hid (decide_eq_false (show ¬ Al.ActOk k v from fun h => c1 h.1.1))
    go_enter Tryd.func40, Tryd.ntmps40
    go_wp2_with fail
    go_ret
    exact ⟨by rw [HE.out]; rfl, HB.out⟩
  by_cases c2 : k ≤ 3
  case neg =>
    have HE := Lib.hid (decide_eq_false (show ¬ Al.ActOk k v from fun h => c2 h.1.2))
    go_enter Tryd.func40, Tryd.ntmps40
    go_wp2_with fail
    go_ret
    exact ⟨by rw [HE.out]; rfl, HB.out⟩
  have HC : Hid (1 ≤ k ∧ k ≤ 3) := ⟨c1, c2⟩
  go_enter Tryd.func40, Tryd.ntmps40
  go_wp2_with fail
  refine (alsv_any _ _).mono ?_
  rintro e w2 ⟨rfl, rfl⟩
  by_cases c : Al.V v
  · rw [decide_eq_true c]
    have HE := Lib.hid (decide_eq_true (show Al.ActOk k v from ⟨HC.out, c⟩))
    clear c
    go_wp2_with fail
    go_ret
    exact ⟨by rw [HE.out]; rfl, HB.out⟩
  · rw [decide_eq_false c]
    have HE := Lib.hid (decide_eq_false (show ¬ Al.ActOk k v from fun h => c h.2))
    clear c
    go_wp2_with fail
    go_ret
    exact ⟨by rw [HE.out]; rfl, HB.out⟩
set_option maxRecDepth 100000 in
set_option maxHeartbeats 2000000 in
theorem sRight_any (a : Al.A) (w : World) :
    Calls Tryd.prog 39 #[alV a] w fun e w' => e = .returned (.bool (decide (Al.Right a))) ∧ Below w.heap.size w w' := by
  have HB : Hid (Below w.heap.size w (w.alloc (.cells #[.int .i64 a.hi, .int .i64 a.lo, .int .i64 a.dl, .int .i64 a.st, .int .i64 a.ct, .int .i64 a.sh] 40))) := nbel_alloc _ _
  by_cases c0 : a.lo ≤ a.hi
  case neg =>
    have HE := Lib.hid (decide_eq_false (show ¬ Al.Right a from fun h => c0 h.1))
    go_enter Tryd.func39, Tryd.ntmps39
    go_wp2_with fail
    go_ret
    exact ⟨by rw [HE.out]; first | rfl | (simp <;> omega), HB.out⟩
  have HC0 := Lib.hid c0
  go_enter Tryd.func39, Tryd.ntmps39
  go_wp2_with fail
  refine (alsv_any _ _).mono ?_
  rintro e w1 ⟨rfl, rfl⟩
  by_cases c1 : Al.V a.lo
  case neg =>
    rw [decide_eq_false c1]
    have HE := Lib.hid (decide_eq_false (show ¬ Al.Right a from fun h => c1 h.2.1))
    clear c1
    go_wp2_with fail
    go_ret
    exact ⟨by rw [HE.out]; first | rfl | (simp <;> omega), HB.out⟩
  rw [decide_eq_true c1]
  have HC1 := Lib.hid c1
  clear c1
  go_wp2_with fail
  refine (alsv_any _ _).mono ?_
  rintro e w1 ⟨rfl, rfl⟩
  by_cases c2 : Al.V a.hi
  case neg =>
    rw [decide_eq_false c2]
    have HE := Lib.hid (decide_eq_false (show ¬ Al.Right a from fun h => c2 h.2.2.1))
    clear c2
    go_wp2_with fail
    go_ret
    exact ⟨by rw [HE.out]; first | rfl | (simp <;> omega), HB.out⟩
  rw [decide_eq_true c2]
  have HC2 := Lib.hid c2
  clear c2
  by_cases d0 : 0 ≤ a.dl
  case neg =>
    have HE := Lib.hid (decide_eq_false (show ¬ Al.Right a from fun h => d0 h.2.2.2.1.1))
    go_wp2_with fail
    go_ret
    exact ⟨by rw [HE.out]; first | rfl | (simp <;> omega), HB.out⟩
  by_cases d1 : a.dl ≤ 100
  case neg =>
    have HE := Lib.hid (decide_eq_false (show ¬ Al.Right a from fun h => d1 h.2.2.2.1.2))
    go_wp2_with fail
    go_ret
    exact ⟨by rw [HE.out]; first | rfl | (simp <;> omega), HB.out⟩
  by_cases d2 : 0 ≤ a.ct
  case neg =>
    have HE := Lib.hid (decide_eq_false (show ¬ Al.Right a from fun h => d2 h.2.2.2.2.1.1))
    go_wp2_with fail
    go_ret
    exact ⟨by rw [HE.out]; first | rfl | (simp <;> omega), HB.out⟩
  by_cases d3 : a.ct ≤ a.dl
  case neg =>
    have HE := Lib.hid (decide_eq_false (show ¬ Al.Right a from fun h => d3 h.2.2.2.2.1.2))
    go_wp2_with fail
    go_ret
    exact ⟨by rw [HE.out]; first | rfl | (simp <;> omega), HB.out⟩
  by_cases d4 : 1 ≤ a.st
  case neg =>
    have HE := Lib.hid (decide_eq_false (show ¬ Al.Right a from fun h => d4 h.2.2.2.2.2.1.1))
    go_wp2_with fail
    go_ret
    exact ⟨by rw [HE.out]; first | rfl | (simp <;> omega), HB.out⟩
  by_cases d5 : a.st ≤ 4
  case neg =>
    have HE := Lib.hid (decide_eq_false (show ¬ Al.Right a from fun h => d5 h.2.2.2.2.2.1.2))
    go_wp2_with fail
    go_ret
    exact ⟨by rw [HE.out]; first | rfl | (simp <;> omega), HB.out⟩
  by_cases d6 : 0 ≤ a.sh
  case neg =>
    have HE := Lib.hid (decide_eq_false (show ¬ Al.Right a from fun h => d6 h.2.2.2.2.2.2.1))
    go_wp2_with fail
    go_ret
    exact ⟨by rw [HE.out]; first | rfl | (simp <;> omega), HB.out⟩
  by_cases d7 : a.sh ≤ 1000
  case neg =>
    have HE := Lib.hid (decide_eq_false (show ¬ Al.Right a from fun h => d7 h.2.2.2.2.2.2.2))
    go_wp2_with fail
    go_ret
    exact ⟨by rw [HE.out]; first | rfl | (simp <;> omega), HB.out⟩
  have HE := Lib.hid (decide_eq_true (show Al.Right a from ⟨HC0.out, HC1.out, HC2.out, ⟨d0, d1⟩, ⟨d2, d3⟩, ⟨d4, d5⟩, ⟨d6, d7⟩⟩))
  go_wp2_with fail
  go_ret
  exact ⟨by rw [HE.out]; first | rfl | (simp <;> omega), HB.out⟩
/-- What stands in a call of the model's AlarmAct. -/
structure SaS (w : World) (a : Al.A) (k v : Int) (W : World) : Prop where
  a : W.rowIs w.heap.size 40 6 (rowN (alL a))
  k : W.rowIs (w.heap.size + 1) 50 2 (rowN [.int .i64 k, .int .i64 v])
  o : W.rowIs (w.heap.size + 1 + 1) 40 6 (rowN (alL Al.none))
  b : Below w.heap.size w W
section
variable {w W W' : World} {a : Al.A} {k v : Int}
theorem SaS.below (h : SaS w a k v W) (hb : Below W.heap.size W W') : SaS w a k v W' := ⟨nrow_below h.a hb, nrow_below h.k hb, nrow_below h.o hb, h.b.trans (hb.mono h.b.size)⟩
theorem SaS.new (w : World) (a : Al.A) (k v : Int) : SaS w a k v (((w.alloc (.cells #[.int .i64 a.hi, .int .i64 a.lo, .int .i64 a.dl, .int .i64 a.st, .int .i64 a.ct, .int .i64 a.sh] 40)).alloc (.cells #[.int .i64 k, .int .i64 v] 50)).alloc (.cells #[.int .i64 0, .int .i64 0, .int .i64 0, .int .i64 0, .int .i64 0, .int .i64 0] 40)) :=
  ⟨nrow_below (nrow_below (rowN_alloc w (alL a) _) (nbel_alloc _ _)) (nbel_alloc _ _), nrow_below (rowN_alloc' (by simp) [.int .i64 k, .int .i64 v] _) (nbel_alloc _ _), rowN_alloc' (by simp) (alL Al.none) _, ((nbel_alloc _ _).alloc (by simp) _).alloc (by simp; omega) _⟩
theorem SaS.set0 (h : SaS w a k v W) (x : Int) : SaS w ⟨x, a.lo, a.dl, a.st, a.ct, a.sh⟩ k v (W.setCell ⟨w.heap.size, 0, none⟩ (.int .i64 x)) := ⟨rowN_put h.a 0 (.int .i64 x) (by simp), nrow_set h.k (by show w.heap.size + 1 ≠ w.heap.size; omega) _, nrow_set h.o (by show w.heap.size + 1 + 1 ≠ w.heap.size; omega) _, h.b.setCell (p := ⟨w.heap.size, 0, none⟩) (Nat.le_refl _) _⟩
theorem SaS.set1 (h : SaS w a k v W) (x : Int) : SaS w ⟨a.hi, x, a.dl, a.st, a.ct, a.sh⟩ k v (W.setCell ⟨w.heap.size, 1, none⟩ (.int .i64 x)) := ⟨rowN_put h.a 1 (.int .i64 x) (by simp), nrow_set h.k (by show w.heap.size + 1 ≠ w.heap.size; omega) _, nrow_set h.o (by show w.heap.size + 1 + 1 ≠ w.heap.size; omega) _, h.b.setCell (p := ⟨w.heap.size, 1, none⟩) (Nat.le_refl _) _⟩
theorem SaS.set2 (h : SaS w a k v W) (x : Int) : SaS w ⟨a.hi, a.lo, x, a.st, a.ct, a.sh⟩ k v (W.setCell ⟨w.heap.size, 2, none⟩ (.int .i64 x)) := ⟨rowN_put h.a 2 (.int .i64 x) (by simp), nrow_set h.k (by show w.heap.size + 1 ≠ w.heap.size; omega) _, nrow_set h.o (by show w.heap.size + 1 + 1 ≠ w.heap.size; omega) _, h.b.setCell (p := ⟨w.heap.size, 2, none⟩) (Nat.le_refl _) _⟩
theorem SaS.set3 (h : SaS w a k v W) (x : Int) : SaS w ⟨a.hi, a.lo, a.dl, x, a.ct, a.sh⟩ k v (W.setCell ⟨w.heap.size, 3, none⟩ (.int .i64 x)) := ⟨rowN_put h.a 3 (.int .i64 x) (by simp), nrow_set h.k (by show w.heap.size + 1 ≠ w.heap.size; omega) _, nrow_set h.o (by show w.heap.size + 1 + 1 ≠ w.heap.size; omega) _, h.b.setCell (p := ⟨w.heap.size, 3, none⟩) (Nat.le_refl _) _⟩
theorem SaS.set4 (h : SaS w a k v W) (x : Int) : SaS w ⟨a.hi, a.lo, a.dl, a.st, x, a.sh⟩ k v (W.setCell ⟨w.heap.size, 4, none⟩ (.int .i64 x)) := ⟨rowN_put h.a 4 (.int .i64 x) (by simp), nrow_set h.k (by show w.heap.size + 1 ≠ w.heap.size; omega) _, nrow_set h.o (by show w.heap.size + 1 + 1 ≠ w.heap.size; omega) _, h.b.setCell (p := ⟨w.heap.size, 4, none⟩) (Nat.le_refl _) _⟩
theorem SaS.set5 (h : SaS w a k v W) (x : Int) : SaS w ⟨a.hi, a.lo, a.dl, a.st, a.ct, x⟩ k v (W.setCell ⟨w.heap.size, 5, none⟩ (.int .i64 x)) := ⟨rowN_put h.a 5 (.int .i64 x) (by simp), nrow_set h.k (by show w.heap.size + 1 ≠ w.heap.size; omega) _, nrow_set h.o (by show w.heap.size + 1 + 1 ≠ w.heap.size; omega) _, h.b.setCell (p := ⟨w.heap.size, 5, none⟩) (Nat.le_refl _) _⟩
end
set_option maxRecDepth 100000 in
set_option maxHeartbeats 2000000 in
theorem specAct_any (a : Al.A) (k v : Int) (w : World) :
    Calls Tryd.prog 41 #[alV a, .agg #[.int .i64 k, .int .i64 v]] w fun e w' => e = .returned (alV (Al.act a k v)) ∧ Below w.heap.size w w' := by
  obtain ⟨W, hW⟩ : ∃ W, W = ((w.alloc (.cells #[.int .i64 a.hi, .int .i64 a.lo, .int .i64 a.dl, .int .i64 a.st, .int .i64 a.ct, .int .i64 a.sh] 40)).alloc (.cells #[.int .i64 k, .int .i64 v] 50)).alloc (.cells #[.int .i64 0, .int .i64 0, .int .i64 0, .int .i64 0, .int .i64 0, .int .i64 0] 40) := ⟨_, rfl⟩
  have HS0 : Hid (SaS w a k v W) := by show SaS _ _ _ _ _; rw [hW]; exact SaS.new w a k v
  have HW := Lib.hid hW
  clear hW
  go_enter Tryd.func41, Tryd.ntmps41
  go_wp2_with fail
  rw [← HW.out]
  clear HW
  refine (sRight_any a _).mono ?_
  rintro e w1 ⟨rfl, hb⟩
  have HS := Lib.hid (HS0.out.below hb)
  clear hb HS0
  by_cases c : Al.Right a
  case neg =>
    rw [decide_eq_false c]
    obtain ⟨⟨x0, x1, x2, x3, x4, x5⟩, f0, f1, f2, f3, f4, f5⟩ := rowN6 HS.out.a
    obtain ⟨⟨k0, k1⟩, _⟩ := rowN2 HS.out.k
    obtain ⟨⟨o0, o1, o2, o3, o4, o5⟩, z0, z1, z2, z3, z4, z5⟩ := rowN6 HS.out.o
    have hal := HS.out.a.lt
    have hol := HS.out.o.lt
    have HE : Hid (Al.act a k v = ⟨a.hi, a.lo, a.dl, a.st, a.ct, a.sh⟩) := by show _ = _; exact Al.act_no (fun h => c h.1)
    have zr := al6put (HS.out).o rfl (.int .i64 a.hi) (.int .i64 a.lo) (.int .i64 a.dl) (.int .i64 a.st) (.int .i64 a.ct) (.int .i64 a.sh)
    have zb := al6bel (g := w.heap.size + 1 + 1) (HS.out).b (by omega) (.int .i64 a.hi) (.int .i64 a.lo) (.int .i64 a.dl) (.int .i64 a.st) (.int .i64 a.ct) (.int .i64 a.sh)
    have ZR := Lib.hid zr
    have ZB := Lib.hid zb
    clear zr zb
    go_wp2_with fail
    obtain ⟨⟨p0, p1, p2, p3, p4, p5⟩, _⟩ := rowN6 ZR.out
    exact bodyPost_ret (v := .agg #[.int .i64 a.hi, .int .i64 a.lo, .int .i64 a.dl, .int .i64 a.st, .int .i64 a.ct, .int .i64 a.sh]) (by simp only [results, Tryd.results41]; simp [go_sem, p0, p1, p2, p3, p4, p5]) rfl ⟨by rw [HE.out], ZB.out⟩
  rw [decide_eq_true c]
  have HR := Lib.hid c
  clear c
  obtain ⟨⟨k0, k1⟩, _⟩ := rowN2 HS.out.k
  go_wp2_with fail
  clear k0 k1
  refine (sact22_any k v _).mono ?_
  rintro e w2 ⟨rfl, hb⟩
  have HS2 := Lib.hid (HS.out.below hb)
  clear hb HS
  have HS := HS2
  clear HS2
  obtain ⟨⟨x0, x1, x2, x3, x4, x5⟩, f0, f1, f2, f3, f4, f5⟩ := rowN6 HS.out.a
  obtain ⟨⟨k0, k1⟩, _⟩ := rowN2 HS.out.k
  obtain ⟨⟨o0, o1, o2, o3, o4, o5⟩, z0, z1, z2, z3, z4, z5⟩ := rowN6 HS.out.o
  have hal := HS.out.a.lt
  have hol := HS.out.o.lt
  by_cases c : Al.ActOk k v
  case neg =>
    rw [decide_eq_false c]
    have HE : Hid (Al.act a k v = ⟨a.hi, a.lo, a.dl, a.st, a.ct, a.sh⟩) := by show _ = _; exact Al.act_no (fun h => c h.2)
    have zr := al6put (HS.out).o rfl (.int .i64 a.hi) (.int .i64 a.lo) (.int .i64 a.dl) (.int .i64 a.st) (.int .i64 a.ct) (.int .i64 a.sh)
    have zb := al6bel (g := w.heap.size + 1 + 1) (HS.out).b (by omega) (.int .i64 a.hi) (.int .i64 a.lo) (.int .i64 a.dl) (.int .i64 a.st) (.int .i64 a.ct) (.int .i64 a.sh)
    have ZR := Lib.hid zr
    have ZB := Lib.hid zb
    clear zr zb
    go_wp2_with fail
    obtain ⟨⟨p0, p1, p2, p3, p4, p5⟩, _⟩ := rowN6 ZR.out
    exact bodyPost_ret (v := .agg #[.int .i64 a.hi, .int .i64 a.lo, .int .i64 a.dl, .int .i64 a.st, .int .i64 a.ct, .int .i64 a.sh]) (by simp only [results, Tryd.results41]; simp [go_sem, p0, p1, p2, p3, p4, p5]) rfl ⟨by rw [HE.out], ZB.out⟩
  rw [decide_eq_true c]
  have hm : Al.act a k v = Al.meet a k v := Al.act_yes HR.out c
  have b5 : 0 ≤ a.sh ∧ a.sh ≤ 1000 := HR.out.2.2.2.2.2.2
  have b4 : 0 ≤ a.ct ∧ a.ct ≤ a.dl := HR.out.2.2.2.2.1
  have b2 : 0 ≤ a.dl ∧ a.dl ≤ 100 := HR.out.2.2.2.1
  have b3 : 1 ≤ a.st ∧ a.st ≤ 4 := HR.out.2.2.2.2.2.1
  obtain ⟨hk1, hk3⟩ := c.1
  have hc : k = 2 ∨ k = 3 ∨ k = 1 := by omega
  have HM := Lib.hid hm
  have HC := Lib.hid hc
  have B3 := Lib.hid b3
  clear c HR hm hc hk1 hk3 b3
  rcases HC.out with rfl | rfl | rfl
  · clear HC
    by_cases s2 : a.st = 2
    · have q2 : (a.st == 2) = true := by simp [s2]
      have HE : Hid (Al.act a 2 v = ⟨a.hi, a.lo, a.dl, 3, a.ct, a.sh⟩) := by show _ = _; rw [HM.out]; show Al.see a = _; unfold Al.see; rw [if_pos s2]
      clear s2
      have zr := al6put (HS.out.set3 3).o rfl (.int .i64 a.hi) (.int .i64 a.lo) (.int .i64 a.dl) (.int .i64 3) (.int .i64 a.ct) (.int .i64 a.sh)
      have zb := al6bel (g := w.heap.size + 1 + 1) (HS.out.set3 3).b (by omega) (.int .i64 a.hi) (.int .i64 a.lo) (.int .i64 a.dl) (.int .i64 3) (.int .i64 a.ct) (.int .i64 a.sh)
      have ZR := Lib.hid zr
      have ZB := Lib.hid zb
      clear zr zb
      go_wp2_with fail
      obtain ⟨⟨p0, p1, p2, p3, p4, p5⟩, _⟩ := rowN6 ZR.out
      exact bodyPost_ret (v := .agg #[.int .i64 a.hi, .int .i64 a.lo, .int .i64 a.dl, .int .i64 3, .int .i64 a.ct, .int .i64 a.sh]) (by simp only [results, Tryd.results41]; simp [go_sem, p0, p1, p2, p3, p4, p5]) rfl ⟨by rw [HE.out], ZB.out⟩
    have q2 : (a.st == 2) = false := by simpa using s2
    by_cases s4 : a.st = 4
    · have q4 : (a.st == 4) = true := by simp [s4]
      have HE : Hid (Al.act a 2 v = ⟨a.hi, a.lo, a.dl, 1, a.ct, a.sh⟩) := by show _ = _; rw [HM.out]; show Al.see a = _; unfold Al.see; rw [if_neg s2, if_pos s4]
      clear s2 s4
      have zr := al6put (HS.out.set3 1).o rfl (.int .i64 a.hi) (.int .i64 a.lo) (.int .i64 a.dl) (.int .i64 1) (.int .i64 a.ct) (.int .i64 a.sh)
      have zb := al6bel (g := w.heap.size + 1 + 1) (HS.out.set3 1).b (by omega) (.int .i64 a.hi) (.int .i64 a.lo) (.int .i64 a.dl) (.int .i64 1) (.int .i64 a.ct) (.int .i64 a.sh)
      have ZR := Lib.hid zr
      have ZB := Lib.hid zb
      clear zr zb
      go_wp2_with fail
      obtain ⟨⟨p0, p1, p2, p3, p4, p5⟩, _⟩ := rowN6 ZR.out
      exact bodyPost_ret (v := .agg #[.int .i64 a.hi, .int .i64 a.lo, .int .i64 a.dl, .int .i64 1, .int .i64 a.ct, .int .i64 a.sh]) (by simp only [results, Tryd.results41]; simp [go_sem, p0, p1, p2, p3, p4, p5]) rfl ⟨by rw [HE.out], ZB.out⟩
    have q4 : (a.st == 4) = false := by simpa using s4
    have HE : Hid (Al.act a 2 v = ⟨a.hi, a.lo, a.dl, a.st, a.ct, a.sh⟩) := by show _ = _; rw [HM.out]; show Al.see a = _; unfold Al.see; rw [if_neg s2, if_neg s4]
    clear s2 s4
    have zr := al6put (HS.out).o rfl (.int .i64 a.hi) (.int .i64 a.lo) (.int .i64 a.dl) (.int .i64 a.st) (.int .i64 a.ct) (.int .i64 a.sh)
    have zb := al6bel (g := w.heap.size + 1 + 1) (HS.out).b (by omega) (.int .i64 a.hi) (.int .i64 a.lo) (.int .i64 a.dl) (.int .i64 a.st) (.int .i64 a.ct) (.int .i64 a.sh)
    have ZR := Lib.hid zr
    have ZB := Lib.hid zb
    clear zr zb
    go_wp2_with fail
    obtain ⟨⟨p0, p1, p2, p3, p4, p5⟩, _⟩ := rowN6 ZR.out
    exact bodyPost_ret (v := .agg #[.int .i64 a.hi, .int .i64 a.lo, .int .i64 a.dl, .int .i64 a.st, .int .i64 a.ct, .int .i64 a.sh]) (by simp only [results, Tryd.results41]; simp [go_sem, p0, p1, p2, p3, p4, p5]) rfl ⟨by rw [HE.out], ZB.out⟩
  · clear HC
    by_cases s1 : 0 ≤ v
    case neg =>
      have HE : Hid (Al.act a 3 v = ⟨a.hi, a.lo, a.dl, a.st, a.ct, a.sh⟩) := by show _ = _; rw [HM.out]; show Al.shelve a v = _; unfold Al.shelve; rw [if_neg (fun h => s1 h.1)]
      have zr := al6put (HS.out).o rfl (.int .i64 a.hi) (.int .i64 a.lo) (.int .i64 a.dl) (.int .i64 a.st) (.int .i64 a.ct) (.int .i64 a.sh)
      have zb := al6bel (g := w.heap.size + 1 + 1) (HS.out).b (by omega) (.int .i64 a.hi) (.int .i64 a.lo) (.int .i64 a.dl) (.int .i64 a.st) (.int .i64 a.ct) (.int .i64 a.sh)
      have ZR := Lib.hid zr
      have ZB := Lib.hid zb
      clear zr zb
      go_wp2_with fail
      obtain ⟨⟨p0, p1, p2, p3, p4, p5⟩, _⟩ := rowN6 ZR.out
      exact bodyPost_ret (v := .agg #[.int .i64 a.hi, .int .i64 a.lo, .int .i64 a.dl, .int .i64 a.st, .int .i64 a.ct, .int .i64 a.sh]) (by simp only [results, Tryd.results41]; simp [go_sem, p0, p1, p2, p3, p4, p5]) rfl ⟨by rw [HE.out], ZB.out⟩
    by_cases s2 : v ≤ 1000
    case neg =>
      have HE : Hid (Al.act a 3 v = ⟨a.hi, a.lo, a.dl, a.st, a.ct, a.sh⟩) := by show _ = _; rw [HM.out]; show Al.shelve a v = _; unfold Al.shelve; rw [if_neg (fun h => s2 h.2)]
      have zr := al6put (HS.out).o rfl (.int .i64 a.hi) (.int .i64 a.lo) (.int .i64 a.dl) (.int .i64 a.st) (.int .i64 a.ct) (.int .i64 a.sh)
      have zb := al6bel (g := w.heap.size + 1 + 1) (HS.out).b (by omega) (.int .i64 a.hi) (.int .i64 a.lo) (.int .i64 a.dl) (.int .i64 a.st) (.int .i64 a.ct) (.int .i64 a.sh)
      have ZR := Lib.hid zr
      have ZB := Lib.hid zb
      clear zr zb
      go_wp2_with fail
      obtain ⟨⟨p0, p1, p2, p3, p4, p5⟩, _⟩ := rowN6 ZR.out
      exact bodyPost_ret (v := .agg #[.int .i64 a.hi, .int .i64 a.lo, .int .i64 a.dl, .int .i64 a.st, .int .i64 a.ct, .int .i64 a.sh]) (by simp only [results, Tryd.results41]; simp [go_sem, p0, p1, p2, p3, p4, p5]) rfl ⟨by rw [HE.out], ZB.out⟩
    have HE : Hid (Al.act a 3 v = ⟨a.hi, a.lo, a.dl, a.st, a.ct, v⟩) := by show _ = _; rw [HM.out]; show Al.shelve a v = _; unfold Al.shelve; rw [if_pos ⟨s1, s2⟩]
    have zr := al6put (HS.out.set5 v).o rfl (.int .i64 a.hi) (.int .i64 a.lo) (.int .i64 a.dl) (.int .i64 a.st) (.int .i64 a.ct) (.int .i64 v)
    have zb := al6bel (g := w.heap.size + 1 + 1) (HS.out.set5 v).b (by omega) (.int .i64 a.hi) (.int .i64 a.lo) (.int .i64 a.dl) (.int .i64 a.st) (.int .i64 a.ct) (.int .i64 v)
    have ZR := Lib.hid zr
    have ZB := Lib.hid zb
    clear zr zb
    go_wp2_with fail
    obtain ⟨⟨p0, p1, p2, p3, p4, p5⟩, _⟩ := rowN6 ZR.out
    exact bodyPost_ret (v := .agg #[.int .i64 a.hi, .int .i64 a.lo, .int .i64 a.dl, .int .i64 a.st, .int .i64 a.ct, .int .i64 v]) (by simp only [results, Tryd.results41]; simp [go_sem, p0, p1, p2, p3, p4, p5]) rfl ⟨by rw [HE.out], ZB.out⟩
  · clear HC
    by_cases s1 : 0 < a.sh
    · have HE : Hid (Al.act a 1 v = ⟨a.hi, a.lo, a.dl, a.st, 0, (a.sh - 1)⟩) := by show _ = _; rw [HM.out]; show Al.take a v = _; unfold Al.take; rw [if_pos s1]
      have zr := al6put ((HS.out.set5 (a.sh - 1)).set4 0).o rfl (.int .i64 a.hi) (.int .i64 a.lo) (.int .i64 a.dl) (.int .i64 a.st) (.int .i64 0) (.int .i64 (a.sh - 1))
      have zb := al6bel (g := w.heap.size + 1 + 1) ((HS.out.set5 (a.sh - 1)).set4 0).b (by omega) (.int .i64 a.hi) (.int .i64 a.lo) (.int .i64 a.dl) (.int .i64 a.st) (.int .i64 0) (.int .i64 (a.sh - 1))
      have ZR := Lib.hid zr
      have ZB := Lib.hid zb
      clear zr zb
      go_wp2_with fail
      obtain ⟨⟨p0, p1, p2, p3, p4, p5⟩, _⟩ := rowN6 ZR.out
      exact bodyPost_ret (v := .agg #[.int .i64 a.hi, .int .i64 a.lo, .int .i64 a.dl, .int .i64 a.st, .int .i64 0, .int .i64 (a.sh - 1)]) (by simp only [results, Tryd.results41]; simp [go_sem, p0, p1, p2, p3, p4, p5]) rfl ⟨by rw [HE.out], ZB.out⟩
    rcases (show a.st = 1 ∨ a.st = 4 ∨ a.st = 2 ∨ a.st = 3 by have := B3.out; omega) with h1 | h4 | h2 | h3
    · have q1 : (a.st == 1) = true := by simp [h1]
      have q2 : (a.st == 2) = false := by simp; omega
      have q4 : (a.st == 4) = false := by simp; omega
      by_cases s2 : v ≤ a.hi
      · have HE : Hid (Al.act a 1 v = ⟨a.hi, a.lo, a.dl, a.st, 0, a.sh⟩) := by show _ = _; rw [HM.out]; show Al.take a v = _; unfold Al.take; rw [if_neg s1, if_neg (by omega)]; unfold Al.loud; rw [if_pos s2]
        clear h1
        have zr := al6put (HS.out.set4 0).o rfl (.int .i64 a.hi) (.int .i64 a.lo) (.int .i64 a.dl) (.int .i64 a.st) (.int .i64 0) (.int .i64 a.sh)
        have zb := al6bel (g := w.heap.size + 1 + 1) (HS.out.set4 0).b (by omega) (.int .i64 a.hi) (.int .i64 a.lo) (.int .i64 a.dl) (.int .i64 a.st) (.int .i64 0) (.int .i64 a.sh)
        have ZR := Lib.hid zr
        have ZB := Lib.hid zb
        clear zr zb
        go_wp2_with fail
        obtain ⟨⟨p0, p1, p2, p3, p4, p5⟩, _⟩ := rowN6 ZR.out
        exact bodyPost_ret (v := .agg #[.int .i64 a.hi, .int .i64 a.lo, .int .i64 a.dl, .int .i64 a.st, .int .i64 0, .int .i64 a.sh]) (by simp only [results, Tryd.results41]; simp [go_sem, p0, p1, p2, p3, p4, p5]) rfl ⟨by rw [HE.out], ZB.out⟩
      by_cases s3 : a.ct = a.dl
      · have e3 : (a.ct == a.dl) = true := by simp [s3]
        have HE : Hid (Al.act a 1 v = ⟨a.hi, a.lo, a.dl, 2, 0, a.sh⟩) := by show _ = _; rw [HM.out]; show Al.take a v = _; unfold Al.take; rw [if_neg s1, if_neg (by omega)]; unfold Al.loud; rw [if_neg s2, if_neg (by omega)]
        clear h1 s3
        have zr := al6put ((HS.out.set3 2).set4 0).o rfl (.int .i64 a.hi) (.int .i64 a.lo) (.int .i64 a.dl) (.int .i64 2) (.int .i64 0) (.int .i64 a.sh)
        have zb := al6bel (g := w.heap.size + 1 + 1) ((HS.out.set3 2).set4 0).b (by omega) (.int .i64 a.hi) (.int .i64 a.lo) (.int .i64 a.dl) (.int .i64 2) (.int .i64 0) (.int .i64 a.sh)
        have ZR := Lib.hid zr
        have ZB := Lib.hid zb
        clear zr zb
        go_wp2_with fail
        obtain ⟨⟨p0, p1, p2, p3, p4, p5⟩, _⟩ := rowN6 ZR.out
        exact bodyPost_ret (v := .agg #[.int .i64 a.hi, .int .i64 a.lo, .int .i64 a.dl, .int .i64 2, .int .i64 0, .int .i64 a.sh]) (by simp only [results, Tryd.results41]; simp [go_sem, p0, p1, p2, p3, p4, p5]) rfl ⟨by rw [HE.out], ZB.out⟩
      have e3 : (a.ct == a.dl) = false := by simpa using s3
      have HE : Hid (Al.act a 1 v = ⟨a.hi, a.lo, a.dl, a.st, (a.ct + 1), a.sh⟩) := by show _ = _; rw [HM.out]; show Al.take a v = _; unfold Al.take; rw [if_neg s1, if_neg (by omega)]; unfold Al.loud; rw [if_neg s2, if_pos (by omega)]
      clear h1 s3
      have zr := al6put (HS.out.set4 (a.ct + 1)).o rfl (.int .i64 a.hi) (.int .i64 a.lo) (.int .i64 a.dl) (.int .i64 a.st) (.int .i64 (a.ct + 1)) (.int .i64 a.sh)
      have zb := al6bel (g := w.heap.size + 1 + 1) (HS.out.set4 (a.ct + 1)).b (by omega) (.int .i64 a.hi) (.int .i64 a.lo) (.int .i64 a.dl) (.int .i64 a.st) (.int .i64 (a.ct + 1)) (.int .i64 a.sh)
      have ZR := Lib.hid zr
      have ZB := Lib.hid zb
      clear zr zb
      go_wp2_with fail
      obtain ⟨⟨p0, p1, p2, p3, p4, p5⟩, _⟩ := rowN6 ZR.out
      exact bodyPost_ret (v := .agg #[.int .i64 a.hi, .int .i64 a.lo, .int .i64 a.dl, .int .i64 a.st, .int .i64 (a.ct + 1), .int .i64 a.sh]) (by simp only [results, Tryd.results41]; simp [go_sem, p0, p1, p2, p3, p4, p5]) rfl ⟨by rw [HE.out], ZB.out⟩
    · have q1 : (a.st == 1) = false := by simp; omega
      have q2 : (a.st == 2) = false := by simp; omega
      have q4 : (a.st == 4) = true := by simp [h4]
      by_cases s2 : v ≤ a.hi
      · have HE : Hid (Al.act a 1 v = ⟨a.hi, a.lo, a.dl, a.st, 0, a.sh⟩) := by show _ = _; rw [HM.out]; show Al.take a v = _; unfold Al.take; rw [if_neg s1, if_neg (by omega)]; unfold Al.loud; rw [if_pos s2]
        clear h4
        have zr := al6put (HS.out.set4 0).o rfl (.int .i64 a.hi) (.int .i64 a.lo) (.int .i64 a.dl) (.int .i64 a.st) (.int .i64 0) (.int .i64 a.sh)
        have zb := al6bel (g := w.heap.size + 1 + 1) (HS.out.set4 0).b (by omega) (.int .i64 a.hi) (.int .i64 a.lo) (.int .i64 a.dl) (.int .i64 a.st) (.int .i64 0) (.int .i64 a.sh)
        have ZR := Lib.hid zr
        have ZB := Lib.hid zb
        clear zr zb
        go_wp2_with fail
        obtain ⟨⟨p0, p1, p2, p3, p4, p5⟩, _⟩ := rowN6 ZR.out
        exact bodyPost_ret (v := .agg #[.int .i64 a.hi, .int .i64 a.lo, .int .i64 a.dl, .int .i64 a.st, .int .i64 0, .int .i64 a.sh]) (by simp only [results, Tryd.results41]; simp [go_sem, p0, p1, p2, p3, p4, p5]) rfl ⟨by rw [HE.out], ZB.out⟩
      by_cases s3 : a.ct = a.dl
      · have e3 : (a.ct == a.dl) = true := by simp [s3]
        have HE : Hid (Al.act a 1 v = ⟨a.hi, a.lo, a.dl, 2, 0, a.sh⟩) := by show _ = _; rw [HM.out]; show Al.take a v = _; unfold Al.take; rw [if_neg s1, if_neg (by omega)]; unfold Al.loud; rw [if_neg s2, if_neg (by omega)]
        clear h4 s3
        have zr := al6put ((HS.out.set3 2).set4 0).o rfl (.int .i64 a.hi) (.int .i64 a.lo) (.int .i64 a.dl) (.int .i64 2) (.int .i64 0) (.int .i64 a.sh)
        have zb := al6bel (g := w.heap.size + 1 + 1) ((HS.out.set3 2).set4 0).b (by omega) (.int .i64 a.hi) (.int .i64 a.lo) (.int .i64 a.dl) (.int .i64 2) (.int .i64 0) (.int .i64 a.sh)
        have ZR := Lib.hid zr
        have ZB := Lib.hid zb
        clear zr zb
        go_wp2_with fail
        obtain ⟨⟨p0, p1, p2, p3, p4, p5⟩, _⟩ := rowN6 ZR.out
        exact bodyPost_ret (v := .agg #[.int .i64 a.hi, .int .i64 a.lo, .int .i64 a.dl, .int .i64 2, .int .i64 0, .int .i64 a.sh]) (by simp only [results, Tryd.results41]; simp [go_sem, p0, p1, p2, p3, p4, p5]) rfl ⟨by rw [HE.out], ZB.out⟩
      have e3 : (a.ct == a.dl) = false := by simpa using s3
      have HE : Hid (Al.act a 1 v = ⟨a.hi, a.lo, a.dl, a.st, (a.ct + 1), a.sh⟩) := by show _ = _; rw [HM.out]; show Al.take a v = _; unfold Al.take; rw [if_neg s1, if_neg (by omega)]; unfold Al.loud; rw [if_neg s2, if_pos (by omega)]
      clear h4 s3
      have zr := al6put (HS.out.set4 (a.ct + 1)).o rfl (.int .i64 a.hi) (.int .i64 a.lo) (.int .i64 a.dl) (.int .i64 a.st) (.int .i64 (a.ct + 1)) (.int .i64 a.sh)
      have zb := al6bel (g := w.heap.size + 1 + 1) (HS.out.set4 (a.ct + 1)).b (by omega) (.int .i64 a.hi) (.int .i64 a.lo) (.int .i64 a.dl) (.int .i64 a.st) (.int .i64 (a.ct + 1)) (.int .i64 a.sh)
      have ZR := Lib.hid zr
      have ZB := Lib.hid zb
      clear zr zb
      go_wp2_with fail
      obtain ⟨⟨p0, p1, p2, p3, p4, p5⟩, _⟩ := rowN6 ZR.out
      exact bodyPost_ret (v := .agg #[.int .i64 a.hi, .int .i64 a.lo, .int .i64 a.dl, .int .i64 a.st, .int .i64 (a.ct + 1), .int .i64 a.sh]) (by simp only [results, Tryd.results41]; simp [go_sem, p0, p1, p2, p3, p4, p5]) rfl ⟨by rw [HE.out], ZB.out⟩
    · have q1 : (a.st == 1) = false := by simp; omega
      have q2 : (a.st == 2) = true := by simp [h2]
      have q4 : (a.st == 4) = false := by simp; omega
      by_cases s2 : v < a.lo
      · have HE : Hid (Al.act a 1 v = ⟨a.hi, a.lo, a.dl, 4, a.ct, a.sh⟩) := by show _ = _; rw [HM.out]; show Al.take a v = _; unfold Al.take; rw [if_neg s1, if_pos (by omega)]; unfold Al.quiet; rw [if_neg (by omega), if_pos h2]
        clear h2
        have zr := al6put (HS.out.set3 4).o rfl (.int .i64 a.hi) (.int .i64 a.lo) (.int .i64 a.dl) (.int .i64 4) (.int .i64 a.ct) (.int .i64 a.sh)
        have zb := al6bel (g := w.heap.size + 1 + 1) (HS.out.set3 4).b (by omega) (.int .i64 a.hi) (.int .i64 a.lo) (.int .i64 a.dl) (.int .i64 4) (.int .i64 a.ct) (.int .i64 a.sh)
        have ZR := Lib.hid zr
        have ZB := Lib.hid zb
        clear zr zb
        go_wp2_with fail
        obtain ⟨⟨p0, p1, p2, p3, p4, p5⟩, _⟩ := rowN6 ZR.out
        exact bodyPost_ret (v := .agg #[.int .i64 a.hi, .int .i64 a.lo, .int .i64 a.dl, .int .i64 4, .int .i64 a.ct, .int .i64 a.sh]) (by simp only [results, Tryd.results41]; simp [go_sem, p0, p1, p2, p3, p4, p5]) rfl ⟨by rw [HE.out], ZB.out⟩
      have HE : Hid (Al.act a 1 v = ⟨a.hi, a.lo, a.dl, a.st, a.ct, a.sh⟩) := by show _ = _; rw [HM.out]; show Al.take a v = _; unfold Al.take; rw [if_neg s1, if_pos (by omega)]; unfold Al.quiet; rw [if_pos (by omega)]
      clear h2
      have zr := al6put (HS.out).o rfl (.int .i64 a.hi) (.int .i64 a.lo) (.int .i64 a.dl) (.int .i64 a.st) (.int .i64 a.ct) (.int .i64 a.sh)
      have zb := al6bel (g := w.heap.size + 1 + 1) (HS.out).b (by omega) (.int .i64 a.hi) (.int .i64 a.lo) (.int .i64 a.dl) (.int .i64 a.st) (.int .i64 a.ct) (.int .i64 a.sh)
      have ZR := Lib.hid zr
      have ZB := Lib.hid zb
      clear zr zb
      go_wp2_with fail
      obtain ⟨⟨p0, p1, p2, p3, p4, p5⟩, _⟩ := rowN6 ZR.out
      exact bodyPost_ret (v := .agg #[.int .i64 a.hi, .int .i64 a.lo, .int .i64 a.dl, .int .i64 a.st, .int .i64 a.ct, .int .i64 a.sh]) (by simp only [results, Tryd.results41]; simp [go_sem, p0, p1, p2, p3, p4, p5]) rfl ⟨by rw [HE.out], ZB.out⟩
    · have q1 : (a.st == 1) = false := by simp; omega
      have q2 : (a.st == 2) = false := by simp; omega
      have q4 : (a.st == 4) = false := by simp; omega
      by_cases s2 : v < a.lo
      · have HE : Hid (Al.act a 1 v = ⟨a.hi, a.lo, a.dl, 1, a.ct, a.sh⟩) := by show _ = _; rw [HM.out]; show Al.take a v = _; unfold Al.take; rw [if_neg s1, if_pos (by omega)]; unfold Al.quiet; rw [if_neg (by omega), if_neg (by omega)]
        clear h3
        have zr := al6put (HS.out.set3 1).o rfl (.int .i64 a.hi) (.int .i64 a.lo) (.int .i64 a.dl) (.int .i64 1) (.int .i64 a.ct) (.int .i64 a.sh)
        have zb := al6bel (g := w.heap.size + 1 + 1) (HS.out.set3 1).b (by omega) (.int .i64 a.hi) (.int .i64 a.lo) (.int .i64 a.dl) (.int .i64 1) (.int .i64 a.ct) (.int .i64 a.sh)
        have ZR := Lib.hid zr
        have ZB := Lib.hid zb
        clear zr zb
        go_wp2_with fail
        obtain ⟨⟨p0, p1, p2, p3, p4, p5⟩, _⟩ := rowN6 ZR.out
        exact bodyPost_ret (v := .agg #[.int .i64 a.hi, .int .i64 a.lo, .int .i64 a.dl, .int .i64 1, .int .i64 a.ct, .int .i64 a.sh]) (by simp only [results, Tryd.results41]; simp [go_sem, p0, p1, p2, p3, p4, p5]) rfl ⟨by rw [HE.out], ZB.out⟩
      have HE : Hid (Al.act a 1 v = ⟨a.hi, a.lo, a.dl, a.st, a.ct, a.sh⟩) := by show _ = _; rw [HM.out]; show Al.take a v = _; unfold Al.take; rw [if_neg s1, if_pos (by omega)]; unfold Al.quiet; rw [if_pos (by omega)]
      clear h3
      have zr := al6put (HS.out).o rfl (.int .i64 a.hi) (.int .i64 a.lo) (.int .i64 a.dl) (.int .i64 a.st) (.int .i64 a.ct) (.int .i64 a.sh)
      have zb := al6bel (g := w.heap.size + 1 + 1) (HS.out).b (by omega) (.int .i64 a.hi) (.int .i64 a.lo) (.int .i64 a.dl) (.int .i64 a.st) (.int .i64 a.ct) (.int .i64 a.sh)
      have ZR := Lib.hid zr
      have ZB := Lib.hid zb
      clear zr zb
      go_wp2_with fail
      obtain ⟨⟨p0, p1, p2, p3, p4, p5⟩, _⟩ := rowN6 ZR.out
      exact bodyPost_ret (v := .agg #[.int .i64 a.hi, .int .i64 a.lo, .int .i64 a.dl, .int .i64 a.st, .int .i64 a.ct, .int .i64 a.sh]) (by simp only [results, Tryd.results41]; simp [go_sem, p0, p1, p2, p3, p4, p5]) rfl ⟨by rw [HE.out], ZB.out⟩
end Go.Proofs.YtmejmpdljckfgaaDoor
