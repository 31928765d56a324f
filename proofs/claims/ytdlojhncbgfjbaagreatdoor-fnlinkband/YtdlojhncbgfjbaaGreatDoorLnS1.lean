/-
  StationRight: the model's.
-/
import Derived.Test.YtdlojhncbgfjbaaGreatDoorLnI1
import Derived.Test.YtdlojhncbgfjbaaGreatDoorLnGr
import Derived.BigQuiet
import Derived.Deep.QuietTactic
namespace Go.Proofs.YtdlojhncbgfjbaaGreatDoor
open Go.RowKit Go.Deep

theorem sval19_any (n : Int) (w : World) :
    Calls Tryz.prog 11 #[.int .i64 n] w fun e w' => e = .returned (.bool (decide (-1000000 ≤ n ∧ n ≤ 1000000))) ∧ w' = w := by
  go_enter Tryz.func11, Tryz.ntmps11
  go_wp2_with fail
  all_goals
    go_ret
    exact ⟨by congr 2; simp <;> omega, rfl⟩
set_option maxRecDepth 100000 in
set_option maxHeartbeats 8000000 in
theorem specSRight_any (s : Ln.S) (a : Option Addr) (k : Nat) (w : World) (h : IsIn a (s.wait.length * 2) (Ln.fl s.wait) w) (hn : s.wait.length ≤ 9223372036854775807) :
    Calls Tryz.prog 20 #[stV s a k] w fun e w' => e = .returned (.bool (lB s.Right)) ∧ Gr w w' := by
  obtain ⟨W, hW⟩ : ∃ W, W = w.alloc (stO s a k) := ⟨_, rfl⟩
  have HB : Hid (Gr w W) := by show Gr _ _; rw [hW]; exact (Gr.refl _).alloc _
  have HR : Hid (W.rowIs w.heap.size 28 7 (rowN (stL s a k))) := by show W.rowIs _ _ _ _; rw [hW]; exact rowN_alloc w (stL s a k) _
  have H := Lib.hid (h.below HB.out.bel)
  have HW := Lib.hid hW
  have h0 := h
  clear hW h
  have hnz : (s.wait.length : Int) ≤ 9223372036854775807 := by omega
  by_cases k0 : s.unit < 0
  · have HE : Hid (lB s.Right = false) := lB_ff (fun h => by have := h.1.1; omega)
    go_enter Tryz.func20, Tryz.ntmps20
    go_wp2_with fail
    go_ret
    exact ⟨by rw [HE.out]; rfl, (Gr.refl _).alloc _⟩
  by_cases k1 : 250 < s.unit
  · have HE : Hid (lB s.Right = false) := lB_ff (fun h => by have := h.1.1; omega)
    go_enter Tryz.func20, Tryz.ntmps20
    go_wp2_with fail
    go_ret
    exact ⟨by rw [HE.out]; rfl, (Gr.refl _).alloc _⟩
  by_cases k2 : s.band < 0
  · have HE : Hid (lB s.Right = false) := lB_ff (fun h => by have := h.1.2.1; omega)
    go_enter Tryz.func20, Tryz.ntmps20
    go_wp2_with fail
    go_ret
    exact ⟨by rw [HE.out]; rfl, (Gr.refl _).alloc _⟩
  by_cases k3 : 1000000 < s.band
  · have HE : Hid (lB s.Right = false) := lB_ff (fun h => by have := h.1.2.1; omega)
    go_enter Tryz.func20, Tryz.ntmps20
    go_wp2_with fail
    go_ret
    exact ⟨by rw [HE.out]; rfl, (Gr.refl _).alloc _⟩
  by_cases kv : -1000000 ≤ s.last ∧ s.last ≤ 1000000
  case neg =>
    have HE : Hid (lB s.Right = false) := lB_ff (fun h => kv h.1.2.2.1)
    go_enter Tryz.func20, Tryz.ntmps20
    go_wp2_with fail
    refine (sval19_any _ _).mono ?_
    rintro e w1 ⟨rfl, hw1⟩
    rw [hw1]
    clear hw1 w1
    rw [decide_eq_false kv]
    go_wp2_with fail
    go_ret
    exact ⟨by rw [HE.out]; rfl, (Gr.refl _).alloc _⟩
  by_cases ks : s.seen = false → s.last = 0
  case neg =>
    have HE : Hid (lB s.Right = false) := lB_ff (fun h => ks h.1.2.2.2.1)
    have ks1 : s.seen = false := by
      cases hs : s.seen with
      | false => rfl
      | true => exact absurd (fun e => by rw [hs] at e; cases e) ks
    have ks2 : (s.last != 0) = true := by
      have : s.last ≠ 0 := fun e => ks (fun _ => e)
      simpa using this
    go_enter Tryz.func20, Tryz.ntmps20
    go_wp2_with fail
    refine (sval19_any _ _).mono ?_
    rintro e w1 ⟨rfl, hw1⟩
    rw [hw1]
    clear hw1 w1
    rw [decide_eq_true kv]
    go_wp2_with fail
    go_ret
    exact ⟨by rw [HE.out]; rfl, (Gr.refl _).alloc _⟩
  have hseen : s.seen = true ∨ (s.seen = false ∧ (s.last != 0) = false) := by
    cases hs : s.seen with
    | true => exact Or.inl rfl
    | false => exact Or.inr ⟨rfl, by have := ks hs; simpa using this⟩
  have HSEEN := Lib.hid hseen
  have HKS := Lib.hid ks
  clear hseen ks
  by_cases j0 : s.next < 1
  · have HE : Hid (lB s.Right = false) := lB_ff (fun h => by have := h.1.2.2.2.2.1; omega)
    rcases HSEEN.out with s1 | ⟨s1, s2⟩
    · go_enter Tryz.func20, Tryz.ntmps20
      go_wp2_with fail
      refine (sval19_any _ _).mono ?_
      rintro e w1 ⟨rfl, hw1⟩
      rw [hw1]
      clear hw1 w1
      rw [decide_eq_true kv]
      go_wp2_with fail
      go_ret
      exact ⟨by rw [HE.out]; rfl, (Gr.refl _).alloc _⟩
    · go_enter Tryz.func20, Tryz.ntmps20
      go_wp2_with fail
      refine (sval19_any _ _).mono ?_
      rintro e w1 ⟨rfl, hw1⟩
      rw [hw1]
      clear hw1 w1
      rw [decide_eq_true kv]
      go_wp2_with fail
      go_ret
      exact ⟨by rw [HE.out]; rfl, (Gr.refl _).alloc _⟩
  by_cases j1 : 60000 < s.next
  · have HE : Hid (lB s.Right = false) := lB_ff (fun h => by have := h.1.2.2.2.2.1; omega)
    rcases HSEEN.out with s1 | ⟨s1, s2⟩
    · go_enter Tryz.func20, Tryz.ntmps20
      go_wp2_with fail
      refine (sval19_any _ _).mono ?_
      rintro e w1 ⟨rfl, hw1⟩
      rw [hw1]
      clear hw1 w1
      rw [decide_eq_true kv]
      go_wp2_with fail
      go_ret
      exact ⟨by rw [HE.out]; rfl, (Gr.refl _).alloc _⟩
    · go_enter Tryz.func20, Tryz.ntmps20
      go_wp2_with fail
      refine (sval19_any _ _).mono ?_
      rintro e w1 ⟨rfl, hw1⟩
      rw [hw1]
      clear hw1 w1
      rw [decide_eq_true kv]
      go_wp2_with fail
      go_ret
      exact ⟨by rw [HE.out]; rfl, (Gr.refl _).alloc _⟩
  by_cases j2 : s.drops < 0
  · have HE : Hid (lB s.Right = false) := lB_ff (fun h => by have := h.1.2.2.2.2.2; omega)
    rcases HSEEN.out with s1 | ⟨s1, s2⟩
    · go_enter Tryz.func20, Tryz.ntmps20
      go_wp2_with fail
      refine (sval19_any _ _).mono ?_
      rintro e w1 ⟨rfl, hw1⟩
      rw [hw1]
      clear hw1 w1
      rw [decide_eq_true kv]
      go_wp2_with fail
      go_ret
      exact ⟨by rw [HE.out]; rfl, (Gr.refl _).alloc _⟩
    · go_enter Tryz.func20, Tryz.ntmps20
      go_wp2_with fail
      refine (sval19_any _ _).mono ?_
      rintro e w1 ⟨rfl, hw1⟩
      rw [hw1]
      clear hw1 w1
      rw [decide_eq_true kv]
      go_wp2_with fail
      go_ret
      exact ⟨by rw [HE.out]; rfl, (Gr.refl _).alloc _⟩
  by_cases j3 : 60000 < s.drops
  · have HE : Hid (lB s.Right = false) := lB_ff (fun h => by have := h.1.2.2.2.2.2; omega)
    rcases HSEEN.out with s1 | ⟨s1, s2⟩
    · go_enter Tryz.func20, Tryz.ntmps20
      go_wp2_with fail
      refine (sval19_any _ _).mono ?_
      rintro e w1 ⟨rfl, hw1⟩
      rw [hw1]
      clear hw1 w1
      rw [decide_eq_true kv]
      go_wp2_with fail
      go_ret
      exact ⟨by rw [HE.out]; rfl, (Gr.refl _).alloc _⟩
    · go_enter Tryz.func20, Tryz.ntmps20
      go_wp2_with fail
      refine (sval19_any _ _).mono ?_
      rintro e w1 ⟨rfl, hw1⟩
      rw [hw1]
      clear hw1 w1
      rw [decide_eq_true kv]
      go_wp2_with fail
      go_ret
      exact ⟨by rw [HE.out]; rfl, (Gr.refl _).alloc _⟩
  by_cases j4 : (40 : Int) < (s.wait.length : Int)
  · have HE : Hid (lB s.Right = false) := lB_ff (fun h => by have := h.2.1; omega)
    rcases HSEEN.out with s1 | ⟨s1, s2⟩
    · go_enter Tryz.func20, Tryz.ntmps20
      go_wp2_with fail
      refine (sval19_any _ _).mono ?_
      rintro e w1 ⟨rfl, hw1⟩
      rw [hw1]
      clear hw1 w1
      rw [decide_eq_true kv]
      go_wp2_with fail
      go_ret
      exact ⟨by rw [HE.out]; rfl, (Gr.refl _).alloc _⟩
    · go_enter Tryz.func20, Tryz.ntmps20
      go_wp2_with fail
      refine (sval19_any _ _).mono ?_
      rintro e w1 ⟨rfl, hw1⟩
      rw [hw1]
      clear hw1 w1
      rw [decide_eq_true kv]
      go_wp2_with fail
      go_ret
      exact ⟨by rw [HE.out]; rfl, (Gr.refl _).alloc _⟩
  have HHD : Hid s.Head := ⟨⟨by omega, by omega⟩, ⟨by omega, by omega⟩, kv, HKS.out, ⟨by omega, by omega⟩, ⟨by omega, by omega⟩⟩
  have hlen : s.wait.length ≤ 40 := by omega
  have HIN0 := Lib.hid h0
  obtain ⟨se, hse⟩ : ∃ b : Bool, b = s.seen := ⟨_, rfl⟩
  rcases HSEEN.out with s1 | ⟨s1, s2⟩
  · have HW2 := HW.out
    clear HW
    have HW : Hid (W = w.alloc (.cells #[.int .i64 s.unit, .int .i64 s.band, .bool true, .int .i64 s.last, .int .i64 s.next, .slice a s.wait.length k, .int .i64 s.drops] 28)) := by show W = _; rw [HW2]; unfold stO; rw [s1]
    clear HW2 hse
    go_enter Tryz.func20, Tryz.ntmps20
    go_wp2_with fail
    refine (sval19_any _ _).mono ?_
    rintro e w1 ⟨rfl, hw1⟩
    rw [hw1]
    clear hw1 w1
    rw [decide_eq_true kv]
    go_wp2_with fail
    rw [← HW.out]
    clear HW
    go_loopw [3] (fun iv wr => ∃ (i : Nat), i ≤ s.wait.length ∧ iv = .int .i64 i ∧ Hid (Ln.Wt s.next (Ln.fl s.wait) i) ∧ Hid (wr.rowIs w.heap.size 28 7 (rowN (stL s a k))) ∧ Hid (Gr w wr)) (fun iv _ => s.wait.length - (intOf iv).toNat)
    case atStart => exact ⟨0, Nat.zero_le _, rfl, Ln.Wt.zero _ _, HR, HB⟩
    case round =>
      obtain ⟨i, hi, rfl, hP, hR, hB⟩ := hrel
      clear H HR HB
      obtain ⟨⟨p0, p1, p2, p3, p4, p5, p6⟩, _⟩ := rowN7 hR.out
      have hwl : w.heap.size < wr.heap.size := hR.out.lt
      by_cases hlt : i < s.wait.length
      · have hltz : (i : Int) < (s.wait.length : Int) := by omega
        have ha0 := hP.out.ah_nn
        have hA := Lib.hid (HIN0.out.below hB.out.bel)
        obtain ⟨b, o, rfl, q0, q1⟩ := hA.out.at2 hlt
        have hwb : b < wr.heap.size := World.block_lt_of_cell? _ _ q0
        obtain ⟨x, hx⟩ : ∃ x, x = Ln.fl s.wait (i * 2) := ⟨_, rfl⟩
        obtain ⟨y, hy⟩ : ∃ y, y = Ln.fl s.wait (i * 2 + 1) := ⟨_, rfl⟩
        rw [← hx] at q0
        rw [← hy] at q1
        have HX := Lib.hid hx
        have HY := Lib.hid hy
        clear hx hy
        obtain ⟨V, hV⟩ : ∃ V, V = wr.alloc (.cells #[.int .i64 x, .int .i64 y] 37) := ⟨_, rfl⟩
        have hbV : Below wr.heap.size wr V := by rw [hV]; exact nbel_alloc _ _
        have HBV : Hid (Gr w V) := by show Gr _ _; rw [hV]; exact hB.out.alloc _
        have HRT : Hid (V.rowIs w.heap.size 28 7 (rowN (stL s (some ⟨b, o, none⟩) k))) := nrow_below hR.out hbV
        have HV := Lib.hid hV
        have HDR : Hid (∀ n : Nat, Gr w (V.drewN n) ∧ (V.drewN n).rowIs w.heap.size 28 7 (rowN (stL s (some ⟨b, o, none⟩) k))) := fun n => ⟨HBV.out.drewN n, HRT.out.of_block rfl⟩
        rw [HV.out] at HDR
        clear hV hbV HRT
        have HX3 : ∀ (_ : ¬ (Ln.ah (Ln.fl s.wait) i < x ∧ x < s.next ∧ -1000000 ≤ y ∧ y ≤ 1000000)), Hid (lB s.Right = false) := fun hq => lB_ff (fun h => hq (by rw [HX.out, HY.out]; exact h.2.2 i hlt))
        have KV := Lib.hid (fun wx => sval19_any y wx)
        by_cases e1 : x < 1
        · have d1 : decide (x < 1) = true := by simpa using e1
          have HE := HX3 (fun hq => by omega)
          clear HX3
          go_wp2_with fail
          go_quiet (fail)
          go_wp2_with fail
          go_ret
          exact ⟨by rw [HE.out]; rfl, (HDR.out _).1⟩
        have d1 : decide (x < 1) = false := by simpa using e1
        by_cases e2 : s.next ≤ x
        · have d2 : decide (s.next ≤ x) = true := by simpa using e2
          have HE := HX3 (fun hq => by omega)
          clear HX3
          go_wp2_with fail
          go_quiet (fail)
          go_wp2_with fail
          go_ret
          exact ⟨by rw [HE.out]; rfl, (HDR.out _).1⟩
        have d2 : decide (s.next ≤ x) = false := by simpa using e2
        by_cases e7 : i = 0
        · have hA0 : Ln.ah (Ln.fl s.wait) i = 0 := by rw [e7]; rfl
          have hz0 : ¬ (0 : Int) < (i : Int) := by omega
          have hp0 : ¬ 0 < i := by omega
          have hd0 : decide (0 < i) = false := by simpa using hp0
          have hd1 : decide ((0 : Int) < (i : Int)) = false := by simpa using hz0
          by_cases e3 : -1000000 ≤ y ∧ y ≤ 1000000
          case neg =>
            have HE := HX3 (fun hq => e3 hq.2.2)
            rw [decide_eq_false e3] at KV
            clear HX3 e7 hA0 e3 ha0
            go_wp2_with fail
            go_quiet ((go_at_call 11; exact Calls.quiet_of_same (KV.out _)))
            go_wp2_with fail
            go_ret
            exact ⟨by rw [HE.out]; rfl, (HDR.out _).1⟩
          have HP2 : Hid (Ln.Wt s.next (Ln.fl s.wait) (i + 1)) := hP.out.step (by rw [hA0, ← HX.out]; omega) (by rw [← HX.out]; omega) (by rw [← HY.out]; omega) (by rw [← HY.out]; omega)
          rw [decide_eq_true e3] at KV
          clear HX3 e7 hA0 e3 ha0 hP
          go_wp2_with fail
          go_quiet ((go_at_call 11; exact Calls.quiet_of_same (KV.out _)))
          go_wp2_with fail
          go_roundw
          case rel => exact ⟨i + 1, by omega, by go_num, HP2, (HDR.out _).2, (HDR.out _).1⟩
          case measure => simp [intOf]; omega
        have hz0 : (0 : Int) < (i : Int) := by omega
        have hp0 : 0 < i := by omega
        have hd0 : decide (0 < i) = true := by simpa using hp0
        have hd1 : decide ((0 : Int) < (i : Int)) = true := by simpa using hz0
        have hz1 : ((i : Int) - 1).toNat = i - 1 := by omega
        have hz3 : ¬ (i : Int) - 1 < 0 := by omega
        have hz4 : (i : Int) - 1 < (s.wait.length : Int) := by omega
        have hz5 : IntKind.i64.wrap ((i : Int) - 1) = (i : Int) - 1 := lnwrap (by omega) (by omega)
        obtain ⟨b2, o2, hb2, r0, _⟩ := hA.out.at2 (i := i - 1) (by omega)
        cases hb2
        obtain ⟨z, hz⟩ : ∃ z, z = Ln.fl s.wait ((i - 1) * 2) := ⟨_, rfl⟩
        rw [← hz] at r0
        have HZ : Hid (Ln.ah (Ln.fl s.wait) i = z) := by
          show _ = _
          rw [hz]; unfold Ln.ah; rw [if_neg (by omega)]
        clear hz e7
        by_cases e8 : x ≤ z
        · have d8 : decide (x ≤ z) = true := by simpa using e8
          have HE := HX3 (fun hq => by rw [HZ.out] at hq; omega)
          clear HX3 ha0
          go_wp2_with fail
          go_quiet (fail)
          go_wp2_with fail
          go_ret
          exact ⟨by rw [HE.out]; rfl, (HDR.out _).1⟩
        have d8 : decide (x ≤ z) = false := by simpa using e8
        by_cases e3 : -1000000 ≤ y ∧ y ≤ 1000000
        case neg =>
          have HE := HX3 (fun hq => e3 hq.2.2)
          rw [decide_eq_false e3] at KV
          clear HX3 e3 ha0
          go_wp2_with fail
          go_quiet ((go_at_call 11; exact Calls.quiet_of_same (KV.out _)))
          go_wp2_with fail
          go_ret
          exact ⟨by rw [HE.out]; rfl, (HDR.out _).1⟩
        have HP2 : Hid (Ln.Wt s.next (Ln.fl s.wait) (i + 1)) := hP.out.step (by rw [HZ.out, ← HX.out]; omega) (by rw [← HX.out]; omega) (by rw [← HY.out]; omega) (by rw [← HY.out]; omega)
        rw [decide_eq_true e3] at KV
        clear HX3 e3 ha0 hP
        go_wp2_with fail
        go_quiet ((go_at_call 11; exact Calls.quiet_of_same (KV.out _)))
        go_wp2_with fail
        go_roundw
        case rel => exact ⟨i + 1, by omega, by go_num, HP2, (HDR.out _).2, (HDR.out _).1⟩
        case measure => simp [intOf]; omega
      · obtain rfl : i = s.wait.length := by omega
        have HE : Hid (lB s.Right = true) := lB_tt ⟨HHD.out, hlen, hP.out⟩
        go_wp2_with fail
        go_ret
        exact ⟨by rw [HE.out]; rfl, hB.out⟩
  · have HW2 := HW.out
    clear HW
    have HW : Hid (W = w.alloc (.cells #[.int .i64 s.unit, .int .i64 s.band, .bool false, .int .i64 s.last, .int .i64 s.next, .slice a s.wait.length k, .int .i64 s.drops] 28)) := by show W = _; rw [HW2]; unfold stO; rw [s1]
    clear HW2 hse
    go_enter Tryz.func20, Tryz.ntmps20
    go_wp2_with fail
    refine (sval19_any _ _).mono ?_
    rintro e w1 ⟨rfl, hw1⟩
    rw [hw1]
    clear hw1 w1
    rw [decide_eq_true kv]
    go_wp2_with fail
    rw [← HW.out]
    clear HW
    go_loopw [3] (fun iv wr => ∃ (i : Nat), i ≤ s.wait.length ∧ iv = .int .i64 i ∧ Hid (Ln.Wt s.next (Ln.fl s.wait) i) ∧ Hid (wr.rowIs w.heap.size 28 7 (rowN (stL s a k))) ∧ Hid (Gr w wr)) (fun iv _ => s.wait.length - (intOf iv).toNat)
    case atStart => exact ⟨0, Nat.zero_le _, rfl, Ln.Wt.zero _ _, HR, HB⟩
    case round =>
      obtain ⟨i, hi, rfl, hP, hR, hB⟩ := hrel
      clear H HR HB
      obtain ⟨⟨p0, p1, p2, p3, p4, p5, p6⟩, _⟩ := rowN7 hR.out
      have hwl : w.heap.size < wr.heap.size := hR.out.lt
      by_cases hlt : i < s.wait.length
      · have hltz : (i : Int) < (s.wait.length : Int) := by omega
        have ha0 := hP.out.ah_nn
        have hA := Lib.hid (HIN0.out.below hB.out.bel)
        obtain ⟨b, o, rfl, q0, q1⟩ := hA.out.at2 hlt
        have hwb : b < wr.heap.size := World.block_lt_of_cell? _ _ q0
        obtain ⟨x, hx⟩ : ∃ x, x = Ln.fl s.wait (i * 2) := ⟨_, rfl⟩
        obtain ⟨y, hy⟩ : ∃ y, y = Ln.fl s.wait (i * 2 + 1) := ⟨_, rfl⟩
        rw [← hx] at q0
        rw [← hy] at q1
        have HX := Lib.hid hx
        have HY := Lib.hid hy
        clear hx hy
        obtain ⟨V, hV⟩ : ∃ V, V = wr.alloc (.cells #[.int .i64 x, .int .i64 y] 37) := ⟨_, rfl⟩
        have hbV : Below wr.heap.size wr V := by rw [hV]; exact nbel_alloc _ _
        have HBV : Hid (Gr w V) := by show Gr _ _; rw [hV]; exact hB.out.alloc _
        have HRT : Hid (V.rowIs w.heap.size 28 7 (rowN (stL s (some ⟨b, o, none⟩) k))) := nrow_below hR.out hbV
        have HV := Lib.hid hV
        have HDR : Hid (∀ n : Nat, Gr w (V.drewN n) ∧ (V.drewN n).rowIs w.heap.size 28 7 (rowN (stL s (some ⟨b, o, none⟩) k))) := fun n => ⟨HBV.out.drewN n, HRT.out.of_block rfl⟩
        rw [HV.out] at HDR
        clear hV hbV HRT
        have HX3 : ∀ (_ : ¬ (Ln.ah (Ln.fl s.wait) i < x ∧ x < s.next ∧ -1000000 ≤ y ∧ y ≤ 1000000)), Hid (lB s.Right = false) := fun hq => lB_ff (fun h => hq (by rw [HX.out, HY.out]; exact h.2.2 i hlt))
        have KV := Lib.hid (fun wx => sval19_any y wx)
        by_cases e1 : x < 1
        · have d1 : decide (x < 1) = true := by simpa using e1
          have HE := HX3 (fun hq => by omega)
          clear HX3
          go_wp2_with fail
          go_quiet (fail)
          go_wp2_with fail
          go_ret
          exact ⟨by rw [HE.out]; rfl, (HDR.out _).1⟩
        have d1 : decide (x < 1) = false := by simpa using e1
        by_cases e2 : s.next ≤ x
        · have d2 : decide (s.next ≤ x) = true := by simpa using e2
          have HE := HX3 (fun hq => by omega)
          clear HX3
          go_wp2_with fail
          go_quiet (fail)
          go_wp2_with fail
          go_ret
          exact ⟨by rw [HE.out]; rfl, (HDR.out _).1⟩
        have d2 : decide (s.next ≤ x) = false := by simpa using e2
        by_cases e7 : i = 0
        · have hA0 : Ln.ah (Ln.fl s.wait) i = 0 := by rw [e7]; rfl
          have hz0 : ¬ (0 : Int) < (i : Int) := by omega
          have hp0 : ¬ 0 < i := by omega
          have hd0 : decide (0 < i) = false := by simpa using hp0
          have hd1 : decide ((0 : Int) < (i : Int)) = false := by simpa using hz0
          by_cases e3 : -1000000 ≤ y ∧ y ≤ 1000000
          case neg =>
            have HE := HX3 (fun hq => e3 hq.2.2)
            rw [decide_eq_false e3] at KV
            clear HX3 e7 hA0 e3 ha0
            go_wp2_with fail
            go_quiet ((go_at_call 11; exact Calls.quiet_of_same (KV.out _)))
            go_wp2_with fail
            go_ret
            exact ⟨by rw [HE.out]; rfl, (HDR.out _).1⟩
          have HP2 : Hid (Ln.Wt s.next (Ln.fl s.wait) (i + 1)) := hP.out.step (by rw [hA0, ← HX.out]; omega) (by rw [← HX.out]; omega) (by rw [← HY.out]; omega) (by rw [← HY.out]; omega)
          rw [decide_eq_true e3] at KV
          clear HX3 e7 hA0 e3 ha0 hP
          go_wp2_with fail
          go_quiet ((go_at_call 11; exact Calls.quiet_of_same (KV.out _)))
          go_wp2_with fail
          go_roundw
          case rel => exact ⟨i + 1, by omega, by go_num, HP2, (HDR.out _).2, (HDR.out _).1⟩
          case measure => simp [intOf]; omega
        have hz0 : (0 : Int) < (i : Int) := by omega
        have hp0 : 0 < i := by omega
        have hd0 : decide (0 < i) = true := by simpa using hp0
        have hd1 : decide ((0 : Int) < (i : Int)) = true := by simpa using hz0
        have hz1 : ((i : Int) - 1).toNat = i - 1 := by omega
        have hz3 : ¬ (i : Int) - 1 < 0 := by omega
        have hz4 : (i : Int) - 1 < (s.wait.length : Int) := by omega
        have hz5 : IntKind.i64.wrap ((i : Int) - 1) = (i : Int) - 1 := lnwrap (by omega) (by omega)
        obtain ⟨b2, o2, hb2, r0, _⟩ := hA.out.at2 (i := i - 1) (by omega)
        cases hb2
        obtain ⟨z, hz⟩ : ∃ z, z = Ln.fl s.wait ((i - 1) * 2) := ⟨_, rfl⟩
        rw [← hz] at r0
        have HZ : Hid (Ln.ah (Ln.fl s.wait) i = z) := by
          show _ = _
          rw [hz]; unfold Ln.ah; rw [if_neg (by omega)]
        clear hz e7
        by_cases e8 : x ≤ z
        · have d8 : decide (x ≤ z) = true := by simpa using e8
          have HE := HX3 (fun hq => by rw [HZ.out] at hq; omega)
          clear HX3 ha0
          go_wp2_with fail
          go_quiet (fail)
          go_wp2_with fail
          go_ret
          exact ⟨by rw [HE.out]; rfl, (HDR.out _).1⟩
        have d8 : decide (x ≤ z) = false := by simpa using e8
        by_cases e3 : -1000000 ≤ y ∧ y ≤ 1000000
        case neg =>
          have HE := HX3 (fun hq => e3 hq.2.2)
          rw [decide_eq_false e3] at KV
          clear HX3 e3 ha0
          go_wp2_with fail
          go_quiet ((go_at_call 11; exact Calls.quiet_of_same (KV.out _)))
          go_wp2_with fail
          go_ret
          exact ⟨by rw [HE.out]; rfl, (HDR.out _).1⟩
        have HP2 : Hid (Ln.Wt s.next (Ln.fl s.wait) (i + 1)) := hP.out.step (by rw [HZ.out, ← HX.out]; omega) (by rw [← HX.out]; omega) (by rw [← HY.out]; omega) (by rw [← HY.out]; omega)
        rw [decide_eq_true e3] at KV
        clear HX3 e3 ha0 hP
        go_wp2_with fail
        go_quiet ((go_at_call 11; exact Calls.quiet_of_same (KV.out _)))
        go_wp2_with fail
        go_roundw
        case rel => exact ⟨i + 1, by omega, by go_num, HP2, (HDR.out _).2, (HDR.out _).1⟩
        case measure => simp [intOf]; omega
      · obtain rfl : i = s.wait.length := by omega
        have HE : Hid (lB s.Right = true) := lB_tt ⟨HHD.out, hlen, hP.out⟩
        go_wp2_with fail
        go_ret
        exact ⟨by rw [HE.out]; rfl, hB.out⟩
end Go.Proofs.YtdlojhncbgfjbaaGreatDoor
