/-
  The program's uses: right ones, the water between two days, UseOf.
-/
import Derived.Test.YtmejmpdljckfgaaDoorMtMem
import Derived.Test.YtmejmpdljckfgaaDoorAw
import Derived.Test.YtmejmpdljckfgaaDoorReg
namespace Go.Proofs.YtmejmpdljckfgaaDoor
open Go.RowKit Go.Deep

set_option maxRecDepth 100000 in
set_option maxHeartbeats 1000000 in
theorem mnear_any (a b x y : Int) (hy : Mt.near a b x = y) (w : World) : Calls Tryd.prog 71 #[.agg #[.int .i64 a, .int .i64 b], .int .i64 x] w fun e w' => e = .returned (.int .i64 y) ∧ Below w.heap.size w w' := by
  have HB := Lib.hid (nbel_alloc w (.cells #[.int .i64 a, .int .i64 b] 97))
  have HY := Lib.hid hy
  clear hy
  by_cases h1 : x < a
  · by_cases h2 : b < a
    · have e1 : Hid (y = b) := by show y = b; rw [← HY.out]; unfold Mt.near; omega
      go_enter Tryd.func71, Tryd.ntmps71
      go_wp2_with fail
      go_ret
      exact ⟨by rw [e1.out]; rfl, HB.out⟩
    · have e1 : Hid (y = a) := by show y = a; rw [← HY.out]; unfold Mt.near; omega
      go_enter Tryd.func71, Tryd.ntmps71
      go_wp2_with fail
      go_ret
      exact ⟨by rw [e1.out]; rfl, HB.out⟩
  · by_cases h2 : b < x
    · have e1 : Hid (y = b) := by show y = b; rw [← HY.out]; unfold Mt.near; omega
      go_enter Tryd.func71, Tryd.ntmps71
      go_wp2_with fail
      go_ret
      exact ⟨by rw [e1.out]; rfl, HB.out⟩
    · have e1 : Hid (y = x) := by show y = x; rw [← HY.out]; unfold Mt.near; omega
      go_enter Tryd.func71, Tryd.ntmps71
      go_wp2_with fail
      go_ret
      exact ⟨by rw [e1.out]; rfl, HB.out⟩
abbrev usV (u0 u1 u2 u3 : Int) : Value := .agg #[.int .i64 u0, .int .i64 u1, .int .i64 u2, .int .i64 u3]
def Mt.Use1 (u0 u1 u2 : Int) : Prop := ((0 ≤ u0 ∧ u0 < u1) ∧ u1 ≤ 100000) ∧ (0 ≤ u2 ∧ u2 ≤ 1000000000)
set_option maxRecDepth 100000 in
set_option maxHeartbeats 2000000 in
theorem useRight_any (u0 u1 u2 u3 : Int) (w : World) :
    Calls Tryd.prog 35 #[usV u0 u1 u2 u3] w fun e w' => e = .returned (.bool (Mt.dB (Mt.Use1 u0 u1 u2))) ∧ Below w.heap.size w w' := by
  obtain ⟨W, hW⟩ : ∃ W, W = w.alloc (.cells #[.int .i64 u0, .int .i64 u1, .int .i64 u2, .int .i64 u3] 33) := ⟨_, rfl⟩
  have HB : Hid (Below w.heap.size w W) := by show Below _ _ _; rw [hW]; exact nbel_alloc _ _
  have HR : Hid (W.rowIs w.heap.size 33 4 (rowN [.int .i64 u0, .int .i64 u1, .int .i64 u2, .int .i64 u3])) := by show W.rowIs _ _ _ _; rw [hW]; exact rowN_alloc w _ _
  have HW := Lib.hid hW
  by_cases c1 : 0 ≤ u0
  case neg =>
    have HE : Hid (Mt.dB (Mt.Use1 u0 u1 u2) = false) := Mt.dB_ff (fun h => c1 h.1.1.1)
    clear hW
    go_enter Tryd.func35, Tryd.ntmps35
    go_wp2_with fail
    rw [← HW.out]
    go_ret
    exact ⟨by rw [HE.out]; rfl, HB.out⟩
  by_cases c2 : u0 < u1
  case neg =>
    have HE : Hid (Mt.dB (Mt.Use1 u0 u1 u2) = false) := Mt.dB_ff (fun h => c2 h.1.1.2)
    clear hW
    go_enter Tryd.func35, Tryd.ntmps35
    go_wp2_with fail
    rw [← HW.out]
    go_ret
    exact ⟨by rw [HE.out]; rfl, HB.out⟩
  by_cases c3 : u1 ≤ 100000
  case neg =>
    have HE : Hid (Mt.dB (Mt.Use1 u0 u1 u2) = false) := Mt.dB_ff (fun h => c3 h.1.2)
    clear hW
    go_enter Tryd.func35, Tryd.ntmps35
    go_wp2_with fail
    rw [← HW.out]
    go_ret
    exact ⟨by rw [HE.out]; rfl, HB.out⟩
  clear hW
  go_enter Tryd.func35, Tryd.ntmps35
  go_wp2_with fail
  rw [← HW.out]
  refine (awithin_any _ _ _).mono ?_
  rintro e w1 ⟨rfl, rfl⟩
  by_cases c4 : 0 ≤ u2 ∧ u2 ≤ 1000000000
  · rw [decide_eq_true c4]
    have HE : Hid (Mt.dB (Mt.Use1 u0 u1 u2) = true) := Mt.dB_tt ⟨⟨⟨c1, c2⟩, c3⟩, c4⟩
    clear c4 HW
    go_wp2_with fail
    go_ret
    exact ⟨by rw [HE.out]; rfl, HB.out⟩
  · rw [decide_eq_false c4]
    have HE : Hid (Mt.dB (Mt.Use1 u0 u1 u2) = false) := Mt.dB_ff (fun h => c4 h.2)
    clear c4 HW
    go_wp2_with fail
    go_ret
    exact ⟨by rw [HE.out]; rfl, HB.out⟩
/-- What is read while the water between two days is reckoned. -/
structure UsS (w : World) (u0 u1 u2 u3 : Int) (W : World) : Prop where
  r : W.rowIs w.heap.size 33 4 (rowN [.int .i64 u0, .int .i64 u1, .int .i64 u2, .int .i64 u3])
  s : W.rowIs (w.heap.size + 1) 97 2 (rowN [.int .i64 u0, .int .i64 u1])
  old : Below w.heap.size w W
theorem UsS.below {w : World} {u0 u1 u2 u3 : Int} {W W' : World} (h : UsS w u0 u1 u2 u3 W) (hb : Below W.heap.size W W') : UsS w u0 u1 u2 u3 W' := ⟨nrow_below h.r hb, nrow_below h.s hb, h.old.trans (hb.mono h.old.size)⟩
set_option maxRecDepth 100000 in
set_option maxHeartbeats 4000000 in
theorem waterB_any (u0 u1 u2 u3 a b : Int) (hu : Mt.Use1 u0 u1 u2) (hab : a ≤ b) (w : World) :
    Calls Tryd.prog 36 #[usV u0 u1 u2 u3, .int .i64 a, .int .i64 b] w fun e w' => e = .returned (.int .i64 (u2 * (Mt.near u0 u1 b - Mt.near u0 u1 a) / (u1 - u0))) ∧ Below w.heap.size w w' := by
  obtain ⟨na, hna⟩ : ∃ x, Mt.near u0 u1 a = x := ⟨_, rfl⟩
  obtain ⟨nb, hnb⟩ : ∃ x, Mt.near u0 u1 b = x := ⟨_, rfl⟩
  have HNA := Lib.hid hna
  have HNB := Lib.hid hnb
  obtain ⟨⟨⟨k0, k1⟩, k2⟩, k3, k4⟩ := hu
  have p1 := Mt.near_bd (x := a) k1
  have p2 := Mt.near_bd (x := b) k1
  have p3 := Mt.near_mono (lo := u0) (hi := u1) hab
  rw [hna] at p1 p3
  rw [hnb] at p2 p3
  rw [hna, hnb]
  obtain ⟨Q, hQ⟩ : ∃ Q, u1 - u0 = Q := ⟨_, rfl⟩
  obtain ⟨P, hP⟩ : ∃ P, u2 * (nb - na) = P := ⟨_, rfl⟩
  have q1 : 0 ≤ P := by rw [← hP]; exact Int.mul_nonneg k3 (by omega)
  have q2 : P ≤ 1000000000 * 100000 := by rw [← hP]; exact Int.mul_le_mul k4 (by omega) (by omega) (by omega)
  have q3 : P ≤ 100000000000000 := by omega
  have q4 : 0 < Q ∧ Q ≤ 100000 := by omega
  have q5 : (Q == 0) = false := by simp; omega
  have q6 : P.tdiv Q = P / Q := Int.tdiv_eq_ediv_of_nonneg q1
  have q7 : 0 ≤ P / Q ∧ P / Q ≤ 100000000000000 := ⟨Int.ediv_nonneg q1 (by omega), Int.le_trans (Int.ediv_le_self _ q1) q3⟩
  rw [hP, hQ]
  have w1 : IntKind.i64.wrap Q = Q := mwrap_id (by omega) (by omega)
  have w2 : IntKind.i64.wrap (nb - na) = nb - na := mwrap_id (by omega) (by omega)
  have w3 : IntKind.i64.wrap P = P := mwrap_id (by omega) (by omega)
  have w4 : IntKind.i64.wrap (P / Q) = P / Q := mwrap_id (by omega) (by omega)
  have q8 : ¬ Q = 0 := by omega
  clear hna hnb q2
  have HS0 : Hid (UsS w u0 u1 u2 u3 ((w.alloc (.cells #[.int .i64 u0, .int .i64 u1, .int .i64 u2, .int .i64 u3] 33)).alloc (.cells #[.int .i64 u0, .int .i64 u1] 97))) := ⟨nrow_below (rowN_alloc w _ _) (nbel_alloc _ _), rowN_alloc' (by simp) _ _, (nbel_alloc _ _).alloc (by simp) _⟩
  go_enter Tryd.func36, Tryd.ntmps36
  go_wp2_with fail
  refine wp_region_held_drew (S := UsS w u0 u1 u2 u3) (by kernel_rfl) (HS0.out.below (Below.refl _ _).drew) (fun hHeld => ?_)
  clear HS0
  refine take_do (i := 0) (v := (.pointer (some ⟨w.heap.size, 2, none⟩))) rfl (by kernel_rfl) (by kernel_rfl) (by kernel_rfl) (fun _ _ _ h => h) (by rfl) ?_ (by assumption) ?_
  · intro w hSw
    obtain ⟨⟨a0, a1, a2, a3⟩, _⟩ := rowN4 hSw.r; obtain ⟨⟨b0, b1⟩, _⟩ := rowN2 hSw.s
    go_simp
  simp only [Act.put, List.setIfInBounds_toArray, List.set_cons_zero, List.set_cons_succ]
  refine take_do (i := 1) (v := (.int .i64 u2)) rfl (by kernel_rfl) (by kernel_rfl) (by kernel_rfl) (fun _ _ _ h => h) (by rfl) ?_ (by assumption) ?_
  · intro w hSw
    obtain ⟨⟨a0, a1, a2, a3⟩, _⟩ := rowN4 hSw.r; obtain ⟨⟨b0, b1⟩, _⟩ := rowN2 hSw.s
    go_simp
  simp only [Act.put, List.setIfInBounds_toArray, List.set_cons_zero, List.set_cons_succ]
  refine take_do (i := 2) (v := (.agg #[.int .i64 u0, .int .i64 u1])) rfl (by kernel_rfl) (by kernel_rfl) (by kernel_rfl) (fun _ _ _ h => h) (by rfl) ?_ (by assumption) ?_
  · intro w hSw
    obtain ⟨⟨a0, a1, a2, a3⟩, _⟩ := rowN4 hSw.r; obtain ⟨⟨b0, b1⟩, _⟩ := rowN2 hSw.s
    go_simp
  simp only [Act.put, List.setIfInBounds_toArray, List.set_cons_zero, List.set_cons_succ]
  refine take_do (i := 3) (v := (.int .i64 b)) rfl (by kernel_rfl) (by kernel_rfl) (by kernel_rfl) (fun _ _ _ h => h) (by rfl) ?_ (by assumption) ?_
  · intro w hSw
    obtain ⟨⟨a0, a1, a2, a3⟩, _⟩ := rowN4 hSw.r; obtain ⟨⟨b0, b1⟩, _⟩ := rowN2 hSw.s
    go_simp
  simp only [Act.put, List.setIfInBounds_toArray, List.set_cons_zero, List.set_cons_succ]
  refine take_do (i := 5) (v := (.agg #[.int .i64 u0, .int .i64 u1])) rfl (by kernel_rfl) (by kernel_rfl) (by kernel_rfl) (fun _ _ _ h => h) (by rfl) ?_ (by assumption) ?_
  · intro w hSw
    obtain ⟨⟨a0, a1, a2, a3⟩, _⟩ := rowN4 hSw.r; obtain ⟨⟨b0, b1⟩, _⟩ := rowN2 hSw.s
    go_simp
  simp only [Act.put, List.setIfInBounds_toArray, List.set_cons_zero, List.set_cons_succ]
  refine take_do (i := 6) (v := (.int .i64 a)) rfl (by kernel_rfl) (by kernel_rfl) (by kernel_rfl) (fun _ _ _ h => h) (by rfl) ?_ (by assumption) ?_
  · intro w hSw
    obtain ⟨⟨a0, a1, a2, a3⟩, _⟩ := rowN4 hSw.r; obtain ⟨⟨b0, b1⟩, _⟩ := rowN2 hSw.s
    go_simp
  simp only [Act.put, List.setIfInBounds_toArray, List.set_cons_zero, List.set_cons_succ]
  refine take_do (i := 10) (v := (.pointer (some ⟨w.heap.size, 1, none⟩))) rfl (by kernel_rfl) (by kernel_rfl) (by kernel_rfl) (fun _ _ _ h => h) (by rfl) ?_ (by assumption) ?_
  · intro w hSw
    obtain ⟨⟨a0, a1, a2, a3⟩, _⟩ := rowN4 hSw.r; obtain ⟨⟨b0, b1⟩, _⟩ := rowN2 hSw.s
    go_simp
  simp only [Act.put, List.setIfInBounds_toArray, List.set_cons_zero, List.set_cons_succ]
  refine take_do (i := 11) (v := (.int .i64 u1)) rfl (by kernel_rfl) (by kernel_rfl) (by kernel_rfl) (fun _ _ _ h => h) (by rfl) ?_ (by assumption) ?_
  · intro w hSw
    obtain ⟨⟨a0, a1, a2, a3⟩, _⟩ := rowN4 hSw.r; obtain ⟨⟨b0, b1⟩, _⟩ := rowN2 hSw.s
    go_simp
  simp only [Act.put, List.setIfInBounds_toArray, List.set_cons_zero, List.set_cons_succ]
  refine take_do (i := 12) (v := (.pointer (some ⟨w.heap.size, 0, none⟩))) rfl (by kernel_rfl) (by kernel_rfl) (by kernel_rfl) (fun _ _ _ h => h) (by rfl) ?_ (by assumption) ?_
  · intro w hSw
    obtain ⟨⟨a0, a1, a2, a3⟩, _⟩ := rowN4 hSw.r; obtain ⟨⟨b0, b1⟩, _⟩ := rowN2 hSw.s
    go_simp
  simp only [Act.put, List.setIfInBounds_toArray, List.set_cons_zero, List.set_cons_succ]
  refine take_do (i := 13) (v := (.int .i64 u0)) rfl (by kernel_rfl) (by kernel_rfl) (by kernel_rfl) (fun _ _ _ h => h) (by rfl) ?_ (by assumption) ?_
  · intro w hSw
    obtain ⟨⟨a0, a1, a2, a3⟩, _⟩ := rowN4 hSw.r; obtain ⟨⟨b0, b1⟩, _⟩ := rowN2 hSw.s
    go_simp
  simp only [Act.put, List.setIfInBounds_toArray, List.set_cons_zero, List.set_cons_succ]
  refine take_do (i := 14) (v := (.int .i64 Q)) rfl (by kernel_rfl) (by kernel_rfl) (by kernel_rfl) (fun _ _ _ h => h) (by rfl) ?_ (by assumption) ?_
  · intro w hSw
    obtain ⟨⟨a0, a1, a2, a3⟩, _⟩ := rowN4 hSw.r; obtain ⟨⟨b0, b1⟩, _⟩ := rowN2 hSw.s
    go_simp
  simp only [Act.put, List.setIfInBounds_toArray, List.set_cons_zero, List.set_cons_succ]
  refine take_call (i := 4) rfl (by kernel_rfl) (fun K2 hK => ?_)
  go_simp
  refine (mnear_any u0 u1 b nb HNB.out _).mono ?_
  rintro e w1 ⟨rfl, hb⟩
  go_wp2_with fail
  refine hK.out _ _ (hHeld.below hb) (fun hHeld2 => ?_)
  clear hK hHeld hb
  have hHeld := hHeld2
  clear hHeld2
  refine take_call (i := 7) rfl (by kernel_rfl) (fun K2 hK => ?_)
  go_simp
  refine (mnear_any u0 u1 a na HNA.out _).mono ?_
  rintro e w2 ⟨rfl, hb⟩
  go_wp2_with fail
  refine hK.out _ _ (hHeld.below hb) (fun hHeld2 => ?_)
  clear hK hHeld hb
  have hHeld := hHeld2
  clear hHeld2
  refine take_do (i := 8) (v := (.int .i64 (nb - na))) rfl (by kernel_rfl) (by kernel_rfl) (by kernel_rfl) (fun _ _ _ h => h) (by rfl) ?_ (by assumption) ?_
  · intro w hSw
    obtain ⟨⟨a0, a1, a2, a3⟩, _⟩ := rowN4 hSw.r; obtain ⟨⟨b0, b1⟩, _⟩ := rowN2 hSw.s
    go_simp
  simp only [Act.put, List.setIfInBounds_toArray, List.set_cons_zero, List.set_cons_succ]
  refine take_do (i := 9) (v := (.int .i64 P)) rfl (by kernel_rfl) (by kernel_rfl) (by kernel_rfl) (fun _ _ _ h => h) (by rfl) ?_ (by assumption) ?_
  · intro w hSw
    obtain ⟨⟨a0, a1, a2, a3⟩, _⟩ := rowN4 hSw.r; obtain ⟨⟨b0, b1⟩, _⟩ := rowN2 hSw.s
    go_simp
  simp only [Act.put, List.setIfInBounds_toArray, List.set_cons_zero, List.set_cons_succ]
  refine take_do (i := 15) (v := (.int .i64 (P / Q))) rfl (by kernel_rfl) (by kernel_rfl) (by kernel_rfl) (fun _ _ _ h => h) (by rfl) ?_ (by assumption) ?_
  · intro w hSw
    obtain ⟨⟨a0, a1, a2, a3⟩, _⟩ := rowN4 hSw.r; obtain ⟨⟨b0, b1⟩, _⟩ := rowN2 hSw.s
    go_simp
  simp only [Act.put, List.setIfInBounds_toArray, List.set_cons_zero, List.set_cons_succ]
  refine take_do (i := 16) (v := (.int .i64 (P / Q))) rfl (by kernel_rfl) (by kernel_rfl) (by kernel_rfl) (fun _ _ _ h => h) (by rfl) ?_ (by assumption) ?_
  · intro w hSw
    obtain ⟨⟨a0, a1, a2, a3⟩, _⟩ := rowN4 hSw.r; obtain ⟨⟨b0, b1⟩, _⟩ := rowN2 hSw.s
    go_simp
  simp only [Act.put, List.setIfInBounds_toArray, List.set_cons_zero, List.set_cons_succ]
  refine wpAnyH_done (by kernel_rfl) ?_ _
  have HB := Lib.hid hHeld.old
  clear hHeld
  go_wp2_with fail
  go_ret
  exact ⟨rfl, HB.out⟩
set_option maxRecDepth 100000 in
set_option maxHeartbeats 4000000 in
theorem implUse_any (la : Option Addr) (n cap : Nat) (U : Nat → Int) (a b : Int) (w : World) (h : IsAt la (n * 4) U w) (hn : n ≤ 1048576) :
    Calls Tryd.prog 9 #[.slice la n cap, .int .i64 a, .int .i64 b] w fun e w' => e = .returned (.int .i64 (Mt.useOf n U a b)) ∧ Below w.heap.size w w' := by
  by_cases c1 : (400 : Int) < (n : Int)
  · have HE := Lib.hid (Mt.useOf_no (n := n) (U := U) (a := a) (b := b) (fun h => by have := h.1; omega))
    go_enter Tryd.func9, Tryd.ntmps9
    go_wp2_with fail
    go_ret
    exact ⟨by rw [HE.out]; rfl, Below.refl _ _⟩
  by_cases c2 : b < a
  · have HE := Lib.hid (Mt.useOf_no (n := n) (U := U) (a := a) (b := b) (fun h => by have := h.2.1; omega))
    go_enter Tryd.func9, Tryd.ntmps9
    go_wp2_with fail
    go_ret
    exact ⟨by rw [HE.out]; rfl, Below.refl _ _⟩
  have H := Lib.hid h
  have hab : a ≤ b := by omega
  have hn4 : n ≤ 400 := by omega
  clear h
  go_enter Tryd.func9, Tryd.ntmps9
  go_wp2_with fail
  go_loopw [7, 9, 20] (fun sv _ iv wr => ∃ (i : Nat) (x : Int), i ≤ n ∧ sv = .int .i64 x ∧ iv = .int .i64 i ∧ Hid (Below w.heap.size w wr) ∧ Hid (x = Mt.sum U a b i) ∧ Hid (∀ j, j < i → Mt.UseOk U j)) (fun _ _ iv _ => n - (intOf iv).toNat)
  case atStart => exact ⟨0, 0, Nat.zero_le _, rfl, rfl, Below.refl _ _, rfl, fun j hj => absurd hj (Nat.not_lt_zero _)⟩
  case round =>
    obtain ⟨i, x, hi, rfl, rfl, hB, hx, hP⟩ := hrel
    have hbx : 0 ≤ x ∧ x ≤ 100000000000000000 := by rw [hx.out]; have := Mt.sum_bd (U := U) hab i hP.out; omega
    by_cases hlt : i < n
    · have hltz : (i : Int) < (n : Int) := by omega
      obtain ⟨g, e, c0, c1, c2, c3⟩ := (H.out.below hB.out).at4 hlt
      subst e
      have zg : g < wr.heap.size := World.block_lt_of_cell? _ _ c0
      obtain ⟨u0, hu0⟩ : ∃ u, u = U (i * 4) := ⟨_, rfl⟩
      obtain ⟨u1, hu1⟩ : ∃ u, u = U (i * 4 + 1) := ⟨_, rfl⟩
      obtain ⟨u2, hu2⟩ : ∃ u, u = U (i * 4 + 2) := ⟨_, rfl⟩
      obtain ⟨u3, hu3⟩ : ∃ u, u = U (i * 4 + 3) := ⟨_, rfl⟩
      rw [← hu0] at c0
      rw [← hu1] at c1
      rw [← hu2] at c2
      rw [← hu3] at c3
      have HU : Hid (Mt.UseOk U i ↔ Mt.Use1 u0 u1 u2) := by show Mt.UseOk U i ↔ Mt.Use1 u0 u1 u2; rw [hu0, hu1, hu2]; exact Iff.rfl
      have HPt : Hid (Mt.part U a b i = u2 * (Mt.near u0 u1 b - Mt.near u0 u1 a) / (u1 - u0)) := by show _ = _; rw [hu0, hu1, hu2]; rfl
      clear hu0 hu1 hu2 hu3
      obtain ⟨W, hW⟩ : ∃ W, W = wr.alloc (.cells #[.int .i64 u0, .int .i64 u1, .int .i64 u2, .int .i64 u3] 33) := ⟨_, rfl⟩
      have HB0 : Hid (Below w.heap.size w W) := by show Below _ _ _; rw [hW]; exact hB.out.alloc hB.out.size _
      have HR0 : Hid (W.rowIs wr.heap.size 33 4 (rowN [.int .i64 u0, .int .i64 u1, .int .i64 u2, .int .i64 u3])) := by show W.rowIs _ _ _ _; rw [hW]; exact rowN_alloc wr _ _
      have HW := Lib.hid hW
      clear hW hB
      go_wp2_with fail
      rw [← HW.out]
      clear HW
      refine (useRight_any u0 u1 u2 u3 _).mono ?_
      rintro e w1 ⟨rfl, hb⟩
      have HB1 : Hid (Below w.heap.size w w1) := HB0.out.trans (hb.mono HB0.out.size)
      have HR1 := Lib.hid (nrow_below HR0.out hb)
      clear hb HB0 HR0 c0 c1 c2 c3
      by_cases c4 : Mt.Use1 u0 u1 u2
      case neg =>
        rw [Mt.dB_ff c4]
        have HE := Lib.hid (Mt.useOf_no (n := n) (U := U) (a := a) (b := b) (fun h => c4 (HU.out.1 (h.2.2 i hlt))))
        clear c4
        go_wp2_with fail
        go_ret
        exact ⟨by rw [HE.out]; rfl, HB1.out⟩
      rw [Mt.dB_tt c4]
      have HC4 := Lib.hid c4
      clear c4
      obtain ⟨⟨a0, a1, a2, a3⟩, _⟩ := rowN4 HR1.out
      go_wp2_with fail
      refine (waterB_any u0 u1 u2 u3 a b HC4.out hab _).mono ?_
      rintro e w2 ⟨rfl, hb⟩
      have HB2 : Hid (Below w.heap.size w w2) := HB1.out.trans (hb.mono HB1.out.size)
      clear hb HB1 a0 a1 a2 a3 HR1
      rw [← HPt.out]
      obtain ⟨p, hp⟩ : ∃ p, p = Mt.part U a b i := ⟨_, rfl⟩
      rw [← hp]
      have hpb : 0 ≤ p ∧ p ≤ 100000000000000 := by rw [hp]; exact Mt.part_bd (HU.out.2 HC4.out) hab
      have HPP := Lib.hid hp
      clear hp
      go_wp2_with fail
      go_roundw
      case rel => exact ⟨i + 1, x + p, by omega, rfl, by go_num, HB2, by show x + p = Mt.sum U a b (i + 1); rw [hx.out, HPP.out]; rfl, fun j hj => by
        by_cases e : j = i
        · subst e; exact HU.out.2 HC4.out
        · exact hP.out j (by omega)⟩
      case measure => simp [intOf]; omega
    · obtain rfl : i = n := by omega
      have HE : Hid (Mt.useOf i U a b = x) := by show _ = _; rw [Mt.useOf_ok ⟨hn4, hab, hP.out⟩, hx.out]
      clear hx
      go_wp2_with fail
      go_ret
      exact ⟨by rw [HE.out]; rfl, hB.out⟩
end Go.Proofs.YtmejmpdljckfgaaDoor
