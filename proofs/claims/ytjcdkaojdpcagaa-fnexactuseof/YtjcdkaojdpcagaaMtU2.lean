/-
  The model's UseOf.
-/
import Derived.Test.YtjcdkaojdpcagaaMtMem
import Derived.Test.YtjcdkaojdpcagaaAw
namespace Go.Proofs.Ytjcdkaojdpcagaa
open Go.RowKit Go.Deep

set_option maxHeartbeats 1000000 in
theorem mtMax_any (a b : Int) (w : World) : Calls Try.prog 22 #[.int .i64 a, .int .i64 b] w fun e w' => e = .returned (.int .i64 (max a b)) ∧ w' = w := by
  by_cases h : b < a
  · have e1 : Hid (max a b = a) := by show _ = _; omega
    go_enter Try.func22, Try.ntmps22
    go_wp2_with fail
    go_ret
    exact ⟨by rw [e1.out]; rfl, rfl⟩
  · have e1 : Hid (max a b = b) := by show _ = _; omega
    go_enter Try.func22, Try.ntmps22
    go_wp2_with fail
    go_ret
    exact ⟨by rw [e1.out]; rfl, rfl⟩
set_option maxHeartbeats 1000000 in
theorem mtMin_any (a b : Int) (w : World) : Calls Try.prog 23 #[.int .i64 a, .int .i64 b] w fun e w' => e = .returned (.int .i64 (min a b)) ∧ w' = w := by
  by_cases h : a < b
  · have e1 : Hid (min a b = a) := by show _ = _; omega
    go_enter Try.func23, Try.ntmps23
    go_wp2_with fail
    go_ret
    exact ⟨by rw [e1.out]; rfl, rfl⟩
  · have e1 : Hid (min a b = b) := by show _ = _; omega
    go_enter Try.func23, Try.ntmps23
    go_wp2_with fail
    go_ret
    exact ⟨by rw [e1.out]; rfl, rfl⟩
def Mt.Use2 (u0 u1 u2 : Int) : Prop := ((0 ≤ u0 ∧ u0 < u1) ∧ u1 ≤ 100000) ∧ (0 ≤ u2 ∧ u2 ≤ 1000000000)
set_option maxRecDepth 100000 in
set_option maxHeartbeats 4000000 in
theorem specUse_any (la : Option Addr) (n cap : Nat) (U : Nat → Int) (a b : Int) (w : World) (h : IsAt la (n * 4) U w) (hn : n ≤ 1048576) :
    Calls Try.prog 13 #[.slice la n cap, .int .i64 a, .int .i64 b] w fun e w' => e = .returned (.int .i64 (Mt.useOf n U a b)) ∧ Below w.heap.size w w' := by
  by_cases c1 : (400 : Int) < (n : Int)
  · have HE := Lib.hid (Mt.useOf_no (n := n) (U := U) (a := a) (b := b) (fun h => by have := h.1; omega))
    go_enter Try.func13, Try.ntmps13
    go_wp2_with fail
    go_ret
    exact ⟨by rw [HE.out]; rfl, Below.refl _ _⟩
  by_cases c2 : b < a
  · have HE := Lib.hid (Mt.useOf_no (n := n) (U := U) (a := a) (b := b) (fun h => by have := h.2.1; omega))
    go_enter Try.func13, Try.ntmps13
    go_wp2_with fail
    go_ret
    exact ⟨by rw [HE.out]; rfl, Below.refl _ _⟩
  have H := Lib.hid h
  have hab : a ≤ b := by omega
  have hn4 : n ≤ 400 := by omega
  clear h
  go_enter Try.func13, Try.ntmps13
  go_wp2_with fail
  go_loopw [7, 8, 9, 10, 11] (fun sv iv _ _ _ wr => ∃ (i : Nat) (x : Int), i ≤ n ∧ sv = .int .i64 x ∧ iv = .int .i64 i ∧ Hid (Below w.heap.size w wr) ∧ Hid (x = Mt.sum U a b i) ∧ Hid (∀ j, j < i → Mt.UseOk U j)) (fun _ iv _ _ _ _ => n - (intOf iv).toNat)
  case atStart => exact ⟨0, 0, Nat.zero_le _, rfl, rfl, Below.refl _ _, rfl, fun j hj => absurd hj (Nat.not_lt_zero _)⟩
  case round =>
    obtain ⟨i, x, hi, rfl, rfl, hB, hx, hP⟩ := hrel
    have hbx : 0 ≤ x ∧ x ≤ 100000000000000000 := by rw [hx.out]; have := Mt.sum_bd (U := U) hab i hP.out; omega
    by_cases hlt : i < n
    · have hltz : (i : Int) < (n : Int) := by omega
      obtain ⟨g, e, c0, c1, c2, c3⟩ := (H.out.below hB.out).at4 hlt
      subst e
      have zg : g < wr.heap.size := World.block_lt_of_cell? _ _ c0
      obtain ⟨u0, hu0⟩ : ∃ u, u = U (i * 4) := ⟨_, rfl⟩
      obtain ⟨u1, hu1⟩ : ∃ u, u = U (i * 4 + 1) := ⟨_, rfl⟩
      obtain ⟨u2, hu2⟩ : ∃ u, u = U (i * 4 + 2) := ⟨_, rfl⟩
      obtain ⟨u3, hu3⟩ : ∃ u, u = U (i * 4 + 3) := ⟨_, rfl⟩
      rw [← hu0] at c0
      rw [← hu1] at c1
      rw [← hu2] at c2
      rw [← hu3] at c3
      have HU : Hid (Mt.UseOk U i = Mt.Use2 u0 u1 u2) := by show Mt.UseOk U i = Mt.Use2 u0 u1 u2; rw [hu0, hu1, hu2]; rfl
      have HPt : Hid (Mt.part U a b i = u2 * (Mt.near u0 u1 b - Mt.near u0 u1 a) / (u1 - u0)) := by show _ = _; rw [hu0, hu1, hu2]; rfl
      clear hu0 hu1 hu2 hu3
      have HBA : Hid (∀ o, Below w.heap.size w (wr.alloc o)) := fun o => hB.out.alloc hB.out.size o
      by_cases k0 : u0 < 0
      · have HE := Lib.hid (Mt.useOf_no (n := n) (U := U) (a := a) (b := b) (fun h => by have := (h.2.2 i hlt); rw [HU.out] at this; obtain ⟨⟨⟨_, _⟩, _⟩, _, _⟩ := this; omega))
        go_wp2_with fail
        go_ret
        exact ⟨by rw [HE.out]; rfl, HBA.out _⟩
      by_cases k1 : u1 ≤ u0
      · have HE := Lib.hid (Mt.useOf_no (n := n) (U := U) (a := a) (b := b) (fun h => by have := (h.2.2 i hlt); rw [HU.out] at this; obtain ⟨⟨⟨_, _⟩, _⟩, _, _⟩ := this; omega))
        go_wp2_with fail
        go_ret
        exact ⟨by rw [HE.out]; rfl, HBA.out _⟩
      by_cases k2 : 100000 < u1
      · have HE := Lib.hid (Mt.useOf_no (n := n) (U := U) (a := a) (b := b) (fun h => by have := (h.2.2 i hlt); rw [HU.out] at this; obtain ⟨⟨⟨_, _⟩, _⟩, _, _⟩ := this; omega))
        go_wp2_with fail
        go_ret
        exact ⟨by rw [HE.out]; rfl, HBA.out _⟩
      by_cases k3 : u2 < 0
      · have HE := Lib.hid (Mt.useOf_no (n := n) (U := U) (a := a) (b := b) (fun h => by have := (h.2.2 i hlt); rw [HU.out] at this; obtain ⟨⟨⟨_, _⟩, _⟩, _, _⟩ := this; omega))
        go_wp2_with fail
        go_ret
        exact ⟨by rw [HE.out]; rfl, HBA.out _⟩
      by_cases k4 : 1000000000 < u2
      · have HE := Lib.hid (Mt.useOf_no (n := n) (U := U) (a := a) (b := b) (fun h => by have := (h.2.2 i hlt); rw [HU.out] at this; obtain ⟨⟨⟨_, _⟩, _⟩, _, _⟩ := this; omega))
        go_wp2_with fail
        go_ret
        exact ⟨by rw [HE.out]; rfl, HBA.out _⟩
      have HOK : Hid (Mt.UseOk U i) := by show Mt.UseOk U i; rw [HU.out]; exact ⟨⟨⟨by omega, by omega⟩, by omega⟩, by omega, by omega⟩
      obtain ⟨W, hW⟩ : ∃ W, W = wr.alloc (.cells #[.int .i64 u0, .int .i64 u1, .int .i64 u2, .int .i64 u3] 44) := ⟨_, rfl⟩
      have HB0 : Hid (Below w.heap.size w W) := by show Below _ _ _; rw [hW]; exact hB.out.alloc hB.out.size _
      have HR0 : Hid (W.rowIs wr.heap.size 44 4 (rowN [.int .i64 u0, .int .i64 u1, .int .i64 u2, .int .i64 u3])) := by show W.rowIs _ _ _ _; rw [hW]; exact rowN_alloc wr _ _
      have HW := Lib.hid hW
      clear hW hB HBA
      go_wp2_with fail
      rw [← HW.out]
      clear HW
      refine (mtMax_any _ _ _).mono ?_
      rintro e w1 ⟨rfl, rfl⟩
      obtain ⟨⟨a0, a1, a2, a3⟩, _⟩ := rowN4 HR0.out
      clear c0 c1 c2 c3
      obtain ⟨lo, hlo⟩ : ∃ x, x = max u0 a := ⟨_, rfl⟩
      rw [← hlo]
      have HLO := Lib.hid hlo
      have hlo1 : u0 ≤ lo ∧ a ≤ lo := by omega
      clear hlo
      go_wp2_with fail
      refine (mtMin_any _ _ _).mono ?_
      rintro e w1 ⟨rfl, rfl⟩
      obtain ⟨hi2, hhi⟩ : ∃ x, x = min u1 b := ⟨_, rfl⟩
      rw [← hhi]
      have HHI := Lib.hid hhi
      have hhi1 : hi2 ≤ u1 ∧ hi2 ≤ b := by omega
      clear hhi
      by_cases kk : lo < hi2
      · have HD : Hid (Mt.near u0 u1 b - Mt.near u0 u1 a = hi2 - lo) := by show _ = _; rw [HLO.out, HHI.out]; exact Mt.near_in (by omega) hab (by rw [← HLO.out, ← HHI.out]; exact kk)
        obtain ⟨Q, hQ⟩ : ∃ Q, u1 - u0 = Q := ⟨_, rfl⟩
        obtain ⟨P, hPe⟩ : ∃ P, u2 * (hi2 - lo) = P := ⟨_, rfl⟩
        have q1 : 0 ≤ P := by rw [← hPe]; exact Int.mul_nonneg (by omega) (by omega)
        have q2 : P ≤ 1000000000 * 100000 := by rw [← hPe]; exact Int.mul_le_mul (by omega) (by omega) (by omega) (by omega)
        have q3 : P ≤ 100000000000000 := by omega
        have q4 : 0 < Q ∧ Q ≤ 100000 := by omega
        have q5 : (Q == 0) = false := by simp; omega
        have q6 : P.tdiv Q = P / Q := Int.tdiv_eq_ediv_of_nonneg q1
        have q7 : 0 ≤ P / Q ∧ P / Q ≤ 100000000000000 := ⟨Int.ediv_nonneg q1 (by omega), Int.le_trans (Int.ediv_le_self _ q1) q3⟩
        have HPP : Hid (Mt.part U a b i = P / Q) := by show _ = _; rw [HPt.out, HD.out, hPe, hQ]
        clear q2
        go_wp2_with fail
        go_roundw
        case rel => exact ⟨i + 1, x + P / Q, by omega, by first | rfl | (simp [q6]), by go_num, HB0, by show x + P / Q = Mt.sum U a b (i + 1); rw [hx.out, ← HPP.out]; rfl, fun j hj => by
          by_cases e : j = i
          · subst e; exact HOK.out
          · exact hP.out j (by omega)⟩
        case measure => simp [intOf]; omega
      · have HPP : Hid (Mt.part U a b i = 0) := by show _ = _; rw [HPt.out, Mt.near_out (by omega) hab (by rw [← HLO.out, ← HHI.out]; exact kk)]; simp
        go_wp2_with fail
        go_roundw
        case rel => exact ⟨i + 1, x, by omega, rfl, by go_num, HB0, by show x = Mt.sum U a b (i + 1); have e : Mt.sum U a b (i + 1) = Mt.sum U a b i + Mt.part U a b i := rfl; rw [e, HPP.out, hx.out]; omega, fun j hj => by
          by_cases e : j = i
          · subst e; exact HOK.out
          · exact hP.out j (by omega)⟩
        case measure => simp [intOf]; omega
    · obtain rfl : i = n := by omega
      have HE : Hid (Mt.useOf i U a b = x) := by show _ = _; rw [Mt.useOf_ok ⟨hn4, hab, hP.out⟩, hx.out]
      clear hx
      go_wp2_with fail
      go_ret
      exact ⟨by rw [HE.out]; rfl, hB.out⟩
end Go.Proofs.Ytjcdkaojdpcagaa
