/-
  The contracts of the model's tests of rivers and rain.
-/
import Derived.Test.YtokbhkcpkilcmaaDoorSwI2
import Derived.Test.YtokbhkcpkilcmaaDoorReg
namespace Go.Proofs.YtokbhkcpkilcmaaDoor
open Go.RowKit Go.Deep

set_option maxHeartbeats 400000 in
theorem specMin (a b : Int) (w : World) : Calls Tryd.prog 52 #[.int .i64 a, .int .i64 b] w fun e w' => e = .returned (.int .i64 (min a b)) ∧ w' = w := by
  by_cases h : a < b
  · go_enter Tryd.func52, Tryd.ntmps52
    go_wp2_with fail
    go_ret
    exact ⟨ret_int (by omega), rfl⟩
  · go_enter Tryd.func52, Tryd.ntmps52
    go_wp2_with fail
    go_ret
    exact ⟨ret_int (by omega), rfl⟩
set_option maxHeartbeats 400000 in
theorem specMax (a b : Int) (w : World) : Calls Tryd.prog 36 #[.int .i64 a, .int .i64 b] w fun e w' => e = .returned (.int .i64 (max b a)) ∧ w' = w := by
  by_cases h : b < a
  · go_enter Tryd.func36, Tryd.ntmps36
    go_wp2_with fail
    go_ret
    exact ⟨ret_int (by omega), rfl⟩
  · go_enter Tryd.func36, Tryd.ntmps36
    go_wp2_with fail
    go_ret
    exact ⟨ret_int (by omega), rfl⟩

set_option maxRecDepth 100000 in
set_option maxHeartbeats 4000000 in
theorem specRight_any (a : Option Addr) (n cap : Nat) (rs : Nat → Sw.Rc) (w : World) (h : RcsAt a n rs w) :
    Calls Tryd.prog 33 #[.slice a n cap] w fun e w' => BoolEnd (Sw.Right n rs) e ∧ Below w.heap.size w w' := by
  by_cases hn1 : n < 1
  · have hz : (n : Int) < 1 := by omega
    go_enter Tryd.func33, Tryd.ntmps33
    go_wp2_with fail
    go_ret
    exact ⟨.ff (fun h => by have := h.1; omega), Below.refl _ _⟩
  by_cases hn2 : 40 < n
  · have hz : ¬ (n : Int) < 1 := by omega
    have hz2 : (40 : Int) < (n : Int) := by omega
    go_enter Tryd.func33, Tryd.ntmps33
    go_wp2_with fail
    go_ret
    exact ⟨.ff (fun h => by have := h.1; omega), Below.refl _ _⟩
  have hz : ¬ (n : Int) < 1 := by omega
  have hz2 : ¬ (40 : Int) < (n : Int) := by omega
  have H := Lib.hid h
  clear h
  go_enter Tryd.func33, Tryd.ntmps33
  go_wp2_with fail
  go_loopw [3] (fun iv wr => ∃ (i : Nat), i ≤ n ∧ iv = .int .i64 i ∧ Hid (Below w.heap.size w wr) ∧ Hid (∀ j, j < i → Sw.Amounts (rs j) ∧ Sw.DownOk n j (rs j).dn)) (fun iv _ => n - (intOf iv).toNat)
  case atStart => exact ⟨0, Nat.zero_le _, rfl, Below.refl _ _, fun j hj => absurd hj (Nat.not_lt_zero _)⟩
  case round =>
    obtain ⟨i, hi, rfl, hB, hP⟩ := hrel
    by_cases hlt : i < n
    · have hltz : (i : Int) < (n : Int) := by omega
      obtain ⟨b, rfl, c0, c1, c2, c3, c4, c5⟩ := (H.out.below hB.out).at_ hlt
      have HB1 : Hid (∀ o, Below w.heap.size w (wr.alloc o)) := fun o => hB.out.alloc hB.out.size o
      by_cases g0 : (rs i).kd < 1
      · go_wp2_with fail
        go_ret
        exact ⟨BoolEnd.ff (P := Sw.Right n rs) (fun h => by obtain ⟨⟨a0, a1⟩, ⟨b0, b1⟩, ⟨d0, d1⟩, ⟨e0, e1⟩, ⟨j0, j1⟩⟩ := (h.2 i hlt).1; omega), HB1.out _⟩
      by_cases g1 : (3 : Int) < (rs i).kd
      · go_wp2_with fail
        go_ret
        exact ⟨BoolEnd.ff (P := Sw.Right n rs) (fun h => by obtain ⟨⟨a0, a1⟩, ⟨b0, b1⟩, ⟨d0, d1⟩, ⟨e0, e1⟩, ⟨j0, j1⟩⟩ := (h.2 i hlt).1; omega), HB1.out _⟩
      by_cases g2 : (rs i).rm < 0
      · go_wp2_with fail
        go_ret
        exact ⟨BoolEnd.ff (P := Sw.Right n rs) (fun h => by obtain ⟨⟨a0, a1⟩, ⟨b0, b1⟩, ⟨d0, d1⟩, ⟨e0, e1⟩, ⟨j0, j1⟩⟩ := (h.2 i hlt).1; omega), HB1.out _⟩
      by_cases g3 : (1000000 : Int) < (rs i).rm
      · go_wp2_with fail
        go_ret
        exact ⟨BoolEnd.ff (P := Sw.Right n rs) (fun h => by obtain ⟨⟨a0, a1⟩, ⟨b0, b1⟩, ⟨d0, d1⟩, ⟨e0, e1⟩, ⟨j0, j1⟩⟩ := (h.2 i hlt).1; omega), HB1.out _⟩
      by_cases g4 : (rs i).fw < 0
      · go_wp2_with fail
        go_ret
        exact ⟨BoolEnd.ff (P := Sw.Right n rs) (fun h => by obtain ⟨⟨a0, a1⟩, ⟨b0, b1⟩, ⟨d0, d1⟩, ⟨e0, e1⟩, ⟨j0, j1⟩⟩ := (h.2 i hlt).1; omega), HB1.out _⟩
      by_cases g5 : (1000000 : Int) < (rs i).fw
      · go_wp2_with fail
        go_ret
        exact ⟨BoolEnd.ff (P := Sw.Right n rs) (fun h => by obtain ⟨⟨a0, a1⟩, ⟨b0, b1⟩, ⟨d0, d1⟩, ⟨e0, e1⟩, ⟨j0, j1⟩⟩ := (h.2 i hlt).1; omega), HB1.out _⟩
      by_cases g6 : (rs i).lp < 0
      · go_wp2_with fail
        go_ret
        exact ⟨BoolEnd.ff (P := Sw.Right n rs) (fun h => by obtain ⟨⟨a0, a1⟩, ⟨b0, b1⟩, ⟨d0, d1⟩, ⟨e0, e1⟩, ⟨j0, j1⟩⟩ := (h.2 i hlt).1; omega), HB1.out _⟩
      by_cases g7 : (1000000 : Int) < (rs i).lp
      · go_wp2_with fail
        go_ret
        exact ⟨BoolEnd.ff (P := Sw.Right n rs) (fun h => by obtain ⟨⟨a0, a1⟩, ⟨b0, b1⟩, ⟨d0, d1⟩, ⟨e0, e1⟩, ⟨j0, j1⟩⟩ := (h.2 i hlt).1; omega), HB1.out _⟩
      by_cases g8 : (rs i).st < 0
      · go_wp2_with fail
        go_ret
        exact ⟨BoolEnd.ff (P := Sw.Right n rs) (fun h => by obtain ⟨⟨a0, a1⟩, ⟨b0, b1⟩, ⟨d0, d1⟩, ⟨e0, e1⟩, ⟨j0, j1⟩⟩ := (h.2 i hlt).1; omega), HB1.out _⟩
      by_cases g9 : (rs i).rm < (rs i).st
      · go_wp2_with fail
        go_ret
        exact ⟨BoolEnd.ff (P := Sw.Right n rs) (fun h => by obtain ⟨⟨a0, a1⟩, ⟨b0, b1⟩, ⟨d0, d1⟩, ⟨e0, e1⟩, ⟨j0, j1⟩⟩ := (h.2 i hlt).1; omega), HB1.out _⟩
      have HA : Hid (Sw.Amounts (rs i)) := ⟨⟨by omega, by omega⟩, ⟨by omega, by omega⟩, ⟨by omega, by omega⟩, ⟨by omega, by omega⟩, ⟨by omega, by omega⟩⟩
      by_cases d1 : (rs i).dn = -1
      · have HDn : Hid ((rs i).dn = -1) := d1
        have e1 : ((rs i).dn == -1) = true := by simp [d1]
        rw [d1] at c5
        clear d1 e1
        go_wp2_with fail
        go_roundw
        case rel =>
          refine ⟨i + 1, by omega, by go_num, HB1.out _, fun j hj => ?_⟩
          by_cases e : j = i
          · subst e; exact ⟨HA.out, Or.inl HDn.out⟩
          · exact hP.out j (by omega)
        case measure => simp [intOf]; omega
      · have e1 : ((rs i).dn == -1) = false := by simp [d1]
        by_cases d2 : (rs i).dn ≤ (i : Int)
        · go_wp2_with fail
          go_ret
          exact ⟨BoolEnd.ff (P := Sw.Right n rs) (fun h => by rcases (h.2 i hlt).2 with k | k <;> omega), HB1.out _⟩
        · by_cases d3 : (n : Int) ≤ (rs i).dn
          · go_wp2_with fail
            go_ret
            exact ⟨BoolEnd.ff (P := Sw.Right n rs) (fun h => by rcases (h.2 i hlt).2 with k | k <;> omega), HB1.out _⟩
          · have HDn : Hid (Sw.DownOk n i (rs i).dn) := Or.inr ⟨by omega, by omega⟩
            go_wp2_with fail
            go_roundw
            case rel =>
              refine ⟨i + 1, by omega, by go_num, HB1.out _, fun j hj => ?_⟩
              by_cases e : j = i
              · subst e; exact ⟨HA.out, HDn.out⟩
              · exact hP.out j (by omega)
            case measure => simp [intOf]; omega
    · obtain rfl : i = n := by omega
      go_wp2_with fail
      go_ret
      exact ⟨.tt ⟨⟨by omega, by omega⟩, hP.out⟩, hB.out⟩

set_option maxRecDepth 100000 in
set_option maxHeartbeats 2000000 in
theorem all_ok (a : Option Addr) (m cap : Nat) (f : Nat → Int) (w : World) (h : IntsAt a m f w) (hm : m ≤ 4194304) :
    Calls Tryd.prog 34 #[.slice a m cap, .int .i64 0, .int .i64 1000000] w fun e w' => BoolEnd (Sw.RainOk m f) e ∧ w' = w := by
  have H := Lib.hid h
  clear h
  go_enter Tryd.func34, Tryd.ntmps34
  go_wp2_with fail
  go_loopw [7] (fun iv wr => ∃ (i : Nat), i ≤ m ∧ iv = .int .i64 i ∧ Hid (wr = w) ∧ Hid (∀ j, j < i → 0 ≤ f j ∧ f j ≤ 1000000)) (fun iv _ => m - (intOf iv).toNat)
  case atStart => exact ⟨0, Nat.zero_le _, rfl, rfl, fun j hj => absurd hj (Nat.not_lt_zero _)⟩
  case round =>
    obtain ⟨i, hi, rfl, hW, hP⟩ := hrel
    obtain rfl := hW.out
    clear hW
    by_cases hlt : i < m
    · have hltz : (i : Int) < (m : Int) := by omega
      obtain ⟨b, rfl, c0⟩ := H.out.at1 hlt
      by_cases g1 : f i < 0
      · go_wp2_with fail
        go_ret
        exact ⟨BoolEnd.ff (P := Sw.RainOk m f) (fun h => by have := h i hlt; omega), rfl⟩
      by_cases g2 : (1000000 : Int) < f i
      · go_wp2_with fail
        go_ret
        exact ⟨BoolEnd.ff (P := Sw.RainOk m f) (fun h => by have := h i hlt; omega), rfl⟩
      have HG : Hid (0 ≤ f i ∧ f i ≤ 1000000) := ⟨by omega, by omega⟩
      go_wp2_with fail
      go_roundw
      case rel =>
        refine ⟨i + 1, by omega, by go_num, by first | exact rfl | exact (trivial : True), fun j hj => ?_⟩
        by_cases e : j = i
        · subst e; exact HG.out
        · exact hP.out j (by omega)
      case measure => simp [intOf]; omega
    · obtain rfl : i = m := by omega
      go_wp2_with fail
      go_ret
      exact ⟨.tt hP.out, rfl⟩
set_option maxRecDepth 100000 in
set_option maxHeartbeats 2000000 in
theorem sgoes_free (st rm fw lp dn : Int) (x : Int) (w : World) (hr : Sw.Amounts ⟨1, st, rm, fw, lp, dn⟩) (x0 : 0 ≤ x) (x1 : x ≤ 100000000) :
    Calls Tryd.prog 35 #[rcV ⟨1, st, rm, fw, lp, dn⟩, .int .i64 x] w fun e w' => e = .returned (.int .i64 (min x fw)) ∧ Below w.heap.size w w' := by
  have HR := Lib.hid hr
  have hb0 : Below w.heap.size w (w.alloc (.cells #[.int .i64 1, .int .i64 st, .int .i64 rm, .int .i64 fw, .int .i64 lp, .int .i64 dn] 55)) := (Below.refl w.heap.size w).alloc (Nat.le_refl _) _
  have HB0 := Lib.hid hb0
  have HW : Hid (RcCells w.heap.size 0 ⟨1, st, rm, fw, lp, dn⟩ (w.alloc (.cells #[.int .i64 1, .int .i64 st, .int .i64 rm, .int .i64 fw, .int .i64 lp, .int .i64 dn] 55))) := ⟨by simp [go_sem], by simp [go_sem], by simp [go_sem], by simp [go_sem], by simp [go_sem], by simp [go_sem]⟩
  have hs0 : 0 ≤ Sw.share ⟨1, st, rm, fw, lp, dn⟩ x := Sw.share_nonneg hr x0
  have hs1 : Sw.share ⟨1, st, rm, fw, lp, dn⟩ x ≤ 100000000000000 := Sw.share_le hr x0 x1
  have hp : 0 ≤ fw * x ∧ fw * x ≤ 100000000000000 := Sw.prod_bounds hr x0 x1
  obtain ⟨hp0, hp1⟩ := hp
  have l01 : 0 ≤ lp ∧ lp ≤ 1000000 := hr.2.2.2.1
  obtain ⟨l0, l1⟩ := l01
  have r01 : 0 ≤ rm ∧ rm ≤ 1000000 := hr.2.1
  obtain ⟨r0, r1⟩ := r01
  have hnz : ¬ rm + 1 = 0 := by omega
  have hnz2 : (rm + 1 == 0) = false := by simp; omega
  have hq : (fw * x).tdiv (rm + 1) = Sw.share ⟨1, st, rm, fw, lp, dn⟩ x := by unfold Sw.share; exact Int.tdiv_eq_ediv_of_nonneg hp0
  have hw1 : IntKind.i64.wrap (fw * x) = fw * x := by rw [IntKind.wrap_i64]; omega
  have hw2 : IntKind.i64.wrap (rm + 1) = rm + 1 := by rw [IntKind.wrap_i64]; omega
  have hw3 : IntKind.i64.wrap (Sw.share ⟨1, st, rm, fw, lp, dn⟩ x) = Sw.share ⟨1, st, rm, fw, lp, dn⟩ x := by rw [IntKind.wrap_i64]; omega
  have hw4 : IntKind.i64.wrap (x - lp) = x - lp := by rw [IntKind.wrap_i64]; omega
  clear hr hb0
  go_enter Tryd.func35, Tryd.ntmps35
  go_wp2_with fail
  refine (specMin x fw _).mono ?_
  rintro e w1 ⟨rfl, rfl⟩
  go_wp2_with fail
  go_ret
  exact ⟨rfl, HB0.out⟩
set_option maxRecDepth 100000 in
set_option maxHeartbeats 2000000 in
theorem sgoes_full (st rm fw lp dn : Int) (x : Int) (w : World) (hr : Sw.Amounts ⟨2, st, rm, fw, lp, dn⟩) (x0 : 0 ≤ x) (x1 : x ≤ 100000000) :
    Calls Tryd.prog 35 #[rcV ⟨2, st, rm, fw, lp, dn⟩, .int .i64 x] w fun e w' => e = .returned (.int .i64 (min (min x fw) (Sw.share ⟨2, st, rm, fw, lp, dn⟩ x))) ∧ Below w.heap.size w w' := by
  have HR := Lib.hid hr
  have hb0 : Below w.heap.size w (w.alloc (.cells #[.int .i64 2, .int .i64 st, .int .i64 rm, .int .i64 fw, .int .i64 lp, .int .i64 dn] 55)) := (Below.refl w.heap.size w).alloc (Nat.le_refl _) _
  have HB0 := Lib.hid hb0
  have HW : Hid (RcCells w.heap.size 0 ⟨2, st, rm, fw, lp, dn⟩ (w.alloc (.cells #[.int .i64 2, .int .i64 st, .int .i64 rm, .int .i64 fw, .int .i64 lp, .int .i64 dn] 55))) := ⟨by simp [go_sem], by simp [go_sem], by simp [go_sem], by simp [go_sem], by simp [go_sem], by simp [go_sem]⟩
  have hs0 : 0 ≤ Sw.share ⟨2, st, rm, fw, lp, dn⟩ x := Sw.share_nonneg hr x0
  have hs1 : Sw.share ⟨2, st, rm, fw, lp, dn⟩ x ≤ 100000000000000 := Sw.share_le hr x0 x1
  have hp : 0 ≤ fw * x ∧ fw * x ≤ 100000000000000 := Sw.prod_bounds hr x0 x1
  obtain ⟨hp0, hp1⟩ := hp
  have l01 : 0 ≤ lp ∧ lp ≤ 1000000 := hr.2.2.2.1
  obtain ⟨l0, l1⟩ := l01
  have r01 : 0 ≤ rm ∧ rm ≤ 1000000 := hr.2.1
  obtain ⟨r0, r1⟩ := r01
  have hnz : ¬ rm + 1 = 0 := by omega
  have hnz2 : (rm + 1 == 0) = false := by simp; omega
  have hq : (fw * x).tdiv (rm + 1) = Sw.share ⟨2, st, rm, fw, lp, dn⟩ x := by unfold Sw.share; exact Int.tdiv_eq_ediv_of_nonneg hp0
  have hw1 : IntKind.i64.wrap (fw * x) = fw * x := by rw [IntKind.wrap_i64]; omega
  have hw2 : IntKind.i64.wrap (rm + 1) = rm + 1 := by rw [IntKind.wrap_i64]; omega
  have hw3 : IntKind.i64.wrap (Sw.share ⟨2, st, rm, fw, lp, dn⟩ x) = Sw.share ⟨2, st, rm, fw, lp, dn⟩ x := by rw [IntKind.wrap_i64]; omega
  have hw4 : IntKind.i64.wrap (x - lp) = x - lp := by rw [IntKind.wrap_i64]; omega
  clear hr hb0
  go_enter Tryd.func35, Tryd.ntmps35
  go_wp2_with fail
  refine wp_region_held_drew (S := fun W => RcCells w.heap.size 0 ⟨2, st, rm, fw, lp, dn⟩ W) (by kernel_rfl) (HW.out.block rfl) (fun hHeld => ?_)
  refine take_do (i := 0) (v := (.int .i64 (x))) rfl (by kernel_rfl) (by kernel_rfl) (by kernel_rfl) (fun _ _ _ h => h) (by rfl) ?_ (by assumption) ?_
  · intro w hSw
    obtain ⟨c0, c1, c2, c3, c4, c5⟩ := hSw
    simp only at c0 c1 c2 c3 c4 c5
    go_simp
  simp only [Act.put, List.setIfInBounds_toArray, List.set_cons_zero, List.set_cons_succ]
  refine take_do (i := 1) (v := (.pointer (some ⟨w.heap.size, 3, none⟩))) rfl (by kernel_rfl) (by kernel_rfl) (by kernel_rfl) (fun _ _ _ h => h) (by rfl) ?_ (by assumption) ?_
  · intro w hSw
    obtain ⟨c0, c1, c2, c3, c4, c5⟩ := hSw
    simp only at c0 c1 c2 c3 c4 c5
    go_simp
  simp only [Act.put, List.setIfInBounds_toArray, List.set_cons_zero, List.set_cons_succ]
  refine take_do (i := 2) (v := (.int .i64 (fw))) rfl (by kernel_rfl) (by kernel_rfl) (by kernel_rfl) (fun _ _ _ h => h) (by rfl) ?_ (by assumption) ?_
  · intro w hSw
    obtain ⟨c0, c1, c2, c3, c4, c5⟩ := hSw
    simp only at c0 c1 c2 c3 c4 c5
    go_simp
  simp only [Act.put, List.setIfInBounds_toArray, List.set_cons_zero, List.set_cons_succ]
  refine take_do (i := 4) (v := (.pointer (some ⟨w.heap.size, 3, none⟩))) rfl (by kernel_rfl) (by kernel_rfl) (by kernel_rfl) (fun _ _ _ h => h) (by rfl) ?_ (by assumption) ?_
  · intro w hSw
    obtain ⟨c0, c1, c2, c3, c4, c5⟩ := hSw
    simp only at c0 c1 c2 c3 c4 c5
    go_simp
  simp only [Act.put, List.setIfInBounds_toArray, List.set_cons_zero, List.set_cons_succ]
  refine take_do (i := 5) (v := (.int .i64 (fw))) rfl (by kernel_rfl) (by kernel_rfl) (by kernel_rfl) (fun _ _ _ h => h) (by rfl) ?_ (by assumption) ?_
  · intro w hSw
    obtain ⟨c0, c1, c2, c3, c4, c5⟩ := hSw
    simp only at c0 c1 c2 c3 c4 c5
    go_simp
  simp only [Act.put, List.setIfInBounds_toArray, List.set_cons_zero, List.set_cons_succ]
  refine take_do (i := 6) (v := (.int .i64 (x))) rfl (by kernel_rfl) (by kernel_rfl) (by kernel_rfl) (fun _ _ _ h => h) (by rfl) ?_ (by assumption) ?_
  · intro w hSw
    obtain ⟨c0, c1, c2, c3, c4, c5⟩ := hSw
    simp only at c0 c1 c2 c3 c4 c5
    go_simp
  simp only [Act.put, List.setIfInBounds_toArray, List.set_cons_zero, List.set_cons_succ]
  refine take_do (i := 7) (v := (.int .i64 (fw * x))) rfl (by kernel_rfl) (by kernel_rfl) (by kernel_rfl) (fun _ _ _ h => h) (by rfl) ?_ (by assumption) ?_
  · intro w hSw
    obtain ⟨c0, c1, c2, c3, c4, c5⟩ := hSw
    simp only at c0 c1 c2 c3 c4 c5
    go_simp
  simp only [Act.put, List.setIfInBounds_toArray, List.set_cons_zero, List.set_cons_succ]
  refine take_do (i := 8) (v := (.pointer (some ⟨w.heap.size, 2, none⟩))) rfl (by kernel_rfl) (by kernel_rfl) (by kernel_rfl) (fun _ _ _ h => h) (by rfl) ?_ (by assumption) ?_
  · intro w hSw
    obtain ⟨c0, c1, c2, c3, c4, c5⟩ := hSw
    simp only at c0 c1 c2 c3 c4 c5
    go_simp
  simp only [Act.put, List.setIfInBounds_toArray, List.set_cons_zero, List.set_cons_succ]
  refine take_do (i := 9) (v := (.int .i64 (rm))) rfl (by kernel_rfl) (by kernel_rfl) (by kernel_rfl) (fun _ _ _ h => h) (by rfl) ?_ (by assumption) ?_
  · intro w hSw
    obtain ⟨c0, c1, c2, c3, c4, c5⟩ := hSw
    simp only at c0 c1 c2 c3 c4 c5
    go_simp
  simp only [Act.put, List.setIfInBounds_toArray, List.set_cons_zero, List.set_cons_succ]
  refine take_do (i := 10) (v := (.int .i64 (rm + 1))) rfl (by kernel_rfl) (by kernel_rfl) (by kernel_rfl) (fun _ _ _ h => h) (by rfl) ?_ (by assumption) ?_
  · intro w hSw
    obtain ⟨c0, c1, c2, c3, c4, c5⟩ := hSw
    simp only at c0 c1 c2 c3 c4 c5
    go_simp
  simp only [Act.put, List.setIfInBounds_toArray, List.set_cons_zero, List.set_cons_succ]
  refine take_do (i := 11) (v := (.int .i64 (Sw.share ⟨2, st, rm, fw, lp, dn⟩ x))) rfl (by kernel_rfl) (by kernel_rfl) (by kernel_rfl) (fun _ _ _ h => h) (by rfl) ?_ (by assumption) ?_
  · intro w hSw
    obtain ⟨c0, c1, c2, c3, c4, c5⟩ := hSw
    simp only at c0 c1 c2 c3 c4 c5
    go_simp
  simp only [Act.put, List.setIfInBounds_toArray, List.set_cons_zero, List.set_cons_succ]
  refine take_call (i := 3) rfl (by kernel_rfl) (fun K2 hK => ?_)
  go_simp
  refine (specMin x fw _).mono ?_
  rintro e w' ⟨rfl, rfl⟩
  go_wp2_with fail
  refine hK.out _ _ hHeld (fun hHeld2 => ?_)
  clear hK hHeld
  have hHeld := hHeld2
  clear hHeld2
  refine take_call (i := 12) rfl (by kernel_rfl) (fun K2 hK => ?_)
  go_simp
  refine (specMin (min x fw) (Sw.share ⟨2, st, rm, fw, lp, dn⟩ x) _).mono ?_
  rintro e w' ⟨rfl, rfl⟩
  go_wp2_with fail
  refine hK.out _ _ hHeld (fun hHeld2 => ?_)
  clear hK hHeld
  have hHeld := hHeld2
  clear hHeld2
  refine take_do (i := 13) (v := (.int .i64 (min (min x fw) (Sw.share ⟨2, st, rm, fw, lp, dn⟩ x)))) rfl (by kernel_rfl) (by kernel_rfl) (by kernel_rfl) (fun _ _ _ h => h) (by rfl) ?_ (by assumption) ?_
  · intro w hSw
    obtain ⟨c0, c1, c2, c3, c4, c5⟩ := hSw
    simp only at c0 c1 c2 c3 c4 c5
    go_simp
  simp only [Act.put, List.setIfInBounds_toArray, List.set_cons_zero, List.set_cons_succ]
  refine wpAnyH_done (by kernel_rfl) ?_ _
  clear hHeld
  go_wp2_with fail
  go_ret
  exact ⟨rfl, HB0.out.drew⟩
set_option maxRecDepth 100000 in
set_option maxHeartbeats 2000000 in
theorem sgoes_dip (st rm fw lp dn : Int) (x : Int) (w : World) (hr : Sw.Amounts ⟨3, st, rm, fw, lp, dn⟩) (x0 : 0 ≤ x) (x1 : x ≤ 100000000) :
    Calls Tryd.prog 35 #[rcV ⟨3, st, rm, fw, lp, dn⟩, .int .i64 x] w fun e w' => e = .returned (.int .i64 (min (max (x - lp) 0) fw)) ∧ Below w.heap.size w w' := by
  have HR := Lib.hid hr
  have hb0 : Below w.heap.size w (w.alloc (.cells #[.int .i64 3, .int .i64 st, .int .i64 rm, .int .i64 fw, .int .i64 lp, .int .i64 dn] 55)) := (Below.refl w.heap.size w).alloc (Nat.le_refl _) _
  have HB0 := Lib.hid hb0
  have HW : Hid (RcCells w.heap.size 0 ⟨3, st, rm, fw, lp, dn⟩ (w.alloc (.cells #[.int .i64 3, .int .i64 st, .int .i64 rm, .int .i64 fw, .int .i64 lp, .int .i64 dn] 55))) := ⟨by simp [go_sem], by simp [go_sem], by simp [go_sem], by simp [go_sem], by simp [go_sem], by simp [go_sem]⟩
  have hs0 : 0 ≤ Sw.share ⟨3, st, rm, fw, lp, dn⟩ x := Sw.share_nonneg hr x0
  have hs1 : Sw.share ⟨3, st, rm, fw, lp, dn⟩ x ≤ 100000000000000 := Sw.share_le hr x0 x1
  have hp : 0 ≤ fw * x ∧ fw * x ≤ 100000000000000 := Sw.prod_bounds hr x0 x1
  obtain ⟨hp0, hp1⟩ := hp
  have l01 : 0 ≤ lp ∧ lp ≤ 1000000 := hr.2.2.2.1
  obtain ⟨l0, l1⟩ := l01
  have r01 : 0 ≤ rm ∧ rm ≤ 1000000 := hr.2.1
  obtain ⟨r0, r1⟩ := r01
  have hnz : ¬ rm + 1 = 0 := by omega
  have hnz2 : (rm + 1 == 0) = false := by simp; omega
  have hq : (fw * x).tdiv (rm + 1) = Sw.share ⟨3, st, rm, fw, lp, dn⟩ x := by unfold Sw.share; exact Int.tdiv_eq_ediv_of_nonneg hp0
  have hw1 : IntKind.i64.wrap (fw * x) = fw * x := by rw [IntKind.wrap_i64]; omega
  have hw2 : IntKind.i64.wrap (rm + 1) = rm + 1 := by rw [IntKind.wrap_i64]; omega
  have hw3 : IntKind.i64.wrap (Sw.share ⟨3, st, rm, fw, lp, dn⟩ x) = Sw.share ⟨3, st, rm, fw, lp, dn⟩ x := by rw [IntKind.wrap_i64]; omega
  have hw4 : IntKind.i64.wrap (x - lp) = x - lp := by rw [IntKind.wrap_i64]; omega
  clear hr hb0
  go_enter Tryd.func35, Tryd.ntmps35
  go_wp2_with fail
  refine wp_region_held_drew (S := fun W => RcCells w.heap.size 0 ⟨3, st, rm, fw, lp, dn⟩ W) (by kernel_rfl) (HW.out.block rfl) (fun hHeld => ?_)
  refine take_do (i := 0) (v := (.int .i64 (x))) rfl (by kernel_rfl) (by kernel_rfl) (by kernel_rfl) (fun _ _ _ h => h) (by rfl) ?_ (by assumption) ?_
  · intro w hSw
    obtain ⟨c0, c1, c2, c3, c4, c5⟩ := hSw
    simp only at c0 c1 c2 c3 c4 c5
    go_simp
  simp only [Act.put, List.setIfInBounds_toArray, List.set_cons_zero, List.set_cons_succ]
  refine take_do (i := 1) (v := (.pointer (some ⟨w.heap.size, 4, none⟩))) rfl (by kernel_rfl) (by kernel_rfl) (by kernel_rfl) (fun _ _ _ h => h) (by rfl) ?_ (by assumption) ?_
  · intro w hSw
    obtain ⟨c0, c1, c2, c3, c4, c5⟩ := hSw
    simp only at c0 c1 c2 c3 c4 c5
    go_simp
  simp only [Act.put, List.setIfInBounds_toArray, List.set_cons_zero, List.set_cons_succ]
  refine take_do (i := 2) (v := (.int .i64 (lp))) rfl (by kernel_rfl) (by kernel_rfl) (by kernel_rfl) (fun _ _ _ h => h) (by rfl) ?_ (by assumption) ?_
  · intro w hSw
    obtain ⟨c0, c1, c2, c3, c4, c5⟩ := hSw
    simp only at c0 c1 c2 c3 c4 c5
    go_simp
  simp only [Act.put, List.setIfInBounds_toArray, List.set_cons_zero, List.set_cons_succ]
  refine take_do (i := 3) (v := (.int .i64 (x - lp))) rfl (by kernel_rfl) (by kernel_rfl) (by kernel_rfl) (fun _ _ _ h => h) (by rfl) ?_ (by assumption) ?_
  · intro w hSw
    obtain ⟨c0, c1, c2, c3, c4, c5⟩ := hSw
    simp only at c0 c1 c2 c3 c4 c5
    go_simp
  simp only [Act.put, List.setIfInBounds_toArray, List.set_cons_zero, List.set_cons_succ]
  refine take_do (i := 5) (v := (.pointer (some ⟨w.heap.size, 3, none⟩))) rfl (by kernel_rfl) (by kernel_rfl) (by kernel_rfl) (fun _ _ _ h => h) (by rfl) ?_ (by assumption) ?_
  · intro w hSw
    obtain ⟨c0, c1, c2, c3, c4, c5⟩ := hSw
    simp only at c0 c1 c2 c3 c4 c5
    go_simp
  simp only [Act.put, List.setIfInBounds_toArray, List.set_cons_zero, List.set_cons_succ]
  refine take_do (i := 6) (v := (.int .i64 (fw))) rfl (by kernel_rfl) (by kernel_rfl) (by kernel_rfl) (fun _ _ _ h => h) (by rfl) ?_ (by assumption) ?_
  · intro w hSw
    obtain ⟨c0, c1, c2, c3, c4, c5⟩ := hSw
    simp only at c0 c1 c2 c3 c4 c5
    go_simp
  simp only [Act.put, List.setIfInBounds_toArray, List.set_cons_zero, List.set_cons_succ]
  refine take_call (i := 4) rfl (by kernel_rfl) (fun K2 hK => ?_)
  go_simp
  refine (specMax 0 (x - lp) _).mono ?_
  rintro e w' ⟨rfl, rfl⟩
  go_wp2_with fail
  refine hK.out _ _ hHeld (fun hHeld2 => ?_)
  clear hK hHeld
  have hHeld := hHeld2
  clear hHeld2
  refine take_call (i := 7) rfl (by kernel_rfl) (fun K2 hK => ?_)
  go_simp
  refine (specMin (max (x - lp) 0) fw _).mono ?_
  rintro e w' ⟨rfl, rfl⟩
  go_wp2_with fail
  refine hK.out _ _ hHeld (fun hHeld2 => ?_)
  clear hK hHeld
  have hHeld := hHeld2
  clear hHeld2
  refine take_do (i := 8) (v := (.int .i64 (min (max (x - lp) 0) fw))) rfl (by kernel_rfl) (by kernel_rfl) (by kernel_rfl) (fun _ _ _ h => h) (by rfl) ?_ (by assumption) ?_
  · intro w hSw
    obtain ⟨c0, c1, c2, c3, c4, c5⟩ := hSw
    simp only at c0 c1 c2 c3 c4 c5
    go_simp
  simp only [Act.put, List.setIfInBounds_toArray, List.set_cons_zero, List.set_cons_succ]
  refine wpAnyH_done (by kernel_rfl) ?_ _
  clear hHeld
  go_wp2_with fail
  go_ret
  exact ⟨rfl, HB0.out.drew⟩
theorem sgoes_any (r : Sw.Rc) (x : Int) (w : World) (hr : Sw.Amounts r) (x0 : 0 ≤ x) (x1 : x ≤ 100000000) :
    Calls Tryd.prog 35 #[rcV r, .int .i64 x] w fun e w' => e = .returned (.int .i64 (Sw.goes r x)) ∧ Below w.heap.size w w' := by
  obtain ⟨kd, st, rm, fw, lp, dn⟩ := r
  have k1 : 1 ≤ kd ∧ kd ≤ 3 := hr.1
  have k123 : kd = 1 ∨ kd = 2 ∨ kd = 3 := by omega
  rcases k123 with rfl | rfl | rfl
  · exact sgoes_free st rm fw lp dn x w hr x0 x1
  · exact sgoes_full st rm fw lp dn x w hr x0 x1
  · refine (sgoes_dip st rm fw lp dn x w hr x0 x1).mono ?_
    rintro e w' ⟨rfl, hb⟩
    refine ⟨?_, hb⟩
    show Ending.returned (.int .i64 (min (max (x - lp) 0) fw)) = .returned (.int .i64 (min (max 0 (x - lp)) fw))
    rw [show min (max (x - lp) 0) fw = min (max 0 (x - lp)) fw from by omega]
end Go.Proofs.YtokbhkcpkilcmaaDoor
