/-
  Both packages' TubeAge and MixParcels.
-/
import Derived.Test.YtjmnehlgefpheaaTbI1
namespace Go.Proofs.Ytjmnehlgefpheaa
open Go.RowKit Go.Deep

set_option maxRecDepth 100000 in
set_option maxHeartbeats 4000000 in
theorem implTAge_any (r : Int) (a : Option Addr) (l : List Tb.Pc) (k : Nat) (now : Int) (w : World) (h : IsAt a (l.length * 3) (Tb.fl l) w) :
    Calls Try.prog 17 #[tbV r a l.length k, .int .i64 now] w fun e w' => e = .returned (.int .i64 (Tb.ageOf r l now)) ∧ Below w.heap.size w w' := by
  obtain ⟨W, hW⟩ : ∃ W, W = w.alloc (.cells #[.int .i64 r, .slice a l.length k] 29) := ⟨_, rfl⟩
  have HG : Hid (Below w.heap.size w W) := by show Below _ _ _; rw [hW]; exact nbel_alloc _ _
  have hR : W.rowIs w.heap.size 29 2 (rowN [.int .i64 r, .slice a l.length k]) := by rw [hW]; exact rowN_alloc w _ _
  obtain ⟨⟨x0, x1⟩, _⟩ := rowN2 hR
  have HR := Lib.hid hR
  have HW := Lib.hid hW
  have H := Lib.hid (h.below HG.out)
  clear hW hR h
  go_enter Try.func17, Try.ntmps17
  go_wp2_with fail
  rw [← HW.out]
  clear HW
  refine (implTRight_any r a l k _ H.out).mono ?_
  rintro e w0 ⟨⟨b1, rfl, hb1⟩, hb⟩
  have K1 := Lib.hid hb1
  have HR0 := Lib.hid (nrow_below HR.out hb)
  have H0 := Lib.hid (H.out.below hb)
  have HG0 : Hid (Below w.heap.size w w0) := HG.out.trans (hb.mono HG.out.size)
  clear hb1 hb x0 x1 HR H HG
  obtain ⟨⟨x0, x1⟩, _⟩ := rowN2 HR0.out
  rcases b1 with _ | _
  · go_wp2_with fail
    go_ret
    exact ⟨by unfold Tb.ageOf; rw [if_neg (fun h => by have := K1.out.2 h.1; cases this)]; rfl, HG0.out⟩
  have HRT : Hid (Tb.Right r l) := K1.out.1 rfl
  have n0 : l.length ≤ 60 := HRT.out.1.2
  clear K1
  by_cases hn : 100000 < now
  · go_wp2_with fail
    go_ret
    exact ⟨by unfold Tb.ageOf; rw [if_neg (fun h => by have := h.2.1; omega)]; rfl, HG0.out⟩
  go_wp2_with fail
  go_loopw [5, 18] (fun sv iv wr => ∃ (i : Nat), i ≤ l.length ∧ iv = .int .i64 i ∧ sv = .int .i64 (Tb.ags now (l.take i)) ∧ Hid (∀ j, j < i → (Tb.pg l j).b ≤ now) ∧ Hid (Below w0.heap.size w0 wr)) (fun _ iv _ => l.length - (intOf iv).toNat)
  case atStart => exact ⟨0, Nat.zero_le _, rfl, rfl, fun j hj => absurd hj (Nat.not_lt_zero _), Below.refl _ _⟩
  case round =>
    obtain ⟨i, hi, rfl, rfl, hP, hB⟩ := hrel
    clear x0 x1
    have HR1 := nrow_below HR0.out hB.out
    obtain ⟨⟨x0, x1⟩, _⟩ := rowN2 HR1
    clear HR1
    by_cases hlt : i < l.length
    · have hltz : (i : Int) < (l.length : Int) := by omega
      obtain ⟨b, rfl, c0, c1, c2⟩ := (H0.out.below hB.out).pc hlt
      have hok := HRT.out.2.1 _ (Tb.pg_mem hlt)
      obtain ⟨W2, hW2⟩ : ∃ W2, W2 = wr.alloc (.cells #[.int .i64 (Tb.pg l i).w, .int .i64 (Tb.pg l i).g, .int .i64 (Tb.pg l i).b] 39) := ⟨_, rfl⟩
      have HW2 := Lib.hid hW2
      have HB2 : Hid (Below w0.heap.size w0 W2) := by show Below _ _ _; rw [hW2]; exact hB.out.trans ((nbel_alloc wr _).mono hB.out.size)
      clear hW2
      by_cases hbn : now < (Tb.pg l i).b
      · go_wp2_with fail
        rw [← HW2.out]
        go_ret
        exact ⟨by unfold Tb.ageOf; rw [if_neg (fun h => by have := h.2.2 _ (Tb.pg_mem hlt); omega)]; rfl, HG0.out.trans (HB2.out.mono HG0.out.size)⟩
      · obtain ⟨s0, s1⟩ : 0 ≤ Tb.ags now (l.take i) ∧ Tb.ags now (l.take i) ≤ 6000000000000 := by
          have := Tb.ags_bd (l := l.take i) (now := now) (Tb.take_sub (P := fun p => Tb.Ok p ∧ p.b ≤ now) (fun j hj => ⟨HRT.out.2.1 _ (Tb.pg_mem (by omega)), hP.out j hj⟩) hi) (by omega)
          rw [List.length_take] at this
          omega
        obtain ⟨m0, m1⟩ := Tb.age1 hok (by omega : (Tb.pg l i).b ≤ now) (by omega)
        have HS : Hid (Tb.ags now (l.take (i + 1)) = Tb.ags now (l.take i) + (Tb.pg l i).w * (now - (Tb.pg l i).b)) := Tb.ags_take now hlt
        obtain ⟨⟨o0, o1⟩, _, o2, o3⟩ := hok
        have HN : Hid ((Tb.pg l i).b ≤ now) := by show _ ≤ _; omega
        generalize Tb.ags now (l.take i) = s at *
        have d0 : 0 ≤ now - (Tb.pg l i).b := by omega
        have d1 : now - (Tb.pg l i).b ≤ 100000 := by omega
        go_wp2_with fail
        go_roundw
        case rel =>
          refine ⟨i + 1, by omega, by go_num, by rw [HS.out], fun j hj => ?_, by rw [← HW2.out]; exact HB2⟩
          by_cases e : j = i
          · subst e; exact HN.out
          · exact hP.out j (by omega)
        case measure => simp [intOf]; omega
    · obtain rfl : i = l.length := by omega
      have HS : Hid (Tb.ags now (l.take l.length) = Tb.ags now l) := by show _ = _; rw [List.take_length]
      have hall : ∀ p, p ∈ l → p.b ≤ now := Tb.of_pg hP.out
      have hr : r ≠ 0 ∧ 0 < r ∧ r ≤ 60000000 := by
        have h1 := Tb.wat_bd HRT.out.2.1
        have h2 := HRT.out.2.2
        have h3 := HRT.out.1
        omega
      obtain ⟨s0, s1⟩ : 0 ≤ Tb.ags now l ∧ Tb.ags now l ≤ 6000000000000 := by
        have := Tb.ags_bd (l := l) (now := now) (fun p hp => ⟨HRT.out.2.1 p hp, hall p hp⟩) (by omega)
        omega
      have HA : Hid (Tb.ageOf r l now = (Tb.ags now l).tdiv r) := by
        show _ = _
        unfold Tb.ageOf
        rw [if_pos ⟨HRT.out, by omega, hall⟩]
      rw [HS.out]
      obtain ⟨r0, r1, r2⟩ := hr
      have hq : (r == 0) = false := by simp [r0]
      have t0 : 0 ≤ (Tb.ags now l).tdiv r := Int.tdiv_nonneg s0 (by omega)
      have t1 : (Tb.ags now l).tdiv r ≤ 6000000000000 := by
        rw [Int.tdiv_eq_ediv_of_nonneg s0]
        have := Int.ediv_le_self r s0
        omega
      clear hall
      go_wp2_with fail
      go_ret
      exact ⟨by rw [HA.out]; rfl, HG0.out.trans (hB.out.mono HG0.out.size)⟩
set_option maxRecDepth 100000 in
set_option maxHeartbeats 4000000 in
theorem sTAge_any (r : Int) (a : Option Addr) (l : List Tb.Pc) (k : Nat) (now : Int) (w : World) (h : IsAt a (l.length * 3) (Tb.fl l) w) :
    Calls Try.prog 16 #[tbV r a l.length k, .int .i64 now] w fun e w' => e = .returned (.int .i64 (Tb.ageOf r l now)) ∧ Below w.heap.size w w' := by
  obtain ⟨W, hW⟩ : ∃ W, W = w.alloc (.cells #[.int .i64 r, .slice a l.length k] 29) := ⟨_, rfl⟩
  have HG : Hid (Below w.heap.size w W) := by show Below _ _ _; rw [hW]; exact nbel_alloc _ _
  have hR : W.rowIs w.heap.size 29 2 (rowN [.int .i64 r, .slice a l.length k]) := by rw [hW]; exact rowN_alloc w _ _
  obtain ⟨⟨x0, x1⟩, _⟩ := rowN2 hR
  have HR := Lib.hid hR
  have HW := Lib.hid hW
  have H := Lib.hid (h.below HG.out)
  clear hW hR h
  go_enter Try.func16, Try.ntmps16
  go_wp2_with fail
  rw [← HW.out]
  clear HW
  refine (sTRight_any r a l k _ H.out).mono ?_
  rintro e w0 ⟨⟨b1, rfl, hb1⟩, hb⟩
  have K1 := Lib.hid hb1
  have HR0 := Lib.hid (nrow_below HR.out hb)
  have H0 := Lib.hid (H.out.below hb)
  have HG0 : Hid (Below w.heap.size w w0) := HG.out.trans (hb.mono HG.out.size)
  clear hb1 hb x0 x1 HR H HG
  obtain ⟨⟨x0, x1⟩, _⟩ := rowN2 HR0.out
  rcases b1 with _ | _
  · go_wp2_with fail
    go_ret
    exact ⟨by unfold Tb.ageOf; rw [if_neg (fun h => by have := K1.out.2 h.1; cases this)]; rfl, HG0.out⟩
  have HRT : Hid (Tb.Right r l) := K1.out.1 rfl
  have n0 : l.length ≤ 60 := HRT.out.1.2
  clear K1
  by_cases hn : 100000 < now
  · go_wp2_with fail
    go_ret
    exact ⟨by unfold Tb.ageOf; rw [if_neg (fun h => by have := h.2.1; omega)]; rfl, HG0.out⟩
  go_wp2_with fail
  go_loopw [5, 6] (fun sv iv wr => ∃ (i : Nat), i ≤ l.length ∧ iv = .int .i64 i ∧ sv = .int .i64 (Tb.ags now (l.take i)) ∧ Hid (∀ j, j < i → (Tb.pg l j).b ≤ now) ∧ Hid (Below w0.heap.size w0 wr)) (fun _ iv _ => l.length - (intOf iv).toNat)
  case atStart => exact ⟨0, Nat.zero_le _, rfl, rfl, fun j hj => absurd hj (Nat.not_lt_zero _), Below.refl _ _⟩
  case round =>
    obtain ⟨i, hi, rfl, rfl, hP, hB⟩ := hrel
    clear x0 x1
    have HR1 := nrow_below HR0.out hB.out
    obtain ⟨⟨x0, x1⟩, _⟩ := rowN2 HR1
    clear HR1
    by_cases hlt : i < l.length
    · have hltz : (i : Int) < (l.length : Int) := by omega
      obtain ⟨b, rfl, c0, c1, c2⟩ := (H0.out.below hB.out).pc hlt
      have hok := HRT.out.2.1 _ (Tb.pg_mem hlt)
      by_cases hbn : now < (Tb.pg l i).b
      · go_wp2_with fail
        go_ret
        exact ⟨by unfold Tb.ageOf; rw [if_neg (fun h => by have := h.2.2 _ (Tb.pg_mem hlt); omega)]; rfl, HG0.out.trans (hB.out.mono HG0.out.size)⟩
      · obtain ⟨s0, s1⟩ : 0 ≤ Tb.ags now (l.take i) ∧ Tb.ags now (l.take i) ≤ 6000000000000 := by
          have := Tb.ags_bd (l := l.take i) (now := now) (Tb.take_sub (P := fun p => Tb.Ok p ∧ p.b ≤ now) (fun j hj => ⟨HRT.out.2.1 _ (Tb.pg_mem (by omega)), hP.out j hj⟩) hi) (by omega)
          rw [List.length_take] at this
          omega
        obtain ⟨m0, m1⟩ := Tb.age1 hok (by omega : (Tb.pg l i).b ≤ now) (by omega)
        have HS : Hid (Tb.ags now (l.take (i + 1)) = Tb.ags now (l.take i) + (Tb.pg l i).w * (now - (Tb.pg l i).b)) := Tb.ags_take now hlt
        obtain ⟨⟨o0, o1⟩, _, o2, o3⟩ := hok
        have HN : Hid ((Tb.pg l i).b ≤ now) := by show _ ≤ _; omega
        generalize Tb.ags now (l.take i) = s at *
        have d0 : 0 ≤ now - (Tb.pg l i).b := by omega
        have d1 : now - (Tb.pg l i).b ≤ 100000 := by omega
        have HBD : Hid (Below w0.heap.size w0 wr.drew) := hB.out.drew
        go_wp2_with fail
        go_region
        go_wp2_with fail
        go_roundw
        case rel =>
          refine ⟨i + 1, by omega, by go_num, by rw [HS.out], fun j hj => ?_, HBD⟩
          by_cases e : j = i
          · subst e; exact HN.out
          · exact hP.out j (by omega)
        case measure => simp [intOf]; omega
    · obtain rfl : i = l.length := by omega
      have HS : Hid (Tb.ags now (l.take l.length) = Tb.ags now l) := by show _ = _; rw [List.take_length]
      have hall : ∀ p, p ∈ l → p.b ≤ now := Tb.of_pg hP.out
      have hr : r ≠ 0 ∧ 0 < r ∧ r ≤ 60000000 := by
        have h1 := Tb.wat_bd HRT.out.2.1
        have h2 := HRT.out.2.2
        have h3 := HRT.out.1
        omega
      obtain ⟨s0, s1⟩ : 0 ≤ Tb.ags now l ∧ Tb.ags now l ≤ 6000000000000 := by
        have := Tb.ags_bd (l := l) (now := now) (fun p hp => ⟨HRT.out.2.1 p hp, hall p hp⟩) (by omega)
        omega
      have HA : Hid (Tb.ageOf r l now = (Tb.ags now l).tdiv r) := by
        show _ = _
        unfold Tb.ageOf
        rw [if_pos ⟨HRT.out, by omega, hall⟩]
      rw [HS.out]
      obtain ⟨r0, r1, r2⟩ := hr
      have hq : (r == 0) = false := by simp [r0]
      have t0 : 0 ≤ (Tb.ags now l).tdiv r := Int.tdiv_nonneg s0 (by omega)
      have t1 : (Tb.ags now l).tdiv r ≤ 6000000000000 := by
        rw [Int.tdiv_eq_ediv_of_nonneg s0]
        have := Int.ediv_le_self r s0
        omega
      clear hall
      go_wp2_with fail
      go_ret
      exact ⟨by rw [HA.out]; rfl, HG0.out.trans (hB.out.mono HG0.out.size)⟩
end Go.Proofs.Ytjmnehlgefpheaa
