/-
  Both packages' MixParcels.
-/
import Derived.Test.YtjmnehlgefpheaaTbI1
import Derived.Test.YtjmnehlgefpheaaReg
namespace Go.Proofs.Ytjmnehlgefpheaa
open Go.RowKit Go.Deep

namespace Tb
theorem mix_no {l : List Pc} (h : ¬ ((1 ≤ l.length ∧ l.length ≤ 400) ∧ (∀ p, p ∈ l → Ok p) ∧ Ok (mixP l))) : mixOf l = z := by unfold mixOf; rw [if_neg h]
theorem mix_yes {l : List Pc} (h1 : 1 ≤ l.length ∧ l.length ≤ 400) (h2 : ∀ p, p ∈ l → Ok p) (h3 : Ok (mixP l)) : mixOf l = mixP l := by unfold mixOf; rw [if_pos ⟨h1, h2, h3⟩]
end Tb
theorem tmin_any (a b : Int) (w : World) : Calls Try.prog 32 #[.int .i64 a, .int .i64 b] w fun e w' => e = .returned (.int .i64 (if b < a then b else a)) ∧ w' = w := by
  by_cases h : a < b
  · have e : (if b < a then b else a) = a := by rw [if_neg (by omega)]
    rw [e]
    go_enter Try.func32, Try.ntmps32
    go_wp2_with fail
    go_ret
    exact ⟨rfl, rfl⟩
  · have e : (if b < a then b else a) = b := by
      by_cases h2 : b < a
      · rw [if_pos h2]
      · rw [if_neg h2]; omega
    rw [e]
    go_enter Try.func32, Try.ntmps32
    go_wp2_with fail
    go_ret
    exact ⟨rfl, rfl⟩
theorem tmin_eq (a b m : Int) (h : m = if b < a then b else a) (w : World) : Calls Try.prog 32 #[.int .i64 a, .int .i64 b] w fun e w' => e = .returned (.int .i64 m) ∧ w' = w := by rw [h]; exact tmin_any a b w
theorem nrow_drew {w : World} {g : Nat} {t : TypeId} {m : Nat} {F : Nat → Value} (h : w.rowIs g t m F) : w.drew.drew.drew.rowIs g t m F := h.of_block rfl
theorem bel_drew {B : Nat} {w w1 : World} (h : Below B w w1) : Below B w w1.drew.drew.drew := h.trans ⟨rfl, rfl, rfl, Nat.le_refl _, fun _ _ => rfl⟩
set_option maxRecDepth 100000 in
set_option maxHeartbeats 8000000 in
theorem implMix_any (a : Option Addr) (l : List Tb.Pc) (k : Nat) (w : World) (h : IsAt a (l.length * 3) (Tb.fl l) w) (hl : l.length ≤ 1048576) :
    Calls Try.prog 21 #[.slice a l.length k] w fun e w' => e = .returned (pcV (Tb.mixOf l)) ∧ Below w.heap.size w w' := by
  by_cases h1 : l.length < 1
  · have hz : (l.length : Int) < 1 := by omega
    go_enter Try.func21, Try.ntmps21
    go_wp2_with fail
    exact bodyPost_ret (v := pcV (Tb.mixOf l)) (by rw [Tb.mix_no (fun h => by have := h.1.1; omega)]; simp [results, Try.results21, go_sem, Tb.z]) rfl ⟨rfl, nbel_alloc _ _⟩
  have hz1 : ¬ (l.length : Int) < 1 := by omega
  by_cases h2 : 400 < l.length
  · have hz : (400 : Int) < l.length := by omega
    go_enter Try.func21, Try.ntmps21
    go_wp2_with fail
    exact bodyPost_ret (v := pcV (Tb.mixOf l)) (by rw [Tb.mix_no (fun h => by have := h.1.2; omega)]; simp [results, Try.results21, go_sem, Tb.z]) rfl ⟨rfl, nbel_alloc _ _⟩
  have hz2 : ¬ (400 : Int) < l.length := by omega
  obtain ⟨b, rfl, c0, c1, c2⟩ := h.pc (i := 0) (by omega)
  simp only [Nat.zero_mul, Nat.zero_add] at c0 c1 c2
  have d2 : (w.alloc (.cells #[.int .i64 0, .int .i64 0, .int .i64 0] 39)).cell? ⟨b, 2, none⟩ = some (.int .i64 (Tb.pg l 0).b) := ((nbel_alloc w _).cell (World.block_lt_of_cell? _ _ c2)).trans c2
  obtain ⟨W, hW⟩ : ∃ W, W = (w.alloc (.cells #[.int .i64 0, .int .i64 0, .int .i64 0] 39)).alloc (.cells #[.int .i64 0, .int .i64 0, .int .i64 (Tb.pg l 0).b] 39) := ⟨_, rfl⟩
  have HG : Hid (Below w.heap.size w W) := by show Below _ _ _; rw [hW]; exact (nbel_alloc _ _).alloc (by simp) _
  have HR : Hid (W.rowIs w.heap.size 39 3 (rowN (pcL Tb.z))) := by show W.rowIs _ _ _ _; rw [hW]; exact nrow_below (rowN_alloc w _ _) (nbel_alloc _ _)
  have HM : Hid (W.rowIs (w.heap.size + 1) 39 3 (rowN (pcL ⟨Tb.wat (l.take 0), Tb.gra (l.take 0), Tb.mnb l 0⟩))) := by show W.rowIs _ _ _ _; rw [hW]; exact rowN_alloc' (by simp) _ _
  have HW := Lib.hid hW
  have H := Lib.hid h
  clear hW h
  go_enter Try.func21, Try.ntmps21
  go_wp2_with fail
  rw [← HW.out]
  clear HW c0 c1 c2 d2
  go_loopw [22] (fun iv wr => ∃ (i : Nat), i ≤ l.length ∧ iv = .int .i64 i ∧ Hid (∀ j, j < i → Tb.Ok (Tb.pg l j)) ∧ Hid (wr.rowIs w.heap.size 39 3 (rowN (pcL Tb.z))) ∧ Hid (wr.rowIs (w.heap.size + 1) 39 3 (rowN (pcL ⟨Tb.wat (l.take i), Tb.gra (l.take i), Tb.mnb l i⟩))) ∧ Hid (Below w.heap.size w wr)) (fun iv _ => l.length - (intOf iv).toNat)
  case atStart => exact ⟨0, Nat.zero_le _, rfl, fun j hj => absurd hj (Nat.not_lt_zero _), HR, HM, HG⟩
  case round =>
    obtain ⟨i, hi, rfl, hP, hR, hM, hB⟩ := hrel
    clear HR HM HG
    by_cases hlt : i < l.length
    · have hltz : (i : Int) < (l.length : Int) := by omega
      obtain ⟨b', e', c0, c1, c2⟩ := (H.out.below hB.out).pc hlt
      cases e'
      obtain ⟨W2, hW2⟩ : ∃ W2, W2 = wr.alloc (.cells #[.int .i64 (Tb.pg l i).w, .int .i64 (Tb.pg l i).g, .int .i64 (Tb.pg l i).b] 39) := ⟨_, rfl⟩
      have HW2 := Lib.hid hW2
      have HX2 : Hid (W2.rowIs wr.heap.size 39 3 (rowN (pcL (Tb.pg l i)))) := by show W2.rowIs _ _ _ _; rw [hW2]; exact rowN_alloc wr _ _
      have HR2 : Hid (W2.rowIs w.heap.size 39 3 (rowN (pcL Tb.z))) := by show W2.rowIs _ _ _ _; rw [hW2]; exact nrow_below hR.out (nbel_alloc _ _)
      have HM2 : Hid (W2.rowIs (w.heap.size + 1) 39 3 (rowN (pcL ⟨Tb.wat (l.take i), Tb.gra (l.take i), Tb.mnb l i⟩))) := by show W2.rowIs _ _ _ _; rw [hW2]; exact nrow_below hM.out (nbel_alloc _ _)
      have HB2 : Hid (Below w.heap.size w W2) := by show Below _ _ _; rw [hW2]; exact hB.out.trans ((nbel_alloc wr _).mono hB.out.size)
      have HZ2 : Hid (w.heap.size + 1 < wr.heap.size) := hM.out.lt
      clear hW2
      go_wp2_with fail
      rw [← HW2.out]
      clear HW2
      refine (parcelRight_any (Tb.pg l i) _).mono ?_
      rintro e w1 ⟨⟨b1, rfl, hb1⟩, hbl⟩
      have K1 := Lib.hid hb1
      have hR1 := nrow_below HR2.out hbl
      have hM1 := nrow_below HM2.out hbl
      have HB3 : Hid (Below w.heap.size w w1) := HB2.out.trans (hbl.mono HB2.out.size)
      obtain ⟨⟨r0, r1, r2⟩, q0, q1, q2⟩ := rowN3 hR1
      have hgs : w.heap.size < w1.heap.size := hR1.lt
      clear c0 c1 c2
      obtain ⟨⟨c0, c1, c2⟩, _⟩ := rowN3 (nrow_below HX2.out hbl)
      have hz5 : w.heap.size + 1 < wr.heap.size := HZ2.out
      rcases b1 with _ | _
      · clear hb1 hbl hM1
        go_wp2_with fail
        exact bodyPost_ret (v := pcV (Tb.mixOf l)) (by rw [Tb.mix_no (fun h => by have := K1.out.2 (h.2.1 _ (Tb.pg_mem hlt)); cases this)]; obtain ⟨⟨v0, v1, v2⟩, _⟩ := rowN3 (rowN_put (rowN_put (rowN_put hR1 0 (.int .i64 0) (by simp)) 1 (.int .i64 0) (by simp)) 2 (.int .i64 0) (by simp)); simp only [results, Try.results21]; simp [go_sem, Tb.z, v0, v1, v2]) rfl ⟨rfl, ((HB3.out.setCell (p := ⟨w.heap.size, 0, none⟩) (Nat.le_refl _) _).setCell (p := ⟨w.heap.size, 1, none⟩) (Nat.le_refl _) _).setCell (p := ⟨w.heap.size, 2, none⟩) (Nat.le_refl _) _⟩
      · have hok := K1.out.1 rfl
        have hall : ∀ p, p ∈ l.take i → Tb.Ok p := Tb.take_sub hP.out hi
        obtain ⟨s0, s1⟩ : 0 ≤ Tb.wat (l.take i) ∧ Tb.wat (l.take i) ≤ 400000000 := by
          have := Tb.wat_bd hall
          rw [List.length_take] at this
          omega
        obtain ⟨t0, t1⟩ : 0 ≤ Tb.gra (l.take i) ∧ Tb.gra (l.take i) ≤ 400000000000 := by
          have := Tb.gra_bd hall
          rw [List.length_take] at this
          omega
        have HS : Hid ((⟨Tb.wat (l.take (i + 1)), Tb.gra (l.take (i + 1)), Tb.mnb l (i + 1)⟩ : Tb.Pc) = ⟨Tb.wat (l.take i) + (Tb.pg l i).w, Tb.gra (l.take i) + (Tb.pg l i).g, if (Tb.pg l i).b < Tb.mnb l i then (Tb.pg l i).b else Tb.mnb l i⟩) := by show _ = _; rw [Tb.wat_take hlt, Tb.gra_take hlt]; rfl
        have HOK := Lib.hid hok
        obtain ⟨⟨o0, o1⟩, ⟨o2, o3⟩, o4, o5⟩ := hok
        obtain ⟨⟨m0, m1, m2⟩, f0, f1, f2⟩ := rowN3 hM1
        have hms : w.heap.size + 1 < w1.heap.size := hM1.lt
        have HR1 := Lib.hid hR1
        have HM1 := Lib.hid hM1
        clear hb1 hbl hall K1 hR1 hM1 hR hM hB r0 r1 r2 q0 q1 q2
        simp only [] at m0 m1 m2
        generalize Tb.wat (l.take i) = s at *
        generalize Tb.gra (l.take i) = t at *
        generalize Tb.mnb l i = u at *
        go_wp2_with fail
        go_roundw
        case rel =>
          refine ⟨i + 1, by omega, by go_num, fun j hj => ?_, nrow_set (nrow_set (nrow_set HR1.out (p := ⟨w.heap.size + 1, 0, none⟩) (by show w.heap.size ≠ w.heap.size + 1; omega) _) (p := ⟨w.heap.size + 1, 1, none⟩) (by show w.heap.size ≠ w.heap.size + 1; omega) _) (p := ⟨w.heap.size + 1, 2, none⟩) (by show w.heap.size ≠ w.heap.size + 1; omega) _, by rw [HS.out]; exact rowN_put (rowN_put (rowN_put HM1.out 0 _ (by simp)) 1 _ (by simp)) 2 _ (by simp), ((HB3.out.setCell (p := ⟨w.heap.size + 1, 0, none⟩) (by show w.heap.size ≤ w.heap.size + 1; omega) _).setCell (p := ⟨w.heap.size + 1, 1, none⟩) (by show w.heap.size ≤ w.heap.size + 1; omega) _).setCell (p := ⟨w.heap.size + 1, 2, none⟩) (by show w.heap.size ≤ w.heap.size + 1; omega) _⟩
          by_cases e : j = i
          · subst e; exact HOK.out
          · exact hP.out j (by omega)
        case measure => simp [intOf]; omega
    · obtain rfl : i = l.length := by omega
      have hall := Lib.hid (Tb.all_pg hP.out)
      have e1 : Tb.wat (l.take l.length) = Tb.wat l := by rw [List.take_length]
      have e2 : Tb.gra (l.take l.length) = Tb.gra l := by rw [List.take_length]
      rw [e1, e2] at hM
      clear e1 e2
      obtain ⟨⟨m0, m1, m2⟩, f0, f1, f2⟩ := rowN3 hM.out
      go_wp2_with fail
      refine (parcelRight_any (Tb.mixP l) _).mono ?_
      rintro e w1 ⟨⟨b1, rfl, hb1⟩, hbl⟩
      have K1 := Lib.hid hb1
      have hR1 := nrow_below hR.out hbl
      have hM1 := nrow_below hM.out hbl
      have HB3 : Hid (Below w.heap.size w w1) := hB.out.trans (hbl.mono hB.out.size)
      clear m0 m1 m2 f0 f1 f2
      obtain ⟨⟨r0, r1, r2⟩, q0, q1, q2⟩ := rowN3 hR1
      obtain ⟨⟨m0, m1, m2⟩, f0, f1, f2⟩ := rowN3 hM1
      have hgs : w.heap.size < w1.heap.size := hR1.lt
      clear hb1 hbl
      rcases b1 with _ | _
      · go_wp2_with fail
        exact bodyPost_ret (v := pcV (Tb.mixOf l)) (by rw [Tb.mix_no (fun h => by have := K1.out.2 h.2.2; cases this)]; obtain ⟨⟨v0, v1, v2⟩, _⟩ := rowN3 (rowN_put (rowN_put (rowN_put hR1 0 (.int .i64 0) (by simp)) 1 (.int .i64 0) (by simp)) 2 (.int .i64 0) (by simp)); simp only [results, Try.results21]; simp [go_sem, Tb.z, v0, v1, v2]) rfl ⟨rfl, ((HB3.out.setCell (p := ⟨w.heap.size, 0, none⟩) (Nat.le_refl _) _).setCell (p := ⟨w.heap.size, 1, none⟩) (Nat.le_refl _) _).setCell (p := ⟨w.heap.size, 2, none⟩) (Nat.le_refl _) _⟩
      · go_wp2_with fail
        exact bodyPost_ret (v := pcV (Tb.mixOf l)) (by rw [Tb.mix_yes ⟨by omega, by omega⟩ hall.out (by have := K1.out; simpa using this)]; obtain ⟨⟨v0, v1, v2⟩, _⟩ := rowN3 (rowN_put (rowN_put (rowN_put hR1 0 (.int .i64 (Tb.wat l)) (by simp)) 1 (.int .i64 (Tb.gra l)) (by simp)) 2 (.int .i64 (Tb.mnb l l.length)) (by simp)); simp only [results, Try.results21]; simp [go_sem, v0, v1, v2, Tb.mixP]) rfl ⟨rfl, ((HB3.out.setCell (p := ⟨w.heap.size, 0, none⟩) (Nat.le_refl _) _).setCell (p := ⟨w.heap.size, 1, none⟩) (Nat.le_refl _) _).setCell (p := ⟨w.heap.size, 2, none⟩) (Nat.le_refl _) _⟩
set_option maxRecDepth 100000 in
set_option maxHeartbeats 8000000 in
theorem sMix_any (a : Option Addr) (l : List Tb.Pc) (k : Nat) (w : World) (h : IsAt a (l.length * 3) (Tb.fl l) w) (hl : l.length ≤ 1048576) :
    Calls Try.prog 19 #[.slice a l.length k] w fun e w' => e = .returned (pcV (Tb.mixOf l)) ∧ Below w.heap.size w w' := by
  by_cases h1 : l.length < 1
  · have hz : (l.length : Int) < 1 := by omega
    go_enter Try.func19, Try.ntmps19
    go_wp2_with fail
    exact bodyPost_ret (v := pcV (Tb.mixOf l)) (by rw [Tb.mix_no (fun h => by have := h.1.1; omega)]; simp [results, Try.results19, go_sem, Tb.z]) rfl ⟨rfl, nbel_alloc _ _⟩
  have hz1 : ¬ (l.length : Int) < 1 := by omega
  by_cases h2 : 400 < l.length
  · have hz : (400 : Int) < l.length := by omega
    go_enter Try.func19, Try.ntmps19
    go_wp2_with fail
    exact bodyPost_ret (v := pcV (Tb.mixOf l)) (by rw [Tb.mix_no (fun h => by have := h.1.2; omega)]; simp [results, Try.results19, go_sem, Tb.z]) rfl ⟨rfl, nbel_alloc _ _⟩
  have hz2 : ¬ (400 : Int) < l.length := by omega
  obtain ⟨b, rfl, c0, c1, c2⟩ := h.pc (i := 0) (by omega)
  simp only [Nat.zero_mul, Nat.zero_add] at c0 c1 c2
  have d2 : (w.alloc (.cells #[.int .i64 0, .int .i64 0, .int .i64 0] 39)).cell? ⟨b, 2, none⟩ = some (.int .i64 (Tb.pg l 0).b) := ((nbel_alloc w _).cell (World.block_lt_of_cell? _ _ c2)).trans c2
  obtain ⟨W, hW⟩ : ∃ W, W = (w.alloc (.cells #[.int .i64 0, .int .i64 0, .int .i64 0] 39)).alloc (.cells #[.int .i64 0, .int .i64 0, .int .i64 (Tb.pg l 0).b] 39) := ⟨_, rfl⟩
  have HG : Hid (Below w.heap.size w W) := by show Below _ _ _; rw [hW]; exact (nbel_alloc _ _).alloc (by simp) _
  have HR : Hid (W.rowIs w.heap.size 39 3 (rowN (pcL Tb.z))) := by show W.rowIs _ _ _ _; rw [hW]; exact nrow_below (rowN_alloc w _ _) (nbel_alloc _ _)
  have HM : Hid (W.rowIs (w.heap.size + 1) 39 3 (rowN (pcL ⟨Tb.wat (l.take 0), Tb.gra (l.take 0), Tb.mnb l 0⟩))) := by show W.rowIs _ _ _ _; rw [hW]; exact rowN_alloc' (by simp) _ _
  have HNE : Hid (b ≠ w.heap.size + 1) := by have := World.block_lt_of_cell? _ _ c0; show b ≠ _; simp at this; omega
  have HW := Lib.hid hW
  have H := Lib.hid h
  clear hW h
  go_enter Try.func19, Try.ntmps19
  go_wp2_with fail
  rw [← HW.out]
  clear HW c0 c1 c2 d2
  go_loopw [4] (fun iv wr => ∃ (i : Nat), i ≤ l.length ∧ iv = .int .i64 i ∧ Hid (∀ j, j < i → Tb.Ok (Tb.pg l j)) ∧ Hid (wr.rowIs w.heap.size 39 3 (rowN (pcL Tb.z))) ∧ Hid (wr.rowIs (w.heap.size + 1) 39 3 (rowN (pcL ⟨Tb.wat (l.take i), Tb.gra (l.take i), Tb.mnb l i⟩))) ∧ Hid (Below w.heap.size w wr)) (fun iv _ => l.length - (intOf iv).toNat)
  case atStart => exact ⟨0, Nat.zero_le _, rfl, fun j hj => absurd hj (Nat.not_lt_zero _), HR, HM, HG⟩
  case round =>
    obtain ⟨i, hi, rfl, hP, hR, hM, hB⟩ := hrel
    clear HR HM HG
    by_cases hlt : i < l.length
    · have hltz : (i : Int) < (l.length : Int) := by omega
      obtain ⟨b', e', c0, c1, c2⟩ := (H.out.below hB.out).pc hlt
      cases e'
      go_wp2_with fail
      refine (l10Parcel_any (Tb.pg l i) _).mono ?_
      rintro e w1 ⟨⟨b1, rfl, hb1⟩, hbl⟩
      have K1 := Lib.hid hb1
      have hR1 := nrow_below hR.out hbl
      have hM1 := nrow_below hM.out hbl
      have HB3 : Hid (Below w.heap.size w w1) := hB.out.trans (hbl.mono hB.out.size)
      obtain ⟨⟨r0, r1, r2⟩, q0, q1, q2⟩ := rowN3 hR1
      have hgs : w.heap.size < w1.heap.size := hR1.lt
      clear c0 c1 c2
      obtain ⟨b', e', c0, c1, c2⟩ := (H.out.below HB3.out).pc hlt
      cases e'
      rcases b1 with _ | _
      · clear hb1 hbl hM1
        go_wp2_with fail
        exact bodyPost_ret (v := pcV (Tb.mixOf l)) (by rw [Tb.mix_no (fun h => by have := K1.out.2 (h.2.1 _ (Tb.pg_mem hlt)); cases this)]; obtain ⟨⟨v0, v1, v2⟩, _⟩ := rowN3 (rowN_put (rowN_put (rowN_put hR1 0 (.int .i64 0) (by simp)) 1 (.int .i64 0) (by simp)) 2 (.int .i64 0) (by simp)); simp only [results, Try.results19]; simp [go_sem, Tb.z, v0, v1, v2]) rfl ⟨rfl, ((HB3.out.setCell (p := ⟨w.heap.size, 0, none⟩) (Nat.le_refl _) _).setCell (p := ⟨w.heap.size, 1, none⟩) (Nat.le_refl _) _).setCell (p := ⟨w.heap.size, 2, none⟩) (Nat.le_refl _) _⟩
      · have hok := K1.out.1 rfl
        have hall : ∀ p, p ∈ l.take i → Tb.Ok p := Tb.take_sub hP.out hi
        obtain ⟨s0, s1⟩ : 0 ≤ Tb.wat (l.take i) ∧ Tb.wat (l.take i) ≤ 400000000 := by
          have := Tb.wat_bd hall
          rw [List.length_take] at this
          omega
        obtain ⟨t0, t1⟩ : 0 ≤ Tb.gra (l.take i) ∧ Tb.gra (l.take i) ≤ 400000000000 := by
          have := Tb.gra_bd hall
          rw [List.length_take] at this
          omega
        have HS : Hid ((⟨Tb.wat (l.take (i + 1)), Tb.gra (l.take (i + 1)), Tb.mnb l (i + 1)⟩ : Tb.Pc) = ⟨Tb.wat (l.take i) + (Tb.pg l i).w, Tb.gra (l.take i) + (Tb.pg l i).g, if (Tb.pg l i).b < Tb.mnb l i then (Tb.pg l i).b else Tb.mnb l i⟩) := by show _ = _; rw [Tb.wat_take hlt, Tb.gra_take hlt]; rfl
        have HOK := Lib.hid hok
        obtain ⟨⟨o0, o1⟩, ⟨o2, o3⟩, o4, o5⟩ := hok
        obtain ⟨⟨m0, m1, m2⟩, f0, f1, f2⟩ := rowN3 hM1
        have hms : w.heap.size + 1 < w1.heap.size := hM1.lt
        have HR1 := Lib.hid hR1
        have HM1 := Lib.hid hM1
        clear hb1 hbl hall K1 hR1 hM1 hR hM hB r0 r1 r2 q0 q1 q2
        simp only [] at m0 m1 m2
        generalize Tb.wat (l.take i) = s at *
        generalize Tb.gra (l.take i) = t at *
        generalize Tb.mnb l i = u at *
        have hne : b ≠ w.heap.size + 1 := HNE.out
        obtain ⟨mm, hmm⟩ : ∃ mm : Int, mm = if (Tb.pg l i).b < u then (Tb.pg l i).b else u := ⟨_, rfl⟩
        have HMM := Lib.hid hmm
        clear hmm
        go_wp2_with fail
        go_region
        go_wp2_with fail
        go_region
        go_wp2_with fail
        go_region_with (go_at_call 32; refine (tmin_eq _ _ mm HMM.out _).mono ?_; rintro e w' ⟨rfl, rfl⟩)
        all_goals go_wp2_with fail
        all_goals
          go_roundw
          case rel =>
            refine ⟨i + 1, by omega, by go_num, fun j hj => ?_, ?_, ?_, ?_⟩
            · by_cases e : j = i
              · subst e; exact HOK.out
              · exact hP.out j (by omega)
            · exact nrow_drew (nrow_set (nrow_set (nrow_set HR1.out (p := ⟨w.heap.size + 1, 0, none⟩) (by show w.heap.size ≠ w.heap.size + 1; omega) _) (p := ⟨w.heap.size + 1, 1, none⟩) (by show w.heap.size ≠ w.heap.size + 1; omega) _) (p := ⟨w.heap.size + 1, 2, none⟩) (by show w.heap.size ≠ w.heap.size + 1; omega) _)
            · rw [HS.out, ← HMM.out]; exact nrow_drew (rowN_put (rowN_put (rowN_put HM1.out 0 _ (by simp)) 1 _ (by simp)) 2 _ (by simp))
            · exact bel_drew (((HB3.out.setCell (p := ⟨w.heap.size + 1, 0, none⟩) (by show w.heap.size ≤ w.heap.size + 1; omega) _).setCell (p := ⟨w.heap.size + 1, 1, none⟩) (by show w.heap.size ≤ w.heap.size + 1; omega) _).setCell (p := ⟨w.heap.size + 1, 2, none⟩) (by show w.heap.size ≤ w.heap.size + 1; omega) _)
          case measure => simp [intOf]; omega
    · obtain rfl : i = l.length := by omega
      have hall := Lib.hid (Tb.all_pg hP.out)
      have e1 : Tb.wat (l.take l.length) = Tb.wat l := by rw [List.take_length]
      have e2 : Tb.gra (l.take l.length) = Tb.gra l := by rw [List.take_length]
      rw [e1, e2] at hM
      clear e1 e2
      obtain ⟨⟨m0, m1, m2⟩, f0, f1, f2⟩ := rowN3 hM.out
      go_wp2_with fail
      refine (l10Parcel_any (Tb.mixP l) _).mono ?_
      rintro e w1 ⟨⟨b1, rfl, hb1⟩, hbl⟩
      have K1 := Lib.hid hb1
      have hR1 := nrow_below hR.out hbl
      have hM1 := nrow_below hM.out hbl
      have HB3 : Hid (Below w.heap.size w w1) := hB.out.trans (hbl.mono hB.out.size)
      clear m0 m1 m2 f0 f1 f2
      obtain ⟨⟨r0, r1, r2⟩, q0, q1, q2⟩ := rowN3 hR1
      obtain ⟨⟨m0, m1, m2⟩, f0, f1, f2⟩ := rowN3 hM1
      have hgs : w.heap.size < w1.heap.size := hR1.lt
      clear hb1 hbl
      rcases b1 with _ | _
      · go_wp2_with fail
        exact bodyPost_ret (v := pcV (Tb.mixOf l)) (by rw [Tb.mix_no (fun h => by have := K1.out.2 h.2.2; cases this)]; obtain ⟨⟨v0, v1, v2⟩, _⟩ := rowN3 (rowN_put (rowN_put (rowN_put hR1 0 (.int .i64 0) (by simp)) 1 (.int .i64 0) (by simp)) 2 (.int .i64 0) (by simp)); simp only [results, Try.results19]; simp [go_sem, Tb.z, v0, v1, v2]) rfl ⟨rfl, ((HB3.out.setCell (p := ⟨w.heap.size, 0, none⟩) (Nat.le_refl _) _).setCell (p := ⟨w.heap.size, 1, none⟩) (Nat.le_refl _) _).setCell (p := ⟨w.heap.size, 2, none⟩) (Nat.le_refl _) _⟩
      · go_wp2_with fail
        exact bodyPost_ret (v := pcV (Tb.mixOf l)) (by rw [Tb.mix_yes ⟨by omega, by omega⟩ hall.out (by have := K1.out; simpa using this)]; obtain ⟨⟨v0, v1, v2⟩, _⟩ := rowN3 (rowN_put (rowN_put (rowN_put hR1 0 (.int .i64 (Tb.wat l)) (by simp)) 1 (.int .i64 (Tb.gra l)) (by simp)) 2 (.int .i64 (Tb.mnb l l.length)) (by simp)); simp only [results, Try.results19]; simp [go_sem, v0, v1, v2, Tb.mixP]) rfl ⟨rfl, ((HB3.out.setCell (p := ⟨w.heap.size, 0, none⟩) (Nat.le_refl _) _).setCell (p := ⟨w.heap.size, 1, none⟩) (Nat.le_refl _) _).setCell (p := ⟨w.heap.size, 2, none⟩) (Nat.le_refl _) _⟩
end Go.Proofs.Ytjmnehlgefpheaa
