/-
  Both packages' tests of parcels and of tubes.
-/
import Derived.Test.YtjmnehlgefpheaaDoorTbMem
namespace Go.Proofs.YtjmnehlgefpheaaDoor
open Go.RowKit Go.Deep

theorem tbool_of (P : Prop) : ∃ b : Bool, b = true ↔ P := by
  by_cases h : P
  · exact ⟨true, by simp [h]⟩
  · exact ⟨false, by simp [h]⟩
theorem twithin_any (x m : Int) (b : Bool) (hb : b = true ↔ (0 ≤ x ∧ x ≤ m)) (w : World) :
    Calls Tryd.prog 43 #[.int .i64 x, .int .i64 m] w fun e w' => e = .returned (.bool b) ∧ w' = w := by
  by_cases h1 : 0 ≤ x
  · by_cases h2 : x ≤ m
    · obtain rfl : b = true := hb.2 ⟨h1, h2⟩
      go_enter Tryd.func43, Tryd.ntmps43
      go_wp2_with fail
      go_ret
      exact ⟨rfl, rfl⟩
    · obtain rfl : b = false := by
        cases b with
        | false => rfl
        | true => exact absurd (hb.1 rfl).2 h2
      go_enter Tryd.func43, Tryd.ntmps43
      go_wp2_with fail
      go_ret
      exact ⟨rfl, rfl⟩
  · obtain rfl : b = false := by
      cases b with
      | false => rfl
      | true => exact absurd (hb.1 rfl).1 h1
    go_enter Tryd.func43, Tryd.ntmps43
    go_wp2_with fail
    go_ret
    exact ⟨rfl, rfl⟩
set_option maxRecDepth 100000 in
set_option maxHeartbeats 2000000 in
theorem parcelRight_any (p : Tb.Pc) (w : World) :
    Calls Tryd.prog 36 #[pcV p] w fun e w' => BoolEnd (Tb.Ok p) e ∧ Below w.heap.size w w' := by
  obtain ⟨b1, hb1⟩ := tbool_of (0 ≤ p.w ∧ p.w ≤ 1000000)
  obtain ⟨b2, hb2⟩ := tbool_of (0 ≤ p.g ∧ p.g ≤ 1000000000)
  obtain ⟨b3, hb3⟩ := tbool_of (0 ≤ p.b ∧ p.b ≤ 100000)
  have K1 := Lib.hid hb1
  have K2 := Lib.hid hb2
  have K3 := Lib.hid hb3
  obtain ⟨W, hW⟩ : ∃ W, W = w.alloc (.cells #[.int .i64 p.w, .int .i64 p.g, .int .i64 p.b] 38) := ⟨_, rfl⟩
  have hR := rowN_alloc w (pcL p) 38
  have HG : Hid (Below w.heap.size w W) := by show Below _ _ _; rw [hW]; exact nbel_alloc _ _
  have hR2 : W.rowIs w.heap.size 38 3 (rowN (pcL p)) := by rw [hW]; exact hR
  obtain ⟨⟨x0, x1, x2⟩, _⟩ := rowN3 hR2
  have HW := Lib.hid hW
  clear hb1 hb2 hb3 hW hR hR2
  by_cases h1 : 1 ≤ p.w
  · go_enter Tryd.func36, Tryd.ntmps36
    go_wp2_with fail
    rw [← HW.out]
    refine (twithin_any _ _ b1 K1.out _).mono ?_
    rintro e w1 ⟨rfl, e1⟩
    subst w1
    cases b1 with
    | false =>
      go_wp2_with fail
      go_ret
      exact ⟨.ff (fun h => by have := K1.out.2 ⟨by have := h.1.1; omega, h.1.2⟩; cases this), HG.out⟩
    | true =>
      go_wp2_with fail
      refine (twithin_any _ _ b2 K2.out _).mono ?_
      rintro e w1 ⟨rfl, e1⟩
      subst w1
      cases b2 with
      | false =>
        go_wp2_with fail
        go_ret
        exact ⟨.ff (fun h => by have := K2.out.2 h.2.1; cases this), HG.out⟩
      | true =>
        go_wp2_with fail
        refine (twithin_any _ _ b3 K3.out _).mono ?_
        rintro e w1 ⟨rfl, e1⟩
        subst w1
        cases b3 with
        | false =>
          go_wp2_with fail
          go_ret
          exact ⟨.ff (fun h => by have := K3.out.2 h.2.2; cases this), HG.out⟩
        | true =>
          go_wp2_with fail
          go_ret
          exact ⟨.tt ⟨⟨h1, (by have := K1.out; simp at this; omega)⟩, (by have := K2.out; simpa using this), (by have := K3.out; simpa using this)⟩, HG.out⟩
  · go_enter Tryd.func36, Tryd.ntmps36
    go_wp2_with fail
    rw [← HW.out]
    go_ret
    exact ⟨.ff (fun h => by have := h.1.1; omega), HG.out⟩
set_option maxRecDepth 100000 in
set_option maxHeartbeats 2000000 in
theorem l10Parcel_any (p : Tb.Pc) (w : World) :
    Calls Tryd.prog 37 #[pcV p] w fun e w' => BoolEnd (Tb.Ok p) e ∧ Below w.heap.size w w' := by
  have HG := Lib.hid (nbel_alloc w (.cells #[.int .i64 p.w, .int .i64 p.g, .int .i64 p.b] 38))
  by_cases h1 : 1 ≤ p.w
  case neg =>
    go_enter Tryd.func37, Tryd.ntmps37
    go_wp2_with fail
    go_ret
    exact ⟨.ff (fun h => by have := h.1.1; omega), HG.out⟩
  by_cases h2 : p.w ≤ 1000000
  case neg =>
    go_enter Tryd.func37, Tryd.ntmps37
    go_wp2_with fail
    go_ret
    exact ⟨.ff (fun h => by have := h.1.2; omega), HG.out⟩
  by_cases h3 : 0 ≤ p.g
  case neg =>
    go_enter Tryd.func37, Tryd.ntmps37
    go_wp2_with fail
    go_ret
    exact ⟨.ff (fun h => by have := h.2.1.1; omega), HG.out⟩
  by_cases h4 : p.g ≤ 1000000000
  case neg =>
    go_enter Tryd.func37, Tryd.ntmps37
    go_wp2_with fail
    go_ret
    exact ⟨.ff (fun h => by have := h.2.1.2; omega), HG.out⟩
  by_cases h5 : 0 ≤ p.b
  case neg =>
    go_enter Tryd.func37, Tryd.ntmps37
    go_wp2_with fail
    go_ret
    exact ⟨.ff (fun h => by have := h.2.2.1; omega), HG.out⟩
  by_cases h6 : p.b ≤ 100000
  case neg =>
    go_enter Tryd.func37, Tryd.ntmps37
    go_wp2_with fail
    go_ret
    exact ⟨.ff (fun h => by have := h.2.2.2; omega), HG.out⟩
  go_enter Tryd.func37, Tryd.ntmps37
  go_wp2_with fail
  go_ret
  exact ⟨.tt ⟨⟨h1, h2⟩, ⟨h3, h4⟩, h5, h6⟩, HG.out⟩
theorem tnot_right {r : Int} {l : List Tb.Pc} (h : Tb.Right r l) : 1 ≤ l.length ∧ l.length ≤ 60 := h.1
set_option maxRecDepth 100000 in
set_option maxHeartbeats 4000000 in
theorem implTRight_any (r : Int) (a : Option Addr) (l : List Tb.Pc) (k : Nat) (w : World) (h : IsAt a (l.length * 3) (Tb.fl l) w) :
    Calls Tryd.prog 11 #[tbV r a l.length k] w fun e w' => BoolEnd (Tb.Right r l) e ∧ Below w.heap.size w w' := by
  obtain ⟨W, hW⟩ : ∃ W, W = w.alloc (.cells #[.int .i64 r, .slice a l.length k] 25) := ⟨_, rfl⟩
  have HG : Hid (Below w.heap.size w W) := by show Below _ _ _; rw [hW]; exact nbel_alloc _ _
  have hR : W.rowIs w.heap.size 25 2 (rowN [.int .i64 r, .slice a l.length k]) := by rw [hW]; exact rowN_alloc w _ _
  obtain ⟨⟨x0, x1⟩, _⟩ := rowN2 hR
  have HR := Lib.hid hR
  have HW := Lib.hid hW
  have H := Lib.hid (h.below HG.out)
  clear hW hR h
  by_cases h1 : l.length < 1
  · have hz : (l.length : Int) < 1 := by omega
    go_enter Tryd.func11, Tryd.ntmps11
    go_wp2_with fail
    rw [← HW.out]
    go_ret
    exact ⟨.ff (fun h => by have := h.1.1; omega), HG.out⟩
  have hz1 : ¬ (l.length : Int) < 1 := by omega
  by_cases h2 : 60 < l.length
  · have hz : (60 : Int) < l.length := by omega
    go_enter Tryd.func11, Tryd.ntmps11
    go_wp2_with fail
    rw [← HW.out]
    go_ret
    exact ⟨.ff (fun h => by have := h.1.2; omega), HG.out⟩
  have hz2 : ¬ (60 : Int) < l.length := by omega
  go_enter Tryd.func11, Tryd.ntmps11
  go_wp2_with fail
  rw [← HW.out]
  clear HW
  go_loopw [3, 19] (fun sv iv wr => ∃ (i : Nat), i ≤ l.length ∧ iv = .int .i64 i ∧ sv = .int .i64 (Tb.wat (l.take i)) ∧ Hid (∀ j, j < i → Tb.Ok (Tb.pg l j)) ∧ Hid (Below W.heap.size W wr)) (fun _ iv _ => l.length - (intOf iv).toNat)
  case atStart => exact ⟨0, Nat.zero_le _, rfl, rfl, fun j hj => absurd hj (Nat.not_lt_zero _), Below.refl _ _⟩
  case round =>
    obtain ⟨i, hi, rfl, rfl, hP, hB⟩ := hrel
    clear x0 x1
    have HR1 := nrow_below HR.out hB.out
    obtain ⟨⟨x0, x1⟩, _⟩ := rowN2 HR1
    clear HR1
    by_cases hlt : i < l.length
    · have hltz : (i : Int) < (l.length : Int) := by omega
      obtain ⟨b, rfl, c0, c1, c2⟩ := (H.out.below hB.out).pc hlt
      obtain ⟨W2, hW2⟩ : ∃ W2, W2 = wr.alloc (.cells #[.int .i64 (Tb.pg l i).w, .int .i64 (Tb.pg l i).g, .int .i64 (Tb.pg l i).b] 38) := ⟨_, rfl⟩
      have HW2 := Lib.hid hW2
      have HR2 : Hid (W2.rowIs wr.heap.size 38 3 (rowN (pcL (Tb.pg l i)))) := by show W2.rowIs _ _ _ _; rw [hW2]; exact rowN_alloc wr _ _
      have HB2 : Hid (Below W.heap.size W W2) := by show Below _ _ _; rw [hW2]; exact hB.out.trans ((nbel_alloc wr _).mono hB.out.size)
      clear hW2
      go_wp2_with fail
      rw [← HW2.out]
      clear HW2
      refine (parcelRight_any (Tb.pg l i) _).mono ?_
      rintro e w1 ⟨⟨b1, rfl, hb1⟩, hbl⟩
      have K1 := Lib.hid hb1
      have HB3 : Hid (Below W.heap.size W w1) := HB2.out.trans (hbl.mono HB2.out.size)
      obtain ⟨⟨y0, y1, y2⟩, _⟩ := rowN3 (nrow_below HR2.out hbl)
      clear hb1 hbl
      cases b1 with
      | false =>
        go_wp2_with fail
        go_ret
        exact ⟨.ff (fun h => by have := K1.out.2 (h.2.1 _ (Tb.pg_mem hlt)); cases this), HG.out.trans (HB3.out.mono HG.out.size)⟩
      | true =>
        have hok := K1.out.1 rfl
        obtain ⟨s0, s1⟩ : 0 ≤ Tb.wat (l.take i) ∧ Tb.wat (l.take i) ≤ 60000000 := by
          have := Tb.wat_bd (l := l.take i) (Tb.all_pg (fun j hj => by
            have hj2 : j < i := by rw [List.length_take] at hj; omega
            have := hP.out j hj2
            unfold Tb.pg at this ⊢
            rw [List.getD_eq_getElem?_getD] at this ⊢
            rwa [List.getElem?_take, if_pos hj2]))
          rw [List.length_take] at this
          omega
        have HS : Hid (Tb.wat (l.take (i + 1)) = Tb.wat (l.take i) + (Tb.pg l i).w) := Tb.wat_take hlt
        have HOK := Lib.hid hok
        have o0 := hok.1.1
        have o1 := hok.1.2
        clear hok K1
        generalize Tb.wat (l.take i) = s at *
        go_wp2_with fail
        go_roundw
        case rel =>
          refine ⟨i + 1, by omega, by go_num, by rw [HS.out], fun j hj => ?_, HB3⟩
          by_cases e : j = i
          · subst e; exact HOK.out
          · exact hP.out j (by omega)
        case measure => simp [intOf]; omega
    · obtain rfl : i = l.length := by omega
      have HS : Hid (Tb.wat (l.take l.length) = Tb.wat l) := by show _ = _; rw [List.take_length]
      have hall := Lib.hid (Tb.all_pg hP.out)
      rw [HS.out]
      by_cases he : Tb.wat l = r
      · have hq : (Tb.wat l == r) = true := by simp [he]
        go_wp2_with fail
        go_ret
        exact ⟨.tt ⟨⟨by omega, by omega⟩, hall.out, he⟩, HG.out.trans (hB.out.mono HG.out.size)⟩
      · have hq : (Tb.wat l == r) = false := by simp [he]
        go_wp2_with fail
        go_ret
        exact ⟨.ff (fun h => he h.2.2), HG.out.trans (hB.out.mono HG.out.size)⟩
set_option maxRecDepth 100000 in
set_option maxHeartbeats 4000000 in
theorem sTRight_any (r : Int) (a : Option Addr) (l : List Tb.Pc) (k : Nat) (w : World) (h : IsAt a (l.length * 3) (Tb.fl l) w) :
    Calls Tryd.prog 13 #[tbV r a l.length k] w fun e w' => BoolEnd (Tb.Right r l) e ∧ Below w.heap.size w w' := by
  obtain ⟨W, hW⟩ : ∃ W, W = w.alloc (.cells #[.int .i64 r, .slice a l.length k] 25) := ⟨_, rfl⟩
  have HG : Hid (Below w.heap.size w W) := by show Below _ _ _; rw [hW]; exact nbel_alloc _ _
  have hR : W.rowIs w.heap.size 25 2 (rowN [.int .i64 r, .slice a l.length k]) := by rw [hW]; exact rowN_alloc w _ _
  obtain ⟨⟨x0, x1⟩, _⟩ := rowN2 hR
  have HR := Lib.hid hR
  have HW := Lib.hid hW
  have H := Lib.hid (h.below HG.out)
  clear hW hR h
  by_cases h1 : l.length < 1
  · have hz : (l.length : Int) < 1 := by omega
    go_enter Tryd.func13, Tryd.ntmps13
    go_wp2_with fail
    rw [← HW.out]
    go_ret
    exact ⟨.ff (fun h => by have := h.1.1; omega), HG.out⟩
  have hz1 : ¬ (l.length : Int) < 1 := by omega
  by_cases h2 : 60 < l.length
  · have hz : (60 : Int) < l.length := by omega
    go_enter Tryd.func13, Tryd.ntmps13
    go_wp2_with fail
    rw [← HW.out]
    go_ret
    exact ⟨.ff (fun h => by have := h.1.2; omega), HG.out⟩
  have hz2 : ¬ (60 : Int) < l.length := by omega
  go_enter Tryd.func13, Tryd.ntmps13
  go_wp2_with fail
  rw [← HW.out]
  clear HW
  go_loopw [3, 4] (fun sv iv wr => ∃ (i : Nat), i ≤ l.length ∧ iv = .int .i64 i ∧ sv = .int .i64 (Tb.wat (l.take i)) ∧ Hid (∀ j, j < i → Tb.Ok (Tb.pg l j)) ∧ Hid (Below W.heap.size W wr)) (fun _ iv _ => l.length - (intOf iv).toNat)
  case atStart => exact ⟨0, Nat.zero_le _, rfl, rfl, fun j hj => absurd hj (Nat.not_lt_zero _), Below.refl _ _⟩
  case round =>
    obtain ⟨i, hi, rfl, rfl, hP, hB⟩ := hrel
    clear x0 x1
    have HR1 := nrow_below HR.out hB.out
    obtain ⟨⟨x0, x1⟩, _⟩ := rowN2 HR1
    clear HR1
    by_cases hlt : i < l.length
    · have hltz : (i : Int) < (l.length : Int) := by omega
      obtain ⟨b, rfl, c0, c1, c2⟩ := (H.out.below hB.out).pc hlt
      go_wp2_with fail
      refine (l10Parcel_any (Tb.pg l i) _).mono ?_
      rintro e w1 ⟨⟨b1, rfl, hb1⟩, hbl⟩
      have K1 := Lib.hid hb1
      have HB3 : Hid (Below W.heap.size W w1) := hB.out.trans (hbl.mono hB.out.size)
      clear c0 c1 c2 x0 x1
      obtain ⟨b', e', c0, c1, c2⟩ := (H.out.below HB3.out).pc hlt
      cases e'
      obtain ⟨⟨x0, x1⟩, _⟩ := rowN2 (nrow_below HR.out HB3.out)
      clear hb1 hbl
      cases b1 with
      | false =>
        go_wp2_with fail
        go_ret
        exact ⟨.ff (fun h => by have := K1.out.2 (h.2.1 _ (Tb.pg_mem hlt)); cases this), HG.out.trans (HB3.out.mono HG.out.size)⟩
      | true =>
        have hok := K1.out.1 rfl
        obtain ⟨s0, s1⟩ : 0 ≤ Tb.wat (l.take i) ∧ Tb.wat (l.take i) ≤ 60000000 := by
          have := Tb.wat_bd (l := l.take i) (Tb.all_pg (fun j hj => by
            have hj2 : j < i := by rw [List.length_take] at hj; omega
            have := hP.out j hj2
            unfold Tb.pg at this ⊢
            rw [List.getD_eq_getElem?_getD] at this ⊢
            rwa [List.getElem?_take, if_pos hj2]))
          rw [List.length_take] at this
          omega
        have HS : Hid (Tb.wat (l.take (i + 1)) = Tb.wat (l.take i) + (Tb.pg l i).w) := Tb.wat_take hlt
        have HOK := Lib.hid hok
        have o0 := hok.1.1
        have o1 := hok.1.2
        clear hok K1
        generalize Tb.wat (l.take i) = s at *
        go_wp2_with fail
        go_roundw
        case rel =>
          refine ⟨i + 1, by omega, by go_num, by rw [HS.out], fun j hj => ?_, HB3⟩
          by_cases e : j = i
          · subst e; exact HOK.out
          · exact hP.out j (by omega)
        case measure => simp [intOf]; omega
    · obtain rfl : i = l.length := by omega
      have HS : Hid (Tb.wat (l.take l.length) = Tb.wat l) := by show _ = _; rw [List.take_length]
      have hall := Lib.hid (Tb.all_pg hP.out)
      rw [HS.out]
      by_cases he : Tb.wat l = r
      · have hq : (Tb.wat l == r) = true := by simp [he]
        go_wp2_with fail
        go_ret
        exact ⟨.tt ⟨⟨by omega, by omega⟩, hall.out, he⟩, HG.out.trans (hB.out.mono HG.out.size)⟩
      · have hq : (Tb.wat l == r) = false := by simp [he]
        go_wp2_with fail
        go_ret
        exact ⟨.ff (fun h => he h.2.2), HG.out.trans (hB.out.mono HG.out.size)⟩
end Go.Proofs.YtjmnehlgefpheaaDoor
