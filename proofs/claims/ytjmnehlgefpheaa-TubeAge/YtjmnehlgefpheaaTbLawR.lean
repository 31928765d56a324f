/-
  The laws FnExactTubeRight and FnExactTubeAge.
-/
import Derived.Test.YtjmnehlgefpheaaTbEx
import Derived.Test.YtjmnehlgefpheaaTbI1
import Derived.Test.YtjmnehlgefpheaaTbI2
namespace Go.Proofs.Ytjmnehlgefpheaa
open Go.RowKit Go.Deep

/-- What stands while a law's last region compares a batch with the one that came in. -/
def LwT (w : World) (gb gx : Nat) (A X : Nat → Value) (P : World → Prop) (W : World) : Prop := W.rowIs gb 24 2 A ∧ W.rowIs gx 29 2 X ∧ P W ∧ Below w.heap.size w W
theorem LwT.below {w : World} {gb gx : Nat} {A X : Nat → Value} {P : World → Prop} (hP : ∀ W W', P W → Below W.heap.size W W' → P W') {W W' : World} (h : LwT w gb gx A X P W) (hb : Below W.heap.size W W') : LwT w gb gx A X P W' :=
  ⟨nrow_below h.1 hb, nrow_below h.2.1 hb, hP W W' h.2.2.1 hb, h.2.2.2.trans (hb.mono h.2.2.2.size)⟩
theorem LwT.inb {w : World} {gb gx g n : Nat} {f : Nat → Int} {A X : Nat → Value} {W W' : World} (h : LwT w gb gx A X (IsBlk 39 g (n * 3) f) W) (hb : Below W.heap.size W W') : LwT w gb gx A X (IsBlk 39 g (n * 3) f) W' := h.below (fun _ _ hp hb => hp.below hb) hb

set_option maxRecDepth 100000 in
set_option maxHeartbeats 4000000 in
theorem tRight_law (w : World) (r : Int) (a : Option Addr) (n k : Nat) (f : Nat → Int) (h1 : IsIn a (n * 3) f w) (hm1 : n ≤ 9223372036854775807) :
    Calls Try.prog 3 #[tbV r a n k] w fun e w' => e = .returned (.bool true) ∧ Below w.heap.size w w' := by
  obtain ⟨l, rfl, hl⟩ := isIn_list h1
  have H1 := Lib.hid hl
  obtain ⟨W, hW⟩ : ∃ W, W = w.alloc (.cells #[.int .i64 r, .slice a l.length k] 24) := ⟨_, rfl⟩
  have HB : Hid (Below w.heap.size w W) := by show Below _ _ _; rw [hW]; exact (Below.refl _ _).alloc (Nat.le_refl _) _
  have HR : Hid (W.rowIs w.heap.size 24 2 (rowN [(.int .i64 r), (.slice a l.length k)])) := by show World.rowIs _ _ _ _ _; rw [hW]; exact rowN_alloc w _ _
  have HW := Lib.hid hW
  have HM1 := Lib.hid hm1
  clear hW h1 hl hm1
  go_enter Try.func3, Try.ntmps3
  go_wp2_with fail
  rw [← HW.out]
  refine (szTube_any r a l.length k 1048576 _ (by omega) HM1.out).mono ?_
  rintro e w1 ⟨hz, hb1⟩
  have R1 := nrow_below HR.out hb1
  have HB1 : Hid (Below w.heap.size w w1) := HB.out.trans (hb1.mono HB.out.size)
  obtain ⟨⟨a0, a1⟩, _⟩ := rowN2 R1
  have HR1 := Lib.hid R1
  clear R1 hb1
  rcases hz with ⟨z, rfl, hz⟩ | ⟨hn1, rfl⟩
  · clear HR1
    go_wp2_with fail
    go_ret
    exact ⟨rfl, HB1.out⟩
  have hz : ¬ ((1048576 - l.length : Nat) : Int) < 0 := by omega
  have N1 := Lib.hid hn1
  clear hn1
  go_wp2_with fail
  refine (toTube_any r a l.length k (Tb.fl l) _ (H1.out.below HB1.out) N1.out).mono ?_
  rintro e w2 ⟨⟨g1, rfl, _, hk⟩, hb2⟩
  have HR2 := Lib.hid (nrow_below HR1.out hb2)
  have HB2 : Hid (Below w.heap.size w w2) := HB1.out.trans (hb2.mono HB1.out.size)
  have HK2 := Lib.hid hk
  clear a0 a1 hb2 hk
  go_wp2_with fail
  refine (sTRight_any r (some ⟨g1, 0, none⟩) l l.length _ HK2.out.at_).mono ?_
  rintro e w3 ⟨⟨b1, rfl, hb1⟩, hG⟩
  have R3 := nrow_below HR2.out hG
  have HB3 : Hid (Below w.heap.size w w3) := HB2.out.trans (hG.mono HB2.out.size)
  have KB1 := Lib.hid hb1
  clear hG hb1
  obtain ⟨⟨a0, a1⟩, _⟩ := rowN2 R3
  have HR3 := Lib.hid R3
  clear R3
  go_wp2_with fail
  refine (toTube_any r a l.length k (Tb.fl l) _ (H1.out.below HB3.out) N1.out).mono ?_
  rintro e w4 ⟨⟨g3, rfl, _, hk⟩, hb4⟩
  obtain ⟨W4, hW4⟩ : ∃ W4, W4 = w4.alloc (.cells #[.int .i64 r, .slice (some ⟨g3, 0, none⟩) l.length l.length] 29) := ⟨_, rfl⟩
  have hb4' : Below w4.heap.size w4 W4 := by rw [hW4]; exact (Below.refl _ _).alloc (Nat.le_refl _) _
  have R4 := nrow_below (nrow_below HR3.out hb4) hb4'
  have X4 : W4.rowIs w4.heap.size 29 2 (rowN [(.int .i64 r), (.slice (some ⟨g3, 0, none⟩) l.length l.length)]) := by rw [hW4]; exact rowN_alloc w4 _ _
  have HB4 : Hid (Below w.heap.size w W4) := (HB3.out.trans (hb4.mono HB3.out.size)).trans (hb4'.mono (HB3.out.trans (hb4.mono HB3.out.size)).size)
  have HK4 := Lib.hid (hk.below hb4')
  have HW4 := Lib.hid hW4
  have HR4 := Lib.hid R4
  have HX4 := Lib.hid X4
  clear a0 a1 hk hb4 hb4' hW4 R4 X4
  go_wp2_with fail
  rw [← HW4.out]
  refine (implTRight_any r (some ⟨g3, 0, none⟩) l l.length _ HK4.out.at_).mono ?_
  rintro e w5 ⟨⟨b2, rfl, hb2⟩, hG⟩
  obtain rfl : b1 = b2 := by
    have h1 := KB1.out
    cases b1 <;> cases b2 <;> simp_all
  have HS : Hid (LwT w w.heap.size w4.heap.size (rowN [(.int .i64 r), (.slice a l.length k)]) (rowN [(.int .i64 r), (.slice (some ⟨g3, 0, none⟩) l.length l.length)]) (IsBlk 39 g3 (l.length * 3) (Tb.fl l)) w5) :=
    ⟨nrow_below HR4.out hG, nrow_below HX4.out hG, HK4.out.below hG, HB4.out.trans (hG.mono HB4.out.size)⟩
  clear hG hb2
  go_wp2_with fail
  refine wp_region_held_drew (S := LwT w w.heap.size w4.heap.size (rowN [(.int .i64 r), (.slice a l.length k)]) (rowN [(.int .i64 r), (.slice (some ⟨g3, 0, none⟩) l.length l.length)]) (IsBlk 39 g3 (l.length * 3) (Tb.fl l))) (by kernel_rfl) (LwT.inb HS.out (Below.refl _ _).drew) (fun hHeld => ?_)
  clear HS
  refine take_do (i := 0) (v := (tbV r (some ⟨g3, 0, none⟩) l.length l.length)) rfl (by kernel_rfl) (by kernel_rfl) (by kernel_rfl) (fun _ _ _ h => h) (by rfl) ?_ (by assumption) ?_
  · intro w hSw
    obtain ⟨⟨a0, a1⟩, _⟩ := rowN2 hSw.1; obtain ⟨⟨x0, x1⟩, _⟩ := rowN2 hSw.2.1
    go_simp
  simp only [Act.put, List.setIfInBounds_toArray, List.set_cons_zero, List.set_cons_succ]
  refine take_do (i := 1) (v := (tbV r a l.length k)) rfl (by kernel_rfl) (by kernel_rfl) (by kernel_rfl) (fun _ _ _ h => h) (by rfl) ?_ (by assumption) ?_
  · intro w hSw
    obtain ⟨⟨a0, a1⟩, _⟩ := rowN2 hSw.1; obtain ⟨⟨x0, x1⟩, _⟩ := rowN2 hSw.2.1
    go_simp
  simp only [Act.put, List.setIfInBounds_toArray, List.set_cons_zero, List.set_cons_succ]
  refine take_call (i := 2) rfl (by kernel_rfl) (fun K2 hK => ?_)
  go_simp
  refine (toTube_any r a l.length k (Tb.fl l) _ (H1.out.below hHeld.2.2.2) N1.out).mono ?_
  rintro e w6 ⟨⟨g5, rfl, _, hk6⟩, hb6⟩
  have HK6 := Lib.hid hk6
  go_wp2_with fail
  refine hK.out _ _ (LwT.inb hHeld hb6) (fun hHeld2 => ?_)
  clear hK hHeld hb6 hk6
  refine take_call (i := 3) rfl (by kernel_rfl) (fun K2 hK => ?_)
  go_simp
  refine (eqTube_same r _ _ l.length l.length l.length (Tb.fl l) _ hHeld2.2.2.1.at_ HK6.out.at_ N1.out).mono ?_
  rintro e w7 ⟨rfl, hb7⟩
  go_wp2_with fail
  refine hK.out _ _ (LwT.inb hHeld2 hb7) (fun hHeld => ?_)
  clear hK hHeld2 hb7
  refine take_do (i := 4) (v := (.bool false)) rfl (by kernel_rfl) (by kernel_rfl) (by kernel_rfl) (fun _ _ _ h => h) (by rfl) ?_ (by assumption) ?_
  · intro w hSw
    go_simp
  simp only [Act.put, List.setIfInBounds_toArray, List.set_cons_zero, List.set_cons_succ]
  refine wpAnyH_done (by kernel_rfl) ?_ _
  have HBE := Lib.hid hHeld.2.2.2
  clear hHeld
  go_wp2_with fail
  go_ret
  exact ⟨rfl, HBE.out⟩
set_option maxRecDepth 100000 in
set_option maxHeartbeats 4000000 in
theorem tAge_law (w : World) (r : Int) (a : Option Addr) (n k : Nat) (f : Nat → Int) (h1 : IsIn a (n * 3) f w) (hm1 : n ≤ 9223372036854775807) (now : Int) :
    Calls Try.prog 5 #[tbV r a n k, .int .i64 now] w fun e w' => e = .returned (.bool true) ∧ Below w.heap.size w w' := by
  obtain ⟨l, rfl, hl⟩ := isIn_list h1
  have H1 := Lib.hid hl
  obtain ⟨W, hW⟩ : ∃ W, W = w.alloc (.cells #[.int .i64 r, .slice a l.length k] 24) := ⟨_, rfl⟩
  have HB : Hid (Below w.heap.size w W) := by show Below _ _ _; rw [hW]; exact (Below.refl _ _).alloc (Nat.le_refl _) _
  have HR : Hid (W.rowIs w.heap.size 24 2 (rowN [(.int .i64 r), (.slice a l.length k)])) := by show World.rowIs _ _ _ _ _; rw [hW]; exact rowN_alloc w _ _
  have HW := Lib.hid hW
  have HM1 := Lib.hid hm1
  clear hW h1 hl hm1
  go_enter Try.func5, Try.ntmps5
  go_wp2_with fail
  rw [← HW.out]
  refine (szTube_any r a l.length k 1048576 _ (by omega) HM1.out).mono ?_
  rintro e w1 ⟨hz, hb1⟩
  have R1 := nrow_below HR.out hb1
  have HB1 : Hid (Below w.heap.size w w1) := HB.out.trans (hb1.mono HB.out.size)
  obtain ⟨⟨a0, a1⟩, _⟩ := rowN2 R1
  have HR1 := Lib.hid R1
  clear R1 hb1
  rcases hz with ⟨z, rfl, hz⟩ | ⟨hn1, rfl⟩
  · clear HR1
    go_wp2_with fail
    go_ret
    exact ⟨rfl, HB1.out⟩
  have hz : ¬ ((1048576 - l.length : Nat) : Int) < 0 := by omega
  have N1 := Lib.hid hn1
  clear hn1
  go_wp2_with fail
  refine (toTube_any r a l.length k (Tb.fl l) _ (H1.out.below HB1.out) N1.out).mono ?_
  rintro e w2 ⟨⟨g1, rfl, _, hk⟩, hb2⟩
  have HR2 := Lib.hid (nrow_below HR1.out hb2)
  have HB2 : Hid (Below w.heap.size w w2) := HB1.out.trans (hb2.mono HB1.out.size)
  have HK2 := Lib.hid hk
  clear a0 a1 hb2 hk
  go_wp2_with fail
  refine (sTAge_any r (some ⟨g1, 0, none⟩) l l.length now _ HK2.out.at_).mono ?_
  rintro e w3 ⟨rfl, hG⟩
  have R3 := nrow_below HR2.out hG
  have HB3 : Hid (Below w.heap.size w w3) := HB2.out.trans (hG.mono HB2.out.size)
  clear hG
  obtain ⟨⟨a0, a1⟩, _⟩ := rowN2 R3
  have HR3 := Lib.hid R3
  clear R3
  go_wp2_with fail
  refine (toTube_any r a l.length k (Tb.fl l) _ (H1.out.below HB3.out) N1.out).mono ?_
  rintro e w4 ⟨⟨g3, rfl, _, hk⟩, hb4⟩
  obtain ⟨W4, hW4⟩ : ∃ W4, W4 = w4.alloc (.cells #[.int .i64 r, .slice (some ⟨g3, 0, none⟩) l.length l.length] 29) := ⟨_, rfl⟩
  have hb4' : Below w4.heap.size w4 W4 := by rw [hW4]; exact (Below.refl _ _).alloc (Nat.le_refl _) _
  have R4 := nrow_below (nrow_below HR3.out hb4) hb4'
  have X4 : W4.rowIs w4.heap.size 29 2 (rowN [(.int .i64 r), (.slice (some ⟨g3, 0, none⟩) l.length l.length)]) := by rw [hW4]; exact rowN_alloc w4 _ _
  have HB4 : Hid (Below w.heap.size w W4) := (HB3.out.trans (hb4.mono HB3.out.size)).trans (hb4'.mono (HB3.out.trans (hb4.mono HB3.out.size)).size)
  have HK4 := Lib.hid (hk.below hb4')
  have HW4 := Lib.hid hW4
  have HR4 := Lib.hid R4
  have HX4 := Lib.hid X4
  clear a0 a1 hk hb4 hb4' hW4 R4 X4
  go_wp2_with fail
  rw [← HW4.out]
  refine (implTAge_any r (some ⟨g3, 0, none⟩) l l.length now _ HK4.out.at_).mono ?_
  rintro e w5 ⟨rfl, hG⟩
  have hq : (Tb.ageOf r l now != Tb.ageOf r l now) = false := by simp
  have HS : Hid (LwT w w.heap.size w4.heap.size (rowN [(.int .i64 r), (.slice a l.length k)]) (rowN [(.int .i64 r), (.slice (some ⟨g3, 0, none⟩) l.length l.length)]) (IsBlk 39 g3 (l.length * 3) (Tb.fl l)) w5) :=
    ⟨nrow_below HR4.out hG, nrow_below HX4.out hG, HK4.out.below hG, HB4.out.trans (hG.mono HB4.out.size)⟩
  clear hG
  go_wp2_with fail
  refine wp_region_held_drew (S := LwT w w.heap.size w4.heap.size (rowN [(.int .i64 r), (.slice a l.length k)]) (rowN [(.int .i64 r), (.slice (some ⟨g3, 0, none⟩) l.length l.length)]) (IsBlk 39 g3 (l.length * 3) (Tb.fl l))) (by kernel_rfl) (LwT.inb HS.out (Below.refl _ _).drew) (fun hHeld => ?_)
  clear HS
  refine take_do (i := 0) (v := (tbV r (some ⟨g3, 0, none⟩) l.length l.length)) rfl (by kernel_rfl) (by kernel_rfl) (by kernel_rfl) (fun _ _ _ h => h) (by rfl) ?_ (by assumption) ?_
  · intro w hSw
    obtain ⟨⟨a0, a1⟩, _⟩ := rowN2 hSw.1; obtain ⟨⟨x0, x1⟩, _⟩ := rowN2 hSw.2.1
    go_simp
  simp only [Act.put, List.setIfInBounds_toArray, List.set_cons_zero, List.set_cons_succ]
  refine take_do (i := 1) (v := (tbV r a l.length k)) rfl (by kernel_rfl) (by kernel_rfl) (by kernel_rfl) (fun _ _ _ h => h) (by rfl) ?_ (by assumption) ?_
  · intro w hSw
    obtain ⟨⟨a0, a1⟩, _⟩ := rowN2 hSw.1; obtain ⟨⟨x0, x1⟩, _⟩ := rowN2 hSw.2.1
    go_simp
  simp only [Act.put, List.setIfInBounds_toArray, List.set_cons_zero, List.set_cons_succ]
  refine take_call (i := 2) rfl (by kernel_rfl) (fun K2 hK => ?_)
  go_simp
  refine (toTube_any r a l.length k (Tb.fl l) _ (H1.out.below hHeld.2.2.2) N1.out).mono ?_
  rintro e w6 ⟨⟨g5, rfl, _, hk6⟩, hb6⟩
  have HK6 := Lib.hid hk6
  go_wp2_with fail
  refine hK.out _ _ (LwT.inb hHeld hb6) (fun hHeld2 => ?_)
  clear hK hHeld hb6 hk6
  refine take_call (i := 3) rfl (by kernel_rfl) (fun K2 hK => ?_)
  go_simp
  refine (eqTube_same r _ _ l.length l.length l.length (Tb.fl l) _ hHeld2.2.2.1.at_ HK6.out.at_ N1.out).mono ?_
  rintro e w7 ⟨rfl, hb7⟩
  go_wp2_with fail
  refine hK.out _ _ (LwT.inb hHeld2 hb7) (fun hHeld => ?_)
  clear hK hHeld2 hb7
  refine take_do (i := 4) (v := (.bool false)) rfl (by kernel_rfl) (by kernel_rfl) (by kernel_rfl) (fun _ _ _ h => h) (by rfl) ?_ (by assumption) ?_
  · intro w hSw
    go_simp
  simp only [Act.put, List.setIfInBounds_toArray, List.set_cons_zero, List.set_cons_succ]
  refine wpAnyH_done (by kernel_rfl) ?_ _
  have HBE := Lib.hid hHeld.2.2.2
  clear hHeld
  go_wp2_with fail
  go_ret
  exact ⟨rfl, HBE.out⟩
end Go.Proofs.Ytjmnehlgefpheaa
