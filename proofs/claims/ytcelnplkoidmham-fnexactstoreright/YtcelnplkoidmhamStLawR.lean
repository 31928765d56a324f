/-
  The law FnExactStoreRight.
-/
import Derived.Test.YtcelnplkoidmhamStEx2
import Derived.Test.YtcelnplkoidmhamStS1
namespace Go.Proofs.Ytcelnplkoidmham
open Go.RowKit Go.Deep

/-- What stands while a law's last region compares a store with the one that came in. -/
def LawS (w : World) (gb gx : Nat) (A X : Nat → Value) (P : World → Prop) (W : World) : Prop := W.rowIs gb 36 3 A ∧ W.rowIs gx 42 3 X ∧ P W ∧ Below w.heap.size w W
theorem LawS.below {w : World} {gb gx : Nat} {A X : Nat → Value} {P : World → Prop} (hP : ∀ W W', P W → Below W.heap.size W W' → P W') {W W' : World} (h : LawS w gb gx A X P W) (hb : Below W.heap.size W W') : LawS w gb gx A X P W' :=
  ⟨row_below h.1 hb, row_below h.2.1 hb, hP W W' h.2.2.1 hb, h.2.2.2.trans (hb.mono h.2.2.2.size)⟩

theorem LawS.stb {w : World} {gb gx B g1 g2 cn rn : Nat} {c r : Nat → St.Pr} {A X : Nat → Value} {W W' : World} (h : LawS w gb gx A X (StBlk B g1 g2 cn c rn r) W) (hb : Below W.heap.size W W') : LawS w gb gx A X (StBlk B g1 g2 cn c rn r) W' := h.below (fun _ _ hp hb => hp.below hb) hb

set_option maxRecDepth 100000 in
set_option maxHeartbeats 4000000 in
theorem stRight_law (w : World) (ca : Option Addr) (cn ck : Nat) (c : Nat → St.Pr) (h1 : PrsIn ca cn c w) (hm1 : cn ≤ 9223372036854775807) (ra : Option Addr) (rn rk : Nat) (r : Nat → St.Pr) (h2 : PrsIn ra rn r w) (hm2 : rn ≤ 9223372036854775807) (v : Int) :
    Calls Try.prog 4 #[stV ca cn ck ra rn rk v] w fun e w' => e = .returned (.bool true) ∧ Below w.heap.size w w' := by
  have H1 := Lib.hid h1
  have H2 := Lib.hid h2
  obtain ⟨W, hW⟩ : ∃ W, W = w.alloc (.cells #[.slice ca cn ck, .slice ra rn rk, .int .i64 v] 36) := ⟨_, rfl⟩
  have HB : Hid (Below w.heap.size w W) := by show Below _ _ _; rw [hW]; exact (Below.refl _ _).alloc (Nat.le_refl _) _
  have HR : Hid (W.rowIs w.heap.size 36 3 (r3 (.slice ca cn ck) (.slice ra rn rk) (.int .i64 v))) := by show World.rowIs _ _ _ _ _; rw [hW]; exact row3 w _ _ _ _
  have HW := Lib.hid hW
  have HM1 := Lib.hid hm1
  have HM2 := Lib.hid hm2
  clear hW h1 h2 hm1 hm2
  go_enter Try.func4, Try.ntmps4
  go_wp2_with fail
  rw [← HW.out]
  refine (szStore_any ca cn ck ra rn rk v _ HM1.out HM2.out).mono ?_
  rintro e w1 ⟨⟨z, rfl, hz⟩, hb1⟩
  have R1 := row_below HR.out hb1
  have HB1 : Hid (Below w.heap.size w w1) := HB.out.trans (hb1.mono HB.out.size)
  obtain ⟨⟨a0, a1, a2⟩, _⟩ := row3_cells R1
  have HR1 := Lib.hid R1
  clear R1 hb1
  rcases hz with hz | ⟨hz, hn1, hn2⟩
  · clear HR1
    go_wp2_with fail
    go_ret
    exact ⟨rfl, HB1.out⟩
  have N1 := Lib.hid hn1
  have N2 := Lib.hid hn2
  clear hn1 hn2
  go_wp2_with fail
  refine (toStore_any ca cn ck c ra rn rk r v _ (H1.out.below HB1.out) (H2.out.below HB1.out) N1.out N2.out).mono ?_
  rintro e w2 ⟨⟨g1, g2, rfl, hk⟩, hb2⟩
  have R2 := row_below HR1.out hb2
  have HB2 : Hid (Below w.heap.size w w2) := HB1.out.trans (hb2.mono HB1.out.size)
  have HK2 := Lib.hid hk
  clear a0 a1 a2 hb2 hk
  obtain ⟨⟨a0, a1, a2⟩, _⟩ := row3_cells R2
  have HR2 := Lib.hid R2
  clear R2
  go_wp2_with fail
  refine (sRight_any (some ⟨g1, 0, none⟩) cn cn c (some ⟨g2, 0, none⟩) rn rn r v _ HK2.out.at_).mono ?_
  rintro e w3 ⟨⟨b1, rfl, hb1⟩, hG⟩
  have R3 := row_below HR2.out hG.bel
  have HB3 : Hid (Below w.heap.size w w3) := HB2.out.trans (hG.bel.mono HB2.out.size)
  have KB1 := Lib.hid hb1
  clear a0 a1 a2 hG hb1
  obtain ⟨⟨a0, a1, a2⟩, _⟩ := row3_cells R3
  have HR3 := Lib.hid R3
  clear R3
  go_wp2_with fail
  refine (toStore_any ca cn ck c ra rn rk r v _ (H1.out.below HB3.out) (H2.out.below HB3.out) N1.out N2.out).mono ?_
  rintro e w4 ⟨⟨g3, g4, rfl, hk⟩, hb4⟩
  obtain ⟨W4, hW4⟩ : ∃ W4, W4 = w4.alloc (.cells #[.slice (some ⟨g3, 0, none⟩) cn cn, .slice (some ⟨g4, 0, none⟩) rn rn, .int .i64 v] 42) := ⟨_, rfl⟩
  have hb4' : Below w4.heap.size w4 W4 := by rw [hW4]; exact (Below.refl _ _).alloc (Nat.le_refl _) _
  have R4 := row_below (row_below HR3.out hb4) hb4'
  have X4 : W4.rowIs w4.heap.size 42 3 (r3 (.slice (some ⟨g3, 0, none⟩) cn cn) (.slice (some ⟨g4, 0, none⟩) rn rn) (.int .i64 v)) := by rw [hW4]; exact row3 w4 _ _ _ _
  have HB4 : Hid (Below w.heap.size w W4) := (HB3.out.trans (hb4.mono HB3.out.size)).trans (hb4'.mono (HB3.out.trans (hb4.mono HB3.out.size)).size)
  have HK4 := Lib.hid (hk.below hb4')
  have HW4 := Lib.hid hW4
  have HR4 := Lib.hid R4
  have HX4 := Lib.hid X4
  clear a0 a1 a2 hk hb4 hb4' hW4 R4 X4
  go_wp2_with fail
  rw [← HW4.out]
  refine (implSRight_any (some ⟨g3, 0, none⟩) cn cn c (some ⟨g4, 0, none⟩) rn rn r v _ HK4.out.at_).mono ?_
  rintro e w5 ⟨⟨b2, rfl, hb2⟩, hG⟩
  obtain rfl : b1 = b2 := by
    have h1 := KB1.out
    cases b1 <;> cases b2 <;> simp_all
  have HS : Hid (LawS w w.heap.size w4.heap.size (r3 (.slice ca cn ck) (.slice ra rn rk) (.int .i64 v)) (r3 (.slice (some ⟨g3, 0, none⟩) cn cn) (.slice (some ⟨g4, 0, none⟩) rn rn) (.int .i64 v)) (StBlk w3.heap.size g3 g4 cn c rn r) w5) :=
    ⟨row_below HR4.out hG.bel, row_below HX4.out hG.bel, HK4.out.below hG.bel, HB4.out.trans (hG.bel.mono HB4.out.size)⟩
  clear hG hb2
  go_wp2_with fail
  refine wp_region_held_drew (S := LawS w w.heap.size w4.heap.size (r3 (.slice ca cn ck) (.slice ra rn rk) (.int .i64 v)) (r3 (.slice (some ⟨g3, 0, none⟩) cn cn) (.slice (some ⟨g4, 0, none⟩) rn rn) (.int .i64 v)) (StBlk w3.heap.size g3 g4 cn c rn r)) (by kernel_rfl) (LawS.stb HS.out (Below.refl _ _).drew) (fun hHeld => ?_)
  clear HS
  refine take_do (i := 0) (v := (stV (some ⟨g3, 0, none⟩) cn cn (some ⟨g4, 0, none⟩) rn rn v)) rfl (by kernel_rfl) (by kernel_rfl) (by kernel_rfl) (fun _ _ _ h => h) (by rfl) ?_ (by assumption) ?_
  · intro w hSw
    obtain ⟨⟨a0, a1, a2⟩, _⟩ := row3_cells hSw.1; obtain ⟨⟨x0, x1, x2⟩, _⟩ := row3_cells hSw.2.1
    go_simp
  simp only [Act.put, List.setIfInBounds_toArray, List.set_cons_zero, List.set_cons_succ]
  refine take_do (i := 1) (v := (stV ca cn ck ra rn rk v)) rfl (by kernel_rfl) (by kernel_rfl) (by kernel_rfl) (fun _ _ _ h => h) (by rfl) ?_ (by assumption) ?_
  · intro w hSw
    obtain ⟨⟨a0, a1, a2⟩, _⟩ := row3_cells hSw.1; obtain ⟨⟨x0, x1, x2⟩, _⟩ := row3_cells hSw.2.1
    go_simp
  simp only [Act.put, List.setIfInBounds_toArray, List.set_cons_zero, List.set_cons_succ]
  refine take_call (i := 2) rfl (by kernel_rfl) (fun K2 hK => ?_)
  go_simp
  refine (toStore_any ca cn ck c ra rn rk r v _ (H1.out.below hHeld.2.2.2) (H2.out.below hHeld.2.2.2) N1.out N2.out).mono ?_
  rintro e w6 ⟨⟨g5, g6, rfl, hk6⟩, hb6⟩
  have HK6 := Lib.hid hk6
  go_wp2_with fail
  refine hK.out _ _ (LawS.stb hHeld hb6) (fun hHeld2 => ?_)
  clear hK hHeld hb6 hk6
  refine take_call (i := 3) rfl (by kernel_rfl) (fun K2 hK => ?_)
  go_simp
  refine (eqStore_same _ _ _ _ cn cn cn rn rn rn c r v _ hHeld2.2.2.1.at_ HK6.out.at_ N1.out N2.out).mono ?_
  rintro e w7 ⟨rfl, hb7⟩
  go_wp2_with fail
  refine hK.out _ _ (LawS.stb hHeld2 hb7) (fun hHeld => ?_)
  clear hK hHeld2 hb7
  refine take_do (i := 4) (v := (.bool false)) rfl (by kernel_rfl) (by kernel_rfl) (by kernel_rfl) (fun _ _ _ h => h) (by rfl) ?_ (by assumption) ?_
  · intro w hSw
    obtain ⟨⟨a0, a1, a2⟩, _⟩ := row3_cells hSw.1; obtain ⟨⟨x0, x1, x2⟩, _⟩ := row3_cells hSw.2.1
    go_simp
  simp only [Act.put, List.setIfInBounds_toArray, List.set_cons_zero, List.set_cons_succ]
  refine wpAnyH_done (by kernel_rfl) ?_ _
  have HBE := Lib.hid hHeld.2.2.2
  clear hHeld
  go_wp2_with fail
  go_ret
  exact ⟨rfl, HBE.out⟩
end Go.Proofs.Ytcelnplkoidmham
