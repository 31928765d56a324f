/-
  The law FnExactMainsRight.
-/
import Derived.Test.YtngofpjjiadegaaMnEx3
import Derived.Test.YtngofpjjiadegaaMnS1
import Derived.Test.YtngofpjjiadegaaMnIn
namespace Go.Proofs.Ytngofpjjiadegaa
open Go.RowKit Go.Deep

/-- What stands in a law over a net: its own block, the block of the net that was handed to the program, its lists, the old memory, and more. -/
structure ML (w : World) (m : Mn.Mains) (pa : Option Addr) (pk : Nat) (la : Option Addr) (lk : Nat) (wa : Option Addr) (wk : Nat) (X B E gp gl : Nat) (hh : Nat → Nat) (gw : Nat) (P : World → Prop) (W : World) : Prop where
  ra : W.rowIs w.heap.size 26 5 (rowN (mnL m pa pk la lk wa wk))
  rx : W.rowIs X 31 5 (rowN (mnL m (some ⟨gp, 0, none⟩) m.pn (some ⟨gl, 0, none⟩) m.ln (some ⟨gw, 0, none⟩) m.wn))
  kx : MnBlk m B E gp gl hh gw W
  old : Below w.heap.size w W
  p : P W
/-- It lasts. -/
def Lasts (P : World → Prop) : Prop := ∀ W W', Below W.heap.size W W' → P W → P W'
theorem ML.below {w : World} {m : Mn.Mains} {pa : Option Addr} {pk : Nat} {la : Option Addr} {lk : Nat} {wa : Option Addr} {wk : Nat} {X B E gp gl : Nat} {hh : Nat → Nat} {gw : Nat} {P : World → Prop} {W W' : World} (hP : Lasts P) (h : ML w m pa pk la lk wa wk X B E gp gl hh gw P W) (hb : Below W.heap.size W W') : ML w m pa pk la lk wa wk X B E gp gl hh gw P W' :=
  ⟨nrow_below h.ra hb, nrow_below h.rx hb, h.kx.below hb, h.old.trans (hb.mono h.old.size), hP _ _ hb h.p⟩
theorem lasts_true : Lasts (fun _ => True) := fun _ _ _ _ => trivial
set_option maxRecDepth 100000 in
set_option maxHeartbeats 4000000 in
theorem mainsRight_law (w : World) (m : Mn.Mains) (pa : Option Addr) (pk : Nat) (la : Option Addr) (lk : Nat) (wa : Option Addr) (wk : Nat) (h : MnIn m pa la wa w) (hl : MnLens m) :
    Calls Try.prog 3 #[mnV m pa pk la lk wa wk] w fun e w' => e = .returned (.bool true) ∧ Below w.heap.size w w' := by
  have H := Lib.hid h
  have RW := Lib.hid (rowN_alloc w (mnL m pa pk la lk wa wk) 26)
  obtain ⟨W, hW⟩ : ∃ W, W = w.alloc (.cells #[.int .i64 m.nodes, .int .i64 m.head, .slice pa m.pn pk, .slice la m.ln lk, .slice wa m.wn wk] 26) := ⟨_, rfl⟩
  have R0 : Hid (W.rowIs w.heap.size 26 5 (rowN (mnL m pa pk la lk wa wk))) := by rw [hW]; exact rowN_alloc w _ _
  have B0 : Hid (Below w.heap.size w W) := by rw [hW]; exact nbel_alloc _ _
  have HW := Lib.hid hW
  clear h hW RW
  go_enter Try.func3, Try.ntmps3
  go_wp2_with fail
  rw [← HW.out]
  refine (szMains_any m pa pk la lk wa wk _ (H.out.below B0.out) hl).mono ?_
  rintro e w1 ⟨⟨z, rfl, hz⟩, hb⟩
  have R1 := Lib.hid (nrow_below R0.out hb)
  have B1 : Hid (Below w.heap.size w w1) := B0.out.trans (hb.mono B0.out.size)
  clear hb R0 B0
  rcases hz with hz | ⟨hz, hs⟩
  · go_wp2_with fail
    go_ret
    exact ⟨rfl, B1.out⟩
  have HS := Lib.hid hs
  have hz0 : ¬ z < 0 := by omega
  clear hs hz
  obtain ⟨⟨r0, r1, r2, r3, r4⟩, _⟩ := rowN5 R1.out
  go_wp2_with fail
  refine (toMains_any m pa pk la lk wa wk _ (H.out.below B1.out) HS.out).mono ?_
  rintro e w2 ⟨⟨gp, gl, hh, gw, rfl, hk⟩, hb⟩
  have R2 := Lib.hid (nrow_below R1.out hb)
  have B2 : Hid (Below w.heap.size w w2) := B1.out.trans (hb.mono B1.out.size)
  have K2 := Lib.hid hk
  clear hb hk R1 B1 r0 r1 r2 r3 r4
  obtain ⟨⟨r0, r1, r2, r3, r4⟩, _⟩ := rowN5 R2.out
  go_wp2_with fail
  refine (specMains_any m _ _ _ _ _ _ _ K2.out.at_ HS.out).mono ?_
  rintro e w3 ⟨⟨b1, rfl, hb1⟩, hb⟩
  have R3 := Lib.hid (nrow_below R2.out hb)
  have B3 : Hid (Below w.heap.size w w3) := B2.out.trans (hb.mono B2.out.size)
  have E1 := Lib.hid hb1
  clear hb hb1 R2 B2 K2 r0 r1 r2 r3 r4
  obtain ⟨⟨r0, r1, r2, r3, r4⟩, _⟩ := rowN5 R3.out
  go_wp2_with fail
  refine (toMains_any m pa pk la lk wa wk _ (H.out.below B3.out) HS.out).mono ?_
  rintro e w4 ⟨⟨gp2, gl2, hh2, gw2, rfl, hk⟩, hb⟩
  have R4 := Lib.hid (nrow_below R3.out hb)
  have B4 : Hid (Below w.heap.size w w4) := B3.out.trans (hb.mono B3.out.size)
  have K4 := Lib.hid hk
  clear hb hk R3 B3 r0 r1 r2 r3 r4
  obtain ⟨W4, hW4⟩ : ∃ W4, W4 = w4.alloc (.cells #[.int .i64 m.nodes, .int .i64 m.head, .slice (some ⟨gp2, 0, none⟩) m.pn m.pn, .slice (some ⟨gl2, 0, none⟩) m.ln m.ln, .slice (some ⟨gw2, 0, none⟩) m.wn m.wn] 31) := ⟨_, rfl⟩
  have Q4 : Hid (W4.rowIs w4.heap.size 31 5 (rowN (mnL m (some ⟨gp2, 0, none⟩) m.pn (some ⟨gl2, 0, none⟩) m.ln (some ⟨gw2, 0, none⟩) m.wn))) := by rw [hW4]; exact rowN_alloc w4 _ _
  have R5 : Hid (W4.rowIs w.heap.size 26 5 (rowN (mnL m pa pk la lk wa wk))) := by rw [hW4]; exact nrow_below R4.out (nbel_alloc _ _)
  have B5 : Hid (Below w.heap.size w W4) := by rw [hW4]; exact B4.out.alloc B4.out.size _
  have K5 : Hid (MnBlk m w3.heap.size w4.heap.size gp2 gl2 hh2 gw2 W4) := by rw [hW4]; exact K4.out.below (nbel_alloc _ _)
  have HW4 := Lib.hid hW4
  clear hW4 R4 B4 K4
  go_wp2_with fail
  rw [← HW4.out]
  refine (implMains_any m _ _ _ _ _ _ _ K5.out.at_).mono ?_
  rintro e w5 ⟨⟨b2, rfl, hb2⟩, hb⟩
  obtain rfl : b2 = b1 := by
    have k1 := E1.out
    rw [Bool.eq_iff_iff]
    exact hb2.trans k1.symm
  have S := Lib.hid (ML.below lasts_true (P := fun _ => True) ⟨R5.out, Q4.out, K5.out, B5.out, trivial⟩ hb)
  clear hb hb2 R5 B5 K5 Q4
  have hbb : (b2 != b2) = false := by simp
  go_wp2_with fail
  refine wp_region_held_drew (S := ML w m pa pk la lk wa wk w4.heap.size w3.heap.size w4.heap.size gp2 gl2 hh2 gw2 (fun _ => True)) (by kernel_rfl) (S.out.below lasts_true (Below.refl _ _).drew) (fun hHeld => ?_)
  clear S
  refine take_do (i := 0) (v := (mnV m (some ⟨gp2, 0, none⟩) m.pn (some ⟨gl2, 0, none⟩) m.ln (some ⟨gw2, 0, none⟩) m.wn)) rfl (by kernel_rfl) (by kernel_rfl) (by kernel_rfl) (fun _ _ _ h => h) (by rfl) ?_ (by assumption) ?_
  · intro w hSw
    obtain ⟨⟨a0, a1, a2, a3, a4⟩, _⟩ := rowN5 hSw.rx
    go_simp
  simp only [Act.put, List.setIfInBounds_toArray, List.set_cons_zero, List.set_cons_succ]
  refine take_do (i := 1) (v := (mnV m pa pk la lk wa wk)) rfl (by kernel_rfl) (by kernel_rfl) (by kernel_rfl) (fun _ _ _ h => h) (by rfl) ?_ (by assumption) ?_
  · intro w hSw
    obtain ⟨⟨a0, a1, a2, a3, a4⟩, _⟩ := rowN5 hSw.ra
    go_simp
  simp only [Act.put, List.setIfInBounds_toArray, List.set_cons_zero, List.set_cons_succ]
  refine take_call (i := 2) rfl (by kernel_rfl) (fun K2 hK => ?_)
  go_simp
  refine (toMains_any m pa pk la lk wa wk _ (H.out.below hHeld.old) HS.out).mono ?_
  rintro e w6 ⟨⟨gp3, gl3, hh3, gw3, rfl, hk6⟩, hb6⟩
  have HK6 := Lib.hid hk6
  go_wp2_with fail
  refine hK.out _ _ (hHeld.below lasts_true hb6) (fun hHeld2 => ?_)
  clear hK hHeld hb6 hk6
  refine take_call (i := 3) rfl (by kernel_rfl) (fun K2 hK => ?_)
  go_simp
  refine (eqMains_same m _ _ _ _ _ _ _ _ _ _ _ _ _ hHeld2.kx.at_ HK6.out.at_ HS.out).mono ?_
  rintro e w7 ⟨rfl, hb7⟩
  go_wp2_with fail
  refine hK.out _ _ (hHeld2.below lasts_true hb7) (fun hHeld => ?_)
  clear hK hHeld2 hb7
  refine take_do (i := 4) (v := (.bool false)) rfl (by kernel_rfl) (by kernel_rfl) (by kernel_rfl) (fun _ _ _ h => h) (by rfl) ?_ (by assumption) ?_
  · intro w hSw
    go_simp
  simp only [Act.put, List.setIfInBounds_toArray, List.set_cons_zero, List.set_cons_succ]
  refine wpAnyH_done (by kernel_rfl) ?_ _
  have B8 := Lib.hid hHeld.old
  clear hHeld
  go_wp2_with fail
  go_ret
  exact ⟨rfl, B8.out⟩
end Go.Proofs.Ytngofpjjiadegaa
