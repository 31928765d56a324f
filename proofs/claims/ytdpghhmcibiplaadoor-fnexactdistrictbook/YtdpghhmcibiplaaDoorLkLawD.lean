/-
  The law FnExactDistrictBook.
-/
import Derived.Test.YtdpghhmcibiplaaDoorLkD5
namespace Go.Proofs.YtdpghhmcibiplaaDoor
open Go.RowKit Go.Deep

/-- What stands in the law between its calls. -/
structure DW (w : World) (A X : List Value) (gx g1 g2 g3 : Nat) (d : Di.D) (W : World) : Prop where
  ra : W.rowIs w.heap.size 80 3 (rowN A)
  rx : W.rowIs gx 85 3 (rowN X)
  kx : DiBlk g1 g2 g3 d W
  old : Below w.heap.size w W
theorem DW.below {w : World} {A X : List Value} {gx g1 g2 g3 : Nat} {d : Di.D} {W W' : World} (h : DW w A X gx g1 g2 g3 d W) (hb : Below W.heap.size W W') : DW w A X gx g1 g2 g3 d W' :=
  ⟨nrow_below h.ra hb, nrow_below h.rx hb, h.kx.below hb, h.old.trans (hb.mono h.old.size)⟩

set_option maxRecDepth 100000 in
set_option maxHeartbeats 4000000 in
theorem district_law (w : World) (a : Option Addr) (ka : Nat) (b : Option Addr) (kb : Nat) (c : Option Addr) (kc : Nat) (d : Di.D) (h : DiIn a b c d w) (v1 : d.n ≤ 9223372036854775807) (v2 : d.m ≤ 9223372036854775807) (v3 : d.q ≤ 9223372036854775807) (hg : Et w) :
    Calls Tryd.prog 11 #[diV a d.n ka b d.m kb c d.q kc] w fun e w' => e = .returned (.bool true) ∧ Below w.heap.size w w' := by
  obtain ⟨W, hW⟩ : ∃ W, W = w.alloc (.cells #[.slice a d.n ka, .slice b d.m kb, .slice c d.q kc] 80) := ⟨_, rfl⟩
  have HB : Hid (Below w.heap.size w W) := by show Below _ _ _; rw [hW]; exact nbel_alloc _ _
  have HR : Hid (W.rowIs w.heap.size 80 3 (rowN (diL a d.n ka b d.m kb c d.q kc))) := by show World.rowIs _ _ _ _ _; rw [hW]; exact rowN_alloc w (diL a d.n ka b d.m kb c d.q kc) _
  have HW := Lib.hid hW
  have H := Lib.hid h
  have HG := Lib.hid hg
  clear hW h hg
  go_enter Tryd.func11, Tryd.ntmps11
  go_upto_region 2 with fail
  rw [← HW.out]
  clear HW
  obtain ⟨⟨r0, r1, r2⟩, _, _, _⟩ := rowN3 HR.out
  go_wp2_with fail
  refine (szDi_any a ka b kb c kc d _ v1 v2 v3).mono ?_
  rintro e w1 ⟨⟨z, rfl, hz⟩, hb⟩
  replace HR := Lib.hid (nrow_below HR.out hb)
  replace HB : Hid (Below w.heap.size w w1) := HB.out.trans (hb.mono HB.out.size)
  clear hb r0 r1 r2
  rcases hz with hz | ⟨hz, hs⟩
  · go_wp2_with fail
    go_ret
    exact ⟨rfl, HB.out⟩
  have HS := Lib.hid hs
  clear hs
  obtain ⟨⟨r0, r1, r2⟩, _, _, _⟩ := rowN3 HR.out
  go_wp2_with fail
  refine (toDi_any a ka b kb c kc d _ (H.out.below HB.out) HS.out).mono ?_
  rintro e w2 ⟨⟨p1, p2, p3, rfl, hk⟩, hb⟩
  have HK := Lib.hid hk
  replace HR := Lib.hid (nrow_below HR.out hb)
  replace HB : Hid (Below w.heap.size w w2) := HB.out.trans (hb.mono HB.out.size)
  clear hb hk r0 r1 r2
  go_wp2_with fail
  refine (sDistrict_any _ _ _ _ _ _ d _ HK.out.at_ HS.out.1 HS.out.2.1 HS.out.2.2).mono ?_
  rintro e w3 ⟨rfl, hb⟩
  replace HR := Lib.hid (nrow_below HR.out hb)
  replace HB : Hid (Below w.heap.size w w3) := HB.out.trans (hb.mono HB.out.size)
  clear hb HK
  have HIM : Hid (∀ a' k1 b' k2 c' k3 wx, DiAt a' b' c' d wx → Et wx → Calls Tryd.prog 53 #[diV a' d.n k1 b' d.m k2 c' d.q k3] wx fun e w' => e = .returned (doV (Di.lostA d) (Di.worstA d) (Di.code d)) ∧ Below wx.heap.size wx w') := fun a' k1 b' k2 c' k3 wx h1 h2 => iDistrict_any a' k1 b' k2 c' k3 d wx h1 HS.out.1 HS.out.2.1 HS.out.2.2 h2
  generalize Di.lostA d = X1 at *
  generalize Di.worstA d = X2 at *
  generalize Di.code d = X3 at *
  obtain ⟨W3, hW3⟩ : ∃ W', W' = w3.alloc (.cells #[.int .i64 X1, .int .i64 X2, .int .i64 X3] 83) := ⟨_, rfl⟩
  have HM : Hid (W3.rowIs w3.heap.size 83 3 (rowN (doL X1 X2 X3))) := by show World.rowIs _ _ _ _ _; rw [hW3]; exact rowN_alloc w3 (doL X1 X2 X3) _
  have hb : Below w3.heap.size w3 W3 := by rw [hW3]; exact nbel_alloc _ _
  replace HR := Lib.hid (nrow_below HR.out hb)
  replace HB : Hid (Below w.heap.size w W3) := HB.out.trans (hb.mono HB.out.size)
  obtain ⟨g3, hg3⟩ : ∃ g, g = w3.heap.size := ⟨_, rfl⟩
  rw [← hg3] at HM
  have HW := Lib.hid hW3
  have HGE := Lib.hid hg3
  clear hb hW3 hg3
  go_upto_region 6 with fail
  rw [← HW.out, ← HGE.out]
  clear HW HGE
  obtain ⟨⟨r0, r1, r2⟩, _, _, _⟩ := rowN3 HR.out
  go_wp2_with fail
  refine (toDi_any a ka b kb c kc d _ (H.out.below HB.out) HS.out).mono ?_
  rintro e w4 ⟨⟨e1, e2, e3, rfl, hk⟩, hb⟩
  have HK := Lib.hid hk
  replace HR := Lib.hid (nrow_below HR.out hb)
  replace HM := Lib.hid (nrow_below HM.out hb)
  replace HB : Hid (Below w.heap.size w w4) := HB.out.trans (hb.mono HB.out.size)
  clear hb hk r0 r1 r2
  obtain ⟨W4, hW4⟩ : ∃ W', W' = w4.alloc (.cells #[.slice (some ⟨e1, 0, none⟩) d.n d.n, .slice (some ⟨e2, 0, none⟩) d.m d.m, .slice (some ⟨e3, 0, none⟩) d.q d.q] 85) := ⟨_, rfl⟩
  have HX : Hid (W4.rowIs w4.heap.size 85 3 (rowN (diL (some ⟨e1, 0, none⟩) d.n d.n (some ⟨e2, 0, none⟩) d.m d.m (some ⟨e3, 0, none⟩) d.q d.q))) := by show World.rowIs _ _ _ _ _; rw [hW4]; exact rowN_alloc w4 (diL (some ⟨e1, 0, none⟩) d.n d.n (some ⟨e2, 0, none⟩) d.m d.m (some ⟨e3, 0, none⟩) d.q d.q) _
  have hb : Below w4.heap.size w4 W4 := by rw [hW4]; exact nbel_alloc _ _
  replace HR := Lib.hid (nrow_below HR.out hb)
  replace HM := Lib.hid (nrow_below HM.out hb)
  replace HK := Lib.hid (HK.out.below hb)
  replace HB : Hid (Below w.heap.size w W4) := HB.out.trans (hb.mono HB.out.size)
  obtain ⟨g4, hg4⟩ : ∃ g, g = w4.heap.size := ⟨_, rfl⟩
  rw [← hg4] at HX
  have HW := Lib.hid hW4
  have HGE := Lib.hid hg4
  clear hb hW4 hg4
  go_upto_region 7 with fail
  rw [← HW.out, ← HGE.out]
  clear HW HGE
  obtain ⟨⟨r0, r1, r2⟩, _, _, _⟩ := rowN3 HX.out
  go_wp2_with fail
  refine (HIM.out _ _ _ _ _ _ _ HK.out.at_ (HG.out.below HB.out)).mono ?_
  rintro e w5 ⟨rfl, hb⟩
  replace HR := Lib.hid (nrow_below HR.out hb)
  replace HM := Lib.hid (nrow_below HM.out hb)
  replace HX := Lib.hid (nrow_below HX.out hb)
  replace HK := Lib.hid (HK.out.below hb)
  replace HB : Hid (Below w.heap.size w w5) := HB.out.trans (hb.mono HB.out.size)
  clear hb r0 r1 r2 HIM
  obtain ⟨W5, hW5⟩ : ∃ W', W' = w5.alloc (.cells #[.int .i64 X1, .int .i64 X2, .int .i64 X3] 83) := ⟨_, rfl⟩
  have HN : Hid (W5.rowIs w5.heap.size 83 3 (rowN (doL X1 X2 X3))) := by show World.rowIs _ _ _ _ _; rw [hW5]; exact rowN_alloc w5 (doL X1 X2 X3) _
  have hb : Below w5.heap.size w5 W5 := by rw [hW5]; exact nbel_alloc _ _
  replace HR := Lib.hid (nrow_below HR.out hb)
  replace HM := Lib.hid (nrow_below HM.out hb)
  replace HX := Lib.hid (nrow_below HX.out hb)
  replace HK := Lib.hid (HK.out.below hb)
  replace HB : Hid (Below w.heap.size w W5) := HB.out.trans (hb.mono HB.out.size)
  obtain ⟨g5, hg5⟩ : ∃ g, g = w5.heap.size := ⟨_, rfl⟩
  rw [← hg5] at HN
  have HW := Lib.hid hW5
  have HGE := Lib.hid hg5
  clear hb hW5 hg5
  go_upto_region 8 with fail
  rw [← HW.out, ← HGE.out]
  clear HW HGE
  obtain ⟨⟨r0, r1, r2⟩, _, _, _⟩ := rowN3 HN.out
  obtain ⟨⟨q0, q1, q2⟩, _, _, _⟩ := rowN3 HM.out
  go_wp2_with fail
  refine (eqDo_same _ _ _ _).mono ?_
  rintro e w6 ⟨rfl, hb⟩
  have HD : Hid (DW w (diL a d.n ka b d.m kb c d.q kc) (diL (some ⟨e1, 0, none⟩) d.n d.n (some ⟨e2, 0, none⟩) d.m d.m (some ⟨e3, 0, none⟩) d.q d.q) g4 e1 e2 e3 d w6) := ⟨nrow_below HR.out hb, nrow_below HX.out hb, HK.out.below hb, HB.out.trans (hb.mono HB.out.size)⟩
  clear hb r0 r1 r2 q0 q1 q2 HN HM HX HR HK HB
  go_upto_region 10 with fail
  refine wp_region_held_drew (S := DW w (diL a d.n ka b d.m kb c d.q kc) (diL (some ⟨e1, 0, none⟩) d.n d.n (some ⟨e2, 0, none⟩) d.m d.m (some ⟨e3, 0, none⟩) d.q d.q) g4 e1 e2 e3 d) (by kernel_rfl) (HD.out.below (Below.refl _ _).drew) (fun hHeld => ?_)
  clear HD
  refine take_do (i := 0) (v := (diV (some ⟨e1, 0, none⟩) d.n d.n (some ⟨e2, 0, none⟩) d.m d.m (some ⟨e3, 0, none⟩) d.q d.q)) rfl (by kernel_rfl) (by kernel_rfl) (by kernel_rfl) (fun _ _ _ h => h) (by rfl) ?_ (by assumption) ?_
  · intro w hSw
    obtain ⟨⟨a0, a1, a2⟩, _⟩ := rowN3 hSw.rx
    go_simp
  simp only [Act.put, List.setIfInBounds_toArray, List.set_cons_zero, List.set_cons_succ]
  refine take_do (i := 1) (v := (diV a d.n ka b d.m kb c d.q kc)) rfl (by kernel_rfl) (by kernel_rfl) (by kernel_rfl) (fun _ _ _ h => h) (by rfl) ?_ (by assumption) ?_
  · intro w hSw
    obtain ⟨⟨a0, a1, a2⟩, _⟩ := rowN3 hSw.ra
    go_simp
  simp only [Act.put, List.setIfInBounds_toArray, List.set_cons_zero, List.set_cons_succ]
  refine take_call (i := 2) rfl (by kernel_rfl) (fun K2 hK => ?_)
  go_simp
  refine (toDi_any a ka b kb c kc d _ (H.out.below hHeld.old) HS.out).mono ?_
  rintro e w7 ⟨⟨f1, f2, f3, rfl, hk⟩, hb⟩
  have HK := Lib.hid hk
  go_wp2_with fail
  refine hK.out _ _ (hHeld.below hb) (fun hHeld2 => ?_)
  clear hK hHeld hb hk
  refine take_call (i := 3) rfl (by kernel_rfl) (fun K2 hK => ?_)
  go_simp
  refine (eqDi_same _ _ _ _ _ _ _ _ _ _ _ _ d _ hHeld2.kx.at_ HK.out.at_ HS.out).mono ?_
  rintro e w8 ⟨rfl, hb⟩
  go_wp2_with fail
  refine hK.out _ _ (hHeld2.below hb) (fun hHeld => ?_)
  clear hK hHeld2 hb
  refine take_do (i := 4) (v := (.bool false)) rfl (by kernel_rfl) (by kernel_rfl) (by kernel_rfl) (fun _ _ _ h => h) (by rfl) ?_ (by assumption) ?_
  · intro w hSw
    go_simp
  simp only [Act.put, List.setIfInBounds_toArray, List.set_cons_zero, List.set_cons_succ]
  refine wpAnyH_done (by kernel_rfl) ?_ _
  have B9 := Lib.hid hHeld.old
  clear hHeld
  go_wp2_with fail
  go_ret
  exact ⟨rfl, B9.out⟩
end Go.Proofs.YtdpghhmcibiplaaDoor
