/-
  The law FnExactProgCode.
-/
import Derived.Test.YtgkdnpnnmmpnmaaFaCy
import Derived.Test.YtgkdnpnnmmpnmaaCyPj
import Derived.Test.YtgkdnpnnmmpnmaaPgEx
import Derived.Test.YtgkdnpnnmmpnmaaPgIn
namespace Go.Proofs.Ytgkdnpnnmmpnmaa
open Go.RowKit Go.Deep

set_option maxRecDepth 100000 in
set_option maxHeartbeats 16000000 in
theorem progCode_law (w : World) (n : Pg.Prog) (la : Option Addr) (lk : Nat) (fa : Option Addr) (fk : Nat) (wa : Option Addr) (wk : Nat) (hi0 : PgIn n la fa wa w) (hl0 : PgLens n) :
    Calls Try.prog 4 #[pgV n la lk fa fk wa wk] w fun e w' => e = .returned (.bool true) ∧ Below w.heap.size w w' := by
  have HI0 := Lib.hid hi0
  obtain ⟨W, hW⟩ : ∃ W, W = (w.alloc (.cells (#[.slice la n.bn lk, .slice fa n.on fk, .slice wa n.nn wk]) 26)) := ⟨_, rfl⟩
  have hOLD : Below w.heap.size w W := by rw [hW]; exact (nbel_alloc _ _)
  have hR0 : W.rowIs w.heap.size 26 3 (rowN (pgL n la lk fa fk wa wk)) := by rw [hW]; exact rowN_alloc w (pgL n la lk fa fk wa wk) _
  have R0 := Lib.hid (fact_row (lo := w.heap.size) hR0 (Nat.le_refl _))
  have OLD := Lib.hid hOLD
  have HW := Lib.hid hW
  clear hW hOLD hi0 hR0
  go_enter Try.func4, Try.ntmps4
  obtain ⟨⟨x0, x1, x2⟩, _⟩ := rowN3 R0.out.p
  rw [HW.out] at x0 x1 x2
  go_wp2_with fail
  rw [← HW.out]
  clear HW
  clear x0 x1 x2
  refine (szProg_any n la lk fa fk wa wk _ (HI0.out.below OLD.out) hl0).mono ?_
  rintro e w1 ⟨⟨z, rfl, hz⟩, hb⟩
  replace OLD := Lib.hid (OLD.out.trans (hb.mono OLD.out.size))
  replace R0 := Lib.hid (R0.out.below hb)
  clear hb
  rcases hz with hz | ⟨hz, hs⟩
  · go_wp2_with fail
    go_ret
    exact ⟨rfl, OLD.out⟩
  have HS0 := Lib.hid hs
  obtain ⟨LL1, rfl⟩ : ∃ L : Nat, z = (L : Int) := ⟨z.toNat, by omega⟩
  have hLL1 : LL1 ≤ 1048576 := by omega
  have hzz1 : ¬ (LL1 : Int) < 0 := by omega
  clear hs hz
  obtain ⟨xx, hX⟩ : ∃ xx, xx = (Pc.code n).length := ⟨_, rfl⟩
  have HX := Lib.hid hX
  obtain ⟨XF, hF⟩ : ∃ XF, XF = Pc.fl (Pc.code n) := ⟨_, rfl⟩
  have HF := Lib.hid hF
  have HSX : Hid (xx ≤ 1048576) := by show xx ≤ 1048576; rw [hX]; exact (Nat.le_trans (Pc.code_len n) (by decide))
  clear hX hF
  have QQ : Hid (w.heap.size ≤ w1.heap.size ∧ W.heap.size ≤ w1.heap.size) := ⟨OLD.out.size, R0.out.le.2⟩
  obtain ⟨⟨x0, x1, x2⟩, _⟩ := rowN3 R0.out.p
  go_wp2_with fail
  clear x0 x1 x2
  refine (toProg_any n la lk fa fk wa wk _ (HI0.out.below OLD.out) HS0.out).mono ?_
  rintro e w2 ⟨⟨glt1, gft1, gwt1, rfl, hk⟩, hb⟩
  have KT := Lib.hid hk
  have SZ0 := Lib.hid hb.size
  replace OLD := Lib.hid (OLD.out.trans (hb.mono OLD.out.size))
  replace R0 := Lib.hid (R0.out.below hb)
  clear hb
  clear hk
  go_wp2_with fail
  refine (specCode_any' n _ _ _ _ _ _ _ KT.out.at_ HS0.out).mono ?_
  rintro e w3 ⟨hE, hb⟩
  rw [← HX.out, ← HF.out] at hE
  obtain ⟨a5, k5, rfl, hO⟩ := hE
  have FS := Lib.hid (fact_cyo hO SZ0.out (Nat.le_trans SZ0.out hb.size))
  clear hO KT
  clear SZ0
  replace OLD := Lib.hid (OLD.out.trans (hb.mono OLD.out.size))
  replace R0 := Lib.hid (R0.out.below hb)
  clear hb
  obtain ⟨⟨x0, x1, x2⟩, _⟩ := rowN3 R0.out.p
  go_wp2_with fail
  clear x0 x1 x2
  refine (toProg_any n la lk fa fk wa wk _ (HI0.out.below OLD.out) HS0.out).mono ?_
  rintro e w4 ⟨⟨glc0, gfc0, gwc0, rfl, hk⟩, hb⟩
  obtain ⟨Y0, hZ⟩ : ∃ Z, Z = w4.alloc (.cells (#[.slice (some ⟨glc0, 0, none⟩) n.bn n.bn, .slice (some ⟨gfc0, 0, none⟩) n.on n.on, .slice (some ⟨gwc0, 0, none⟩) n.nn n.nn]) 34) := ⟨_, rfl⟩
  obtain ⟨p0, hs⟩ : ∃ s, s = w4.heap.size := ⟨_, rfl⟩
  have hbz : Below w3.heap.size w3 Y0 := hb.trans (by rw [hZ]; exact (nbel_alloc _ _).mono hb.size)
  have hr : Y0.rowIs p0 34 3 (rowN (pgL n (some ⟨glc0, 0, none⟩) n.bn (some ⟨gfc0, 0, none⟩) n.on (some ⟨gwc0, 0, none⟩) n.nn)) := by rw [hZ, hs]; exact rowN_alloc w4 (pgL n (some ⟨glc0, 0, none⟩) n.bn (some ⟨gfc0, 0, none⟩) n.on (some ⟨gwc0, 0, none⟩) n.nn) _
  have hk := hk.below (nbel_alloc w4 (.cells (#[.slice (some ⟨glc0, 0, none⟩) n.bn n.bn, .slice (some ⟨gfc0, 0, none⟩) n.on n.on, .slice (some ⟨gwc0, 0, none⟩) n.nn n.nn]) 34))
  rw [← hZ] at hk
  have hls : w3.heap.size ≤ p0 := by rw [hs]; exact hb.size
  have X0 := Lib.hid (fact_pg hr hk hls)
  have RX0 : Hid ((w3.heap.size ≤ glc0 ∧ glc0 < Y0.heap.size) ∧ (w3.heap.size ≤ gfc0 ∧ gfc0 < Y0.heap.size) ∧ (w3.heap.size ≤ gwc0 ∧ gwc0 < Y0.heap.size)) := ⟨⟨hk.lo.1, hk.l.lt⟩, ⟨hk.lo.2.1, hk.f.lt⟩, ⟨hk.lo.2.2, hk.w.lt⟩⟩
  have HZ := Lib.hid hZ
  have HSS := Lib.hid hs
  clear hZ hs hr hk hls hb
  replace OLD := Lib.hid (OLD.out.trans (hbz.mono OLD.out.size))
  replace R0 := Lib.hid (R0.out.below hbz)
  replace FS := Lib.hid (FS.out.below hbz)
  clear hbz
  have QX0 := Lib.hid X0.out.le.1
  obtain ⟨⟨x0, x1, x2⟩, _⟩ := rowN3 X0.out.p.1
  rw [HZ.out] at x0 x1 x2
  rw [HSS.out] at x0 x1 x2
  go_wp2_with fail
  rw [← HZ.out, ← HSS.out]
  clear HZ HSS
  clear x0 x1 x2
  refine (implCode_any' n _ _ _ _ _ _ _ (X0.out.p.2).at_ HS0.out).mono ?_
  rintro e w5 ⟨hE, hb⟩
  rw [← HX.out, ← HF.out] at hE
  obtain ⟨a6, k6, rfl, hO⟩ := hE
  have GA := Lib.hid (fact_cyo hO (Nat.le_refl _) hb.size)
  clear hO
  replace OLD := Lib.hid (OLD.out.trans (hb.mono OLD.out.size))
  replace R0 := Lib.hid (R0.out.below hb)
  replace FS := Lib.hid (FS.out.below hb)
  replace X0 := Lib.hid (X0.out.below hb)
  clear hb
  go_wp2_with fail
  refine (neqOpS_same _ _ xx _ _ XF _ GA.out.p.at_ FS.out.p.at_ HSX.out).mono ?_
  rintro e w6 ⟨rfl, hb⟩
  replace OLD := Lib.hid (OLD.out.trans (hb.mono OLD.out.size))
  replace R0 := Lib.hid (R0.out.below hb)
  replace FS := Lib.hid (FS.out.below hb)
  replace X0 := Lib.hid (X0.out.below hb)
  replace GA := Lib.hid (GA.out.below hb)
  clear hb
  go_wp2_with fail
  refine wp_region_held_drew (S := fun V => Below w6.heap.size w6 V) (by kernel_rfl) (Below.refl _ _).drew (fun hHeld => ?_)
  obtain ⟨De0, hD⟩ : ∃ Z, Z = w6.drew := ⟨_, rfl⟩
  rw [← hD] at hHeld ⊢
  clear hD
  refine take_do (i := 0) (v := (pgV n (some ⟨glc0, 0, none⟩) n.bn (some ⟨gfc0, 0, none⟩) n.on (some ⟨gwc0, 0, none⟩) n.nn)) rfl (by kernel_rfl) (by kernel_rfl) (by kernel_rfl) (fun _ _ _ h => h) (by rfl) ?_ (by assumption) ?_
  · intro w hSw
    obtain ⟨⟨a0, a1, a2⟩, _⟩ := rowN3 (nrow_below X0.out.p.1 hSw)
    go_simp
  simp only [Act.put, List.setIfInBounds_toArray, List.set_cons_zero, List.set_cons_succ]
  refine take_do (i := 1) (v := (pgV n la lk fa fk wa wk)) rfl (by kernel_rfl) (by kernel_rfl) (by kernel_rfl) (fun _ _ _ h => h) (by rfl) ?_ (by assumption) ?_
  · intro w hSw
    obtain ⟨⟨a0, a1, a2⟩, _⟩ := rowN3 (nrow_below R0.out.p hSw)
    go_simp
  simp only [Act.put, List.setIfInBounds_toArray, List.set_cons_zero, List.set_cons_succ]
  refine take_call (i := 2) rfl (by kernel_rfl) (fun K2 hK => ?_)
  go_simp
  refine (toProg_any n la lk fa fk wa wk _ (HI0.out.below (OLD.out.trans (hHeld.mono OLD.out.size))) HS0.out).mono ?_
  rintro e w7 ⟨⟨gle0, gfe0, gwe0, rfl, hk⟩, hb⟩
  have KT := Lib.hid hk
  clear hk
  go_wp2_with fail
  refine hK.out _ _ (hHeld.trans (hb.mono hHeld.size)) (fun hHeld2 => ?_)
  clear hK hHeld hb
  refine take_call (i := 3) rfl (by kernel_rfl) (fun K2 hK => ?_)
  go_simp
  refine (eqProg_same n _ _ _ _ _ _ _ _ _ _ _ _ _ ((X0.out.below hHeld2).p.2).at_ KT.out.at_ HS0.out).mono ?_
  rintro e w8 ⟨rfl, hb⟩
  go_wp2_with fail
  refine hK.out _ _ (hHeld2.trans (hb.mono hHeld2.size)) (fun hHeld => ?_)
  clear hK hHeld2 hb KT
  refine take_do (i := 4) (v := (.bool false)) rfl (by kernel_rfl) (by kernel_rfl) (by kernel_rfl) (fun _ _ _ h => h) (by rfl) ?_ (by assumption) ?_
  · intro w hSw
    go_simp
  simp only [Act.put, List.setIfInBounds_toArray, List.set_cons_zero, List.set_cons_succ]
  refine wpAnyH_done (by kernel_rfl) ?_ _
  replace OLD := Lib.hid (OLD.out.trans (hHeld.mono OLD.out.size))
  replace R0 := Lib.hid (R0.out.below hHeld)
  replace FS := Lib.hid (FS.out.below hHeld)
  replace X0 := Lib.hid (X0.out.below hHeld)
  replace GA := Lib.hid (GA.out.below hHeld)
  clear hHeld
  obtain ⟨⟨x0, x1, x2⟩, _⟩ := rowN3 X0.out.p.1
  go_wp2_with fail
  clear x0 x1 x2
  refine (markProg_any n _ glc0 gfc0 gwc0 n.bn n.on n.nn _ (X0.out.p.2) HS0.out).mono ?_
  rintro e w9 ⟨⟨M0, rfl, hM0⟩, ho⟩
  have hRG : Rng w3.heap.size Y0.heap.size w8 w9 := ⟨ho.os, ho.tape, ho.output, ho.size, fun k hk hn => ho.block k hk (fun e => hn (by subst e; exact RX0.out.1)) (fun e => hn (by subst e; exact RX0.out.2.1)) (fun e => hn (by subst e; exact RX0.out.2.2))⟩
  clear ho
  have q0 := OLD.out.size
  have q1 := R0.out.le
  have q2 := FS.out.le
  have q3 := X0.out.le
  have q4 := GA.out.le
  have qq := QQ.out
  have rQX0 := QX0.out
  replace OLD := Lib.hid (hRG.old OLD.out (by omega) (by omega))
  replace R0 := Lib.hid (R0.out.out hRG (by omega))
  replace FS := Lib.hid (FS.out.out hRG (by omega))
  replace GA := Lib.hid (GA.out.out hRG (by omega))
  clear hRG q0 qq X0 RX0 q1 q2 q3 q4 rQX0
  have hK00 : ¬ (M0 : Int) < 0 := mark_pos _
  go_wp2_with fail
  refine (neqOpS_same _ _ xx _ _ XF _ GA.out.p.at_ FS.out.p.at_ HSX.out).mono ?_
  rintro e w10 ⟨rfl, hb⟩
  replace OLD := Lib.hid (OLD.out.trans (hb.mono OLD.out.size))
  replace R0 := Lib.hid (R0.out.below hb)
  replace FS := Lib.hid (FS.out.below hb)
  replace GA := Lib.hid (GA.out.below hb)
  clear hb
  go_wp2_with fail
  refine (markOps_any (k := 1) _ GA.out.p HSX.out (by omega)).mono ?_
  rintro e w11 ⟨rfl, hm, ho⟩
  have hRG : Rng Y0.heap.size w10.heap.size w10 w11 := rng_a ho (fun y j hy e => by simp at hy; subst hy; exact (GA.out.p).lt e)
  clear ho
  have q0 := OLD.out.size
  have q1 := R0.out.le
  have q2 := FS.out.le
  have q3 := GA.out.le
  have qq := QQ.out
  have rQX0 := QX0.out
  replace OLD := Lib.hid (hRG.old OLD.out (by omega) (by omega))
  replace R0 := Lib.hid (R0.out.out hRG (by omega))
  replace FS := Lib.hid (FS.out.out hRG (by omega))
  replace GA := Lib.hid (fact_cyo hm (Nat.le_refl _) (Nat.le_trans q3.1 (Nat.le_trans q3.2 hRG.size)))
  clear hm hRG qq q0 q1 q2 q3 rQX0
  obtain ⟨QN, hQ⟩ : ∃ Q : Nat, Q = 1 + xx * 3 := ⟨_, rfl⟩
  have HQ : Hid (1 + xx * 3 = QN) := hQ.symm
  rw [← hQ]
  have hQ0 : ¬ (QN : Int) < 0 := mark_pos _
  have hQQ : ((QN : Int) != (QN : Int)) = false := by simp
  clear hQ
  go_wp2_with fail
  refine (heldOps_any (k := 1) _ GA.out.p HSX.out (by omega)).mono ?_
  rintro e w12 ⟨rfl, hw⟩
  rw [HQ.out, hw]
  clear hw w12
  obtain ⟨⟨x0, x1, x2⟩, _⟩ := rowN3 R0.out.p
  go_wp2_with fail
  clear x0 x1 x2
  refine (toProg_any n la lk fa fk wa wk _ (HI0.out.below OLD.out) HS0.out).mono ?_
  rintro e w13 ⟨⟨glt2, gft2, gwt2, rfl, hk⟩, hb⟩
  have KT := Lib.hid hk
  have SZ0 := Lib.hid hb.size
  replace OLD := Lib.hid (OLD.out.trans (hb.mono OLD.out.size))
  replace R0 := Lib.hid (R0.out.below hb)
  replace FS := Lib.hid (FS.out.below hb)
  replace GA := Lib.hid (GA.out.below hb)
  clear hb
  clear hk
  go_wp2_with fail
  refine (implCode_any' n _ _ _ _ _ _ _ KT.out.at_ HS0.out).mono ?_
  rintro e w14 ⟨hE, hb⟩
  rw [← HX.out, ← HF.out] at hE
  obtain ⟨a9, k9, rfl, hO⟩ := hE
  have GB := Lib.hid (fact_cyo hO SZ0.out (Nat.le_trans SZ0.out hb.size))
  clear hO KT
  clear SZ0
  replace OLD := Lib.hid (OLD.out.trans (hb.mono OLD.out.size))
  replace R0 := Lib.hid (R0.out.below hb)
  replace FS := Lib.hid (FS.out.below hb)
  replace GA := Lib.hid (GA.out.below hb)
  clear hb
  go_wp2_with fail
  refine (neqOpS_same _ _ xx _ _ XF _ GB.out.p.at_ FS.out.p.at_ HSX.out).mono ?_
  rintro e w15 ⟨rfl, hb⟩
  replace OLD := Lib.hid (OLD.out.trans (hb.mono OLD.out.size))
  replace R0 := Lib.hid (R0.out.below hb)
  replace FS := Lib.hid (FS.out.below hb)
  replace GA := Lib.hid (GA.out.below hb)
  replace GB := Lib.hid (GB.out.below hb)
  clear hb
  clear GB
  go_wp2_with fail
  refine (heldOps_any (k := 1) _ GA.out.p HSX.out (by omega)).mono ?_
  rintro e w16 ⟨rfl, hw⟩
  rw [HQ.out, hw]
  clear hw w16
  go_wp2_with fail
  go_ret
  exact ⟨rfl, OLD.out⟩
end Go.Proofs.Ytgkdnpnnmmpnmaa
