/-
  A round of mains: the program's walk, its second part.
-/
import Derived.Test.YtfgmalnkpgloiaaGreatDoorMnP7
namespace Go.Proofs.YtfgmalnkpgloiaaGreatDoor
open Go.RowKit Go.Deep
set_option maxRecDepth 100000 in
set_option maxHeartbeats 1000000 in
theorem roundMains_any (m : Mn.Mains) (pa : Option Addr) (pk : Nat) (la : Option Addr) (lk : Nat) (wa : Option Addr) (wk : Nat) (xb xn xc : Nat) (f : Nat → Int) (w : World) (h : MnAt m pa la wa w) (hx : ∀ i, i < xn → w.cell? ⟨xb, i, none⟩ = some (.int .i64 (f i))) (hxn : xn ≤ 1048576) :
    Calls Tryz.prog 37 #[mnV m pa pk la lk wa wk, .slice (some ⟨xb, 0, none⟩) xn xc] w fun e w' => RmEnd m xn f w.heap.size e w' ∧ Below w.heap.size w w' := by
  obtain ⟨W0, hW0⟩ : ∃ W0, W0 = (w.alloc (.cells #[.int .i64 m.nodes, .int .i64 m.head, .slice pa m.pn pk, .slice la m.ln lk, .slice wa m.wn wk] 27)).alloc (.cells #[.slice none 0 0, .slice none 0 0, .int .i64 0, .int .i64 0, .int .i64 0, .int .i64 0] 31) := ⟨_, rfl⟩
  have S0 : Hid (MsS m pa pk la lk wa wk w W0) := by
    show MsS _ _ _ _ _ _ _ _ _
    rw [hW0]
    exact ⟨nrow_below (rowN_alloc w _ _) (nbel_alloc _ _), rowN_alloc' (by simp) _ _, (h.below (nbel_alloc _ _)).below (nbel_alloc _ _), mbel2 _ _ _⟩
  have HX0 : Hid (∀ i, i < xn → W0.cell? ⟨xb, i, none⟩ = some (.int .i64 (f i))) := fun i hi => (S0.out.old.cell (World.block_lt_of_cell? _ _ (hx i hi))).trans (hx i hi)
  have HSZ : Hid (W0.heap.size = w.heap.size + 2) := by show _ = _; rw [hW0]; simp
  have HW0 := Lib.hid hW0
  have HXN := Lib.hid hxn
  have HA := Lib.hid h
  clear h hW0 hx hxn
  go_enter Tryz.func37, Tryz.ntmps37
  go_wp2_with fail
  rw [← HW0.out]
  refine (given_any m pa pk la lk wa wk xb xn xc f _ S0.out.at_ HX0.out HXN.out).mono ?_
  rintro e w1 ⟨hE, hb⟩
  have S1 := Lib.hid (S0.out.below hb)
  have B1 : Hid (Below W0.heap.size W0 w1) := hb
  clear hb HX0
  rcases hE with ⟨c, s, h1, rfl⟩ | ⟨gk, a, c, h1, hr, hxp, ho, rfl, hk, how, hgk⟩
  · have HC := Lib.hid h1
    clear h1
    have D0 := set6_done S1.out.res rfl S1.out.old (by omega) (.slice none 0 0) (.slice none 0 0) (.int .i64 0) (.int .i64 0) (.int .i64 0) (.int .i64 0)
    have D : Hid (World.rowIs ((set6 w1 (w.heap.size + 1) (.slice none 0 0) (.slice none 0 0) (.int .i64 0) (.int .i64 0) (.int .i64 0) (.int .i64 0)).alloc (.cells #[.slice none 0 0, .slice none 0 0, .slice none 0 0] 70)) (w.heap.size + 1) 31 6 (rowN (moL none 0 0 none 0 0 0 0 0 0)) ∧ Below w.heap.size w ((set6 w1 (w.heap.size + 1) (.slice none 0 0) (.slice none 0 0) (.int .i64 0) (.int .i64 0) (.int .i64 0) (.int .i64 0)).alloc (.cells #[.slice none 0 0, .slice none 0 0, .slice none 0 0] 70))) := ⟨nrow_below D0.1 (nbel_alloc _ _), D0.2.1.trans ((nbel_alloc _ _).mono D0.2.1.size)⟩
    clear D0
    obtain ⟨⟨x0, x1, x2, x3, x4, x5⟩, z0, z1, z2, z3, z4, z5⟩ := rowN6 S1.out.res
    have lx := S1.out.res.lt
    go_wp2_with fail
    obtain ⟨⟨q0, q1, q2, q3, q4, q5⟩, _⟩ := rowN6 D.out.1
    unfold set6 at q0 q1 q2 q3 q4 q5
    refine bodyPost_ret (v := .tuple #[moV none 0 0 none 0 0 0 0 0 0, .iface 107 (.agg #[.string ⟨#[97, 32, 114, 111, 117, 110, 100]⟩, errV s c])]) ?_ rfl ⟨RmEnd.no c _ s HC.out rfl, ?_⟩
    · simp only [results, Tryz.results37]
      simp [go_sem, q0, q1, q2, q3, q4, q5]
    · have := D.out.2
      unfold set6 at this
      exact this
  subst hxp
  have HR := Lib.hid hr
  have HO := Lib.hid ho
  have H1 := Lib.hid h1
  have HOF : Hid (Mn.AllOk m (Mn.round m f)) := Mn.roundTo_ok hr ho _ (Nat.le_refl _)
  obtain ⟨W2, hW2⟩ : ∃ W2, W2 = w1.alloc (.cells #[.slice la m.ln lk, .slice (some ⟨gk, 0, none⟩) m.pn m.pn, .slice a m.pn c] 70) := ⟨_, rfl⟩
  have hb2 : Below w1.heap.size w1 W2 := by rw [hW2]; exact nbel_alloc _ _
  have S2 : Hid (RdQ m pa pk la lk wa wk w1.heap.size gk a c f w1 w W2) := ⟨nrow_below S1.out.res hb2, by rw [hW2]; exact rowN_alloc w1 _ _, hk.below hb2, (how.low (by have := HSZ.out; omega)).below hb2, S1.out.at_.below hb2, S1.out.old.trans (hb2.mono S1.out.old.size)⟩
  have HOW : Hid (OwL 2 W0.heap.size m.pn a c f W2) := how.below hb2
  have HAX : Hid (∀ k, a = some ⟨k, 0, none⟩ → w.heap.size + 2 ≤ k ∧ k < w1.heap.size) := fun k e => by have h2 := how.lt e; have := HSZ.out; omega
  have BW2 : Hid (Below W0.heap.size W0 W2) := B1.out.trans (hb2.mono B1.out.size)
  have HX1 : Hid (w1.heap.size ≠ w.heap.size + 1) := by show _ ≠ _; have := S1.out.res.lt; omega
  have HW2 := Lib.hid hW2
  have lx1 : w.heap.size + 1 < w1.heap.size := S1.out.res.lt
  clear hr ho h1 hW2 hk how hgk hb2 B1 S1
  go_wp2_with fail
  rw [← HW2.out]
  clear HW2
  generalize w1.heap.size = X at *
  refine (round_ow m la lk gk a c f W0 W2 BW2.out S0.out.at_.l S2.out.k HOW.out HR.out HO.out).mono ?_
  rintro e w3 ⟨rfl, hor, hon⟩
  have S3 : Hid (RdQ m pa pk la lk wa wk X gk a c (Mn.round m f) w1 w w3) := by
    have s := S2.out
    have hsz := HSZ.out
    have bl : ∀ k, k < W2.heap.size → (k < w.heap.size + 2 ∨ X ≤ k) → w3.heap[k]? = W2.heap[k]? := fun k h1 h2 => hon.block k h1 (fun e => by have := HAX.out k e; omega)
    have hold : Below w.heap.size w w3 := s.old.trans ⟨hon.os, hon.tape, hon.output, hon.size, fun k hk => bl k (Nat.lt_of_lt_of_le hk s.old.size) (by omega)⟩
    refine ⟨s.res.of_block (bl _ s.res.lt (by omega)), s.r6.of_block (bl _ s.r6.lt (by omega)), s.k.block (hon.block _ s.k.lt (fun e => ?_)), by rw [← hsz]; exact hor, HA.out.below hold, hold⟩
    rcases s.o with h9 | ⟨g9, e9, _, h9⟩
    · rw [h9.1] at e; cases e
    · rw [e9] at e
      cases e
      exact kd_ne s.k h9 rfl
  clear hor hon S2 HOW BW2
  go_wp2_with fail
  refine wp_region_held_drew (S := fun V => V.rowIs X 70 3 (rowN [.slice la m.ln lk, .slice (some ⟨gk, 0, none⟩) m.pn m.pn, .slice a m.pn c])) (by kernel_rfl) (nrow_below S3.out.r6 (Below.refl _ _).drew) (fun hHeld => ?_)
  obtain ⟨Z, hZ⟩ : ∃ Z, Z = w3.drew := ⟨_, rfl⟩
  have SZ : Hid (RdQ m pa pk la lk wa wk X gk a c (Mn.round m f) w1 w Z) := by show RdQ _ _ _ _ _ _ _ _ _ _ _ _ _ _ _; rw [hZ]; exact S3.out.below (Below.refl _ _).drew
  rw [← hZ] at hHeld ⊢
  clear hZ S3
  refine take_do (i := 0) (v := (.pointer (some ⟨X, 2, none⟩))) rfl (by kernel_rfl) (by kernel_rfl) (by kernel_rfl) (fun _ _ _ h => h) (by rfl) ?_ (by assumption) ?_
  · intro w' hSw
    skip
    go_simp
  simp only [Act.put, List.setIfInBounds_toArray, List.set_cons_zero, List.set_cons_succ]
  refine take_do (i := 1) (v := (.slice a m.pn c)) rfl (by kernel_rfl) (by kernel_rfl) (by kernel_rfl) (fun _ _ _ h => h) (by rfl) ?_ (by assumption) ?_
  · intro w' hSw
    obtain ⟨⟨r0, r1, r2⟩, _⟩ := rowN3 hSw
    go_simp
  simp only [Act.put, List.setIfInBounds_toArray, List.set_cons_zero, List.set_cons_succ]
  refine take_do (i := 2) (v := (rmV la m.ln lk gk m.pn a c)) rfl (by kernel_rfl) (by kernel_rfl) (by kernel_rfl) (fun _ _ _ h => h) (by rfl) ?_ (by assumption) ?_
  · intro w' hSw
    obtain ⟨⟨r0, r1, r2⟩, _⟩ := rowN3 hSw
    go_simp
  simp only [Act.put, List.setIfInBounds_toArray, List.set_cons_zero, List.set_cons_succ]
  refine take_call (i := 3) rfl (by kernel_rfl) (fun K2 hK => ?_)
  go_simp
  refine (irest_any m la lk gk a c (Mn.round m f) _ SZ.out.at_.l SZ.out.k SZ.out.o.at_ HR.out HOF.out).mono ?_
  rintro e w4 ⟨rfl, hb⟩
  have S4 := Lib.hid (SZ.out.below hb)
  go_wp2_with fail
  refine hK.out _ _ (nrow_below hHeld hb) (fun hHeld2 => ?_)
  clear hK hHeld hb SZ
  have hHeld := hHeld2
  clear hHeld2
  refine take_do (i := 4) (v := (moV a m.pn c none 0 0 (Mn.rest m (Mn.round m f)) 0 0 0)) rfl (by kernel_rfl) (by kernel_rfl) (by kernel_rfl) (fun _ _ _ h => h) (by rfl) ?_ (by assumption) ?_
  · intro w' hSw
    skip
    go_simp
  simp only [Act.put, List.setIfInBounds_toArray, List.set_cons_zero, List.set_cons_succ]
  have D := Lib.hid (set6_done S4.out.res rfl S4.out.old (by omega) (.slice a m.pn c) (.slice none 0 0) (.int .i64 (Mn.rest m (Mn.round m f))) (.int .i64 0) (.int .i64 0) (.int .i64 0))
  obtain ⟨⟨x0, x1, x2, x3, x4, x5⟩, z0, z1, z2, z3, z4, z5⟩ := rowN6 S4.out.res
  have lx := S4.out.res.lt
  obtain ⟨WZ, hWZ⟩ : ∃ WZ, WZ = set6 w4 (w.heap.size + 1) (.slice a m.pn c) (.slice none 0 0) (.int .i64 (Mn.rest m (Mn.round m f))) (.int .i64 0) (.int .i64 0) (.int .i64 0) := ⟨_, rfl⟩
  have HRX : Hid (WZ.rowIs X 70 3 (rowN [.slice la m.ln lk, .slice (some ⟨gk, 0, none⟩) m.pn m.pn, .slice a m.pn c])) := by
    show World.rowIs _ _ _ _ _
    rw [hWZ]
    exact S4.out.r6.of_block (D.out.2.2 _ HX1.out)
  have HWZ := Lib.hid hWZ
  unfold set6 at hWZ
  refine take_call (i := 5) rfl (by kernel_rfl) (fun K2 hK => ?_)
  go_simp
  rw [← hWZ]
  refine hK.out _ _ HRX.out (fun hHeld2 => ?_)
  clear hK hHeld x0 x1 x2 x3 x4 x5 z0 z1 z2 z3 z4 z5 lx hWZ
  have hHeld := hHeld2
  clear hHeld2
  refine take_do (i := 6) (v := (.nilIface)) rfl (by kernel_rfl) (by kernel_rfl) (by kernel_rfl) (fun _ _ _ h => h) (by rfl) ?_ (by assumption) ?_
  · intro w' hSw
    skip
    go_simp
  simp only [Act.put, List.setIfInBounds_toArray, List.set_cons_zero, List.set_cons_succ]
  refine wpAnyH_done (by kernel_rfl) ?_ _
  clear hHeld
  obtain ⟨⟨q0, q1, q2, q3, q4, q5⟩, _⟩ := rowN6 D.out.1
  rw [← HWZ.out] at q0 q1 q2 q3 q4 q5
  go_wp2_with fail
  refine bodyPost_ret (v := .tuple #[moV a m.pn c none 0 0 (Mn.rest m (Mn.round m f)) 0 0 0, .nilIface]) ?_ rfl ⟨RmEnd.ok a c H1.out HR.out rfl HO.out rfl ?_, ?_⟩
  · simp only [results, Tryz.results37]
    simp [go_sem, q0, q1, q2, q3, q4, q5]
  · rw [HWZ.out]
    exact (S4.out.o.keep (fun k e hk => D.out.2.2 k (by have := (S4.out.o.lt e).1; omega))).low (by omega)
  · rw [HWZ.out]; exact D.out.2.1
end Go.Proofs.YtfgmalnkpgloiaaGreatDoor
