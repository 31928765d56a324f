/-
  A round of mains: the program's walk, its last part.
-/
import Derived.Test.YtfgmalnkpgloiaaGreatDoorMnP8
namespace Go.Proofs.YtfgmalnkpgloiaaGreatDoor
open Go.RowKit Go.Deep
set_option maxRecDepth 100000 in
set_option maxHeartbeats 1000000 in
theorem implRound_any (m : Mn.Mains) (pa : Option Addr) (pk : Nat) (la : Option Addr) (lk : Nat) (wa : Option Addr) (wk : Nat) (xb xn xc : Nat) (f : Nat → Int) (w : World) (h : MnAt m pa la wa w) (hx : ∀ i, i < xn → w.cell? ⟨xb, i, none⟩ = some (.int .i64 (f i))) (hxn : xn ≤ 1048576) (hg : Et w) :
    Calls Tryz.prog 10 #[mnV m pa pk la lk wa wk, .slice (some ⟨xb, 0, none⟩) xn xc] w fun e w' => RdEnd m xn f w.heap.size e w' ∧ Below w.heap.size w w' := by
  obtain ⟨W, hW⟩ : ∃ W, W = (w.alloc (.cells #[.int .i64 m.nodes, .int .i64 m.head, .slice pa m.pn pk, .slice la m.ln lk, .slice wa m.wn wk] 27)).alloc (.cells (moA none 0 0 none 0 0 0 0 0 0) 31) := ⟨_, rfl⟩
  have S0 : Hid (MsS m pa pk la lk wa wk w W) := by
    show MsS _ _ _ _ _ _ _ _ _
    rw [hW]
    exact ⟨nrow_below (rowN_alloc w _ _) (nbel_alloc _ _), rowN_alloc' (by simp) _ _, (h.below (nbel_alloc _ _)).below (nbel_alloc _ _), mbel2 _ _ _⟩
  have HX0 : Hid (∀ i, i < xn → W.cell? ⟨xb, i, none⟩ = some (.int .i64 (f i))) := fun i hi => (S0.out.old.cell (World.block_lt_of_cell? _ _ (hx i hi))).trans (hx i hi)
  have HSZ : Hid (W.heap.size = w.heap.size + 2) := by show _ = _; rw [hW]; simp
  have HW := Lib.hid hW
  have HG := Lib.hid hg
  have HXN := Lib.hid hxn
  clear h hW hg hx hxn
  go_enter Tryz.func10, Tryz.ntmps10
  go_wp2_with fail
  rw [← HW.out]
  refine (roundMains_any m pa pk la lk wa wk xb xn xc f _ S0.out.at_ HX0.out HXN.out).mono ?_
  rintro e w1 ⟨hE, hb⟩
  have S1 := Lib.hid (S0.out.below hb)
  clear hb S0 HX0
  rcases hE with ⟨c, s0, s, h1, rfl⟩ | ⟨a, c, h1, hr, hxp, ho, rfl, how⟩
  · have HC := Lib.hid h1
    clear h1
    go_wp2_with fail
    refine (tell_bad _ _ _ _ _ _ _ _ _ _ _ 0 c (finds_two s0 s c) (st_ddr s0 s c) _ (HG.out.below S1.out.old)).mono ?_
    rintro e w2 ⟨rfl, hb⟩
    have S3 := Lib.hid (S1.out.below hb)
    clear hb S1
    have D := Lib.hid (set6_done S3.out.res rfl S3.out.old (by omega) (.slice none 0 0) (.slice none 0 0) (.int .i64 0) (.int .i64 0) (.int .i64 0) (.int .i64 c))
    obtain ⟨⟨x0, x1, x2, x3, x4, x5⟩, z0, z1, z2, z3, z4, z5⟩ := rowN6 S3.out.res
    have lx := S3.out.res.lt
    go_wp2_with fail
    obtain ⟨⟨q0, q1, q2, q3, q4, q5⟩, _⟩ := rowN6 D.out.1
    unfold set6 at q0 q1 q2 q3 q4 q5
    have HE : Hid (RdEnd m xn f w.heap.size (.returned (moV none 0 0 none 0 0 0 0 0 c)) (set6 w2 (w.heap.size + 1) (.slice none 0 0) (.slice none 0 0) (.int .i64 0) (.int .i64 0) (.int .i64 0) (.int .i64 c))) := by
      rcases HC.out with ⟨rfl, k⟩ | ⟨rfl, k1, k2⟩
      · exact RdEnd.size k rfl
      · exact RdEnd.form k1 k2 rfl
    refine bodyPost_ret (v := moV none 0 0 none 0 0 0 0 0 c) ?_ rfl ⟨HE.out, D.out.2.1⟩
    simp only [results, Tryz.results10]
    simp [go_sem, q0, q1, q2, q3, q4, q5]
  · subst hxp
    have HR := Lib.hid hr
    have HO := Lib.hid ho
    have H1 := Lib.hid h1
    have HOW := Lib.hid how
    clear h1 hr ho how
    go_wp2_with fail
    refine (tell_ok _ _ _ _ _ _ _ _ _ _ _).mono ?_
    rintro e w2 ⟨rfl, hb⟩
    have S3 := Lib.hid (S1.out.below hb)
    have F3 := Lib.hid (HOW.out.below hb)
    clear hb S1 HOW
    have D := Lib.hid (set6_done S3.out.res rfl S3.out.old (by omega) (.slice a m.pn c) (.slice none 0 0) (.int .i64 (Mn.rest m (Mn.round m f))) (.int .i64 0) (.int .i64 0) (.int .i64 0))
    obtain ⟨⟨x0, x1, x2, x3, x4, x5⟩, z0, z1, z2, z3, z4, z5⟩ := rowN6 S3.out.res
    have lx := S3.out.res.lt
    go_wp2_with fail
    obtain ⟨⟨q0, q1, q2, q3, q4, q5⟩, _⟩ := rowN6 D.out.1
    unfold set6 at q0 q1 q2 q3 q4 q5
    have hsz := HSZ.out
    refine bodyPost_ret (v := moV a m.pn c none 0 0 (Mn.rest m (Mn.round m f)) 0 0 0) ?_ rfl ⟨RdEnd.ok a c H1.out HR.out rfl HO.out rfl ((F3.out.keep (fun k e hk => D.out.2.2 k (by have := (F3.out.lt e).1; omega))).low (by omega)), D.out.2.1⟩
    simp only [results, Tryz.results10]
    simp [go_sem, q0, q1, q2, q3, q4, q5]
end Go.Proofs.YtfgmalnkpgloiaaGreatDoor
