/-
  The model's AlarmRun.
-/
import Derived.Test.YtmejmpdljckfgaaDoorAlR0
import Derived.Test.YtmejmpdljckfgaaDoorAlS1
import Derived.Deep.DeepCutAuto
namespace Go.Proofs.YtmejmpdljckfgaaDoor
open Go.RowKit Go.Deep

theorem aoinfo2 : (Tryd.prog.info? 52).map (fun i => (i.zero, i.size, i.bytes)) = some (some (.agg #[.int .i64 0, .int .i64 0]), 2, 16) := by kernel_rfl
theorem own_ne2 {W : World} {B n m : Nat} {v : Value} {ns : List Value} {x : Nat} {F : Nat → Value} (h : W.ownsRow B 52 2 v n ns) (hr : W.rowIs x 40 m F) {g : Nat} (hg : v.ownBlock = some g) : g ≠ x := by
  rintro rfl
  rcases h.2 with ⟨h1, _⟩ | ⟨g', cap, cur, e1, e2, e3, _⟩
  · rw [h1] at hg; simp [Value.ownBlock] at hg
  · rw [e1] at hg
    simp [Value.ownBlock] at hg
    subst hg
    obtain ⟨c2, q2, _⟩ := hr
    rw [e3] at q2
    simp at q2
theorem RaS.six {w : World} {X : Al.A} {v : Value} {l : List (Int × Int)} {rb b : Nat} {W : World} (h : RaS w X v l rb b W) (Y : Al.A) : RaS w Y v l rb b (((((((W).setCell ⟨b, 0, none⟩ (.int .i64 Y.hi)).setCell ⟨b, 1, none⟩ (.int .i64 Y.lo)).setCell ⟨b, 2, none⟩ (.int .i64 Y.dl)).setCell ⟨b, 3, none⟩ (.int .i64 Y.st)).setCell ⟨b, 4, none⟩ (.int .i64 Y.ct)).setCell ⟨b, 5, none⟩ (.int .i64 Y.sh)) := by
  have lo := h.lo
  have nb : ∀ k, k ≠ b → (((((((W).setCell ⟨b, 0, none⟩ (.int .i64 Y.hi)).setCell ⟨b, 1, none⟩ (.int .i64 Y.lo)).setCell ⟨b, 2, none⟩ (.int .i64 Y.dl)).setCell ⟨b, 3, none⟩ (.int .i64 Y.st)).setCell ⟨b, 4, none⟩ (.int .i64 Y.ct)).setCell ⟨b, 5, none⟩ (.int .i64 Y.sh)).heap[k]? = W.heap[k]? := fun k hk => al6blk hk (.int .i64 Y.hi) (.int .i64 Y.lo) (.int .i64 Y.dl) (.int .i64 Y.st) (.int .i64 Y.ct) (.int .i64 Y.sh)
  refine ⟨h.o.of_block (nb _ (by omega)), ?_, own_keep h.l (fun g hg _ => nb g (own_ne h.l h.r hg)), lo, al6bel (g := b) h.old (by omega) (.int .i64 Y.hi) (.int .i64 Y.lo) (.int .i64 Y.dl) (.int .i64 Y.st) (.int .i64 Y.ct) (.int .i64 Y.sh)⟩
  exact (rowN_put (rowN_put (rowN_put (rowN_put (rowN_put (rowN_put h.r 0 (.int .i64 Y.hi) (by simp)) 1 (.int .i64 Y.lo) (by simp)) 2 (.int .i64 Y.dl) (by simp)) 3 (.int .i64 Y.st) (by simp)) 4 (.int .i64 Y.ct) (by simp)) 5 (.int .i64 Y.sh) (by simp))
set_option maxRecDepth 100000 in
set_option maxHeartbeats 16000000 in
theorem specARun_any (a : Al.A) (la : Option Addr) (n cap : Nat) (P : Nat → Int) (w : World) (h : IsAt la (n * 2) P w) (hn : n ≤ 1048576) :
    Calls Tryd.prog 12 #[alV a, .slice la n cap] w fun e w' => AoEnd w.heap.size (n ≤ 300 ∧ Al.RunOk a P n) (Al.runC n) (Al.run a P n) (Al.rings a P n).length (Ln.fl (Al.rings a P n)) e w' ∧ Below w.heap.size w w' := by
  obtain ⟨i0, hi0, hz0, hz1, hz2⟩ := info_parts aoinfo2
  obtain ⟨W, hW⟩ : ∃ W, W = (w.alloc (.cells #[.int .i64 a.hi, .int .i64 a.lo, .int .i64 a.dl, .int .i64 a.st, .int .i64 a.ct, .int .i64 a.sh] 40)).alloc (.cells #[.int .i64 0, .int .i64 0, .int .i64 0, .int .i64 0, .int .i64 0, .int .i64 0, .slice none 0 0, .int .i64 0] 46) := ⟨_, rfl⟩
  have HM : Hid (W.rowIs w.heap.size 40 6 (rowN (alL a))) := by show World.rowIs _ _ _ _ _; rw [hW]; exact nrow_below (rowN_alloc w _ _) (nbel_alloc _ _)
  have HO : Hid (W.rowIs (w.heap.size + 1) 46 8 (rowN (aoL Al.none none 0 0 0))) := by show World.rowIs _ _ _ _ _; rw [hW]; exact rowN_alloc' (by simp) _ _
  have HB : Hid (Below w.heap.size w W) := by show Below _ _ _; rw [hW]; exact (nbel_alloc _ _).alloc (by simp) _
  have H := Lib.hid h
  by_cases hbig : (300 : Int) < (n : Int)
  · have HNO : Hid (¬ (n ≤ 300 ∧ Al.RunOk a P n)) := fun h => by have := h.1; omega
    have HC : Hid (Al.runC n = 2) := Al.runC_big (by omega)
    obtain ⟨⟨o0, o1, o2, o3, o4, o5, o6, o7⟩, z0, z1, z2, z3, z4, z5, z6, z7⟩ := rowN8 HO.out
    have hol := HO.out.lt
    rw [hW] at o0 o1 o2 o3 o4 o5 o6 o7 z0 z1 z2 z3 z4 z5 z6 z7 hol
    have HW := Lib.hid hW
    clear hW h
    go_enter Tryd.func12, Tryd.ntmps12
    go_wp2_with fail
    exact bodyPost_ret (v := aoV Al.none none 0 0 2) (by simp only [results, Tryd.results12]; simp [go_sem, Al.none]) rfl ⟨Or.inl ⟨HNO.out, by rw [HC.out]⟩, (nbel_alloc _ _).alloc (by simp) _⟩
  have HW := Lib.hid hW
  have HN3 : Hid (n ≤ 300) := by show n ≤ 300; omega
  have HC : Hid (Al.runC n = 1) := Al.runC_no (by omega)
  clear hW h
  go_enter Tryd.func12, Tryd.ntmps12
  go_wp2_with fail
  rw [← HW.out]
  clear HW
  refine (sRight_any a _).mono ?_
  rintro e w1 ⟨rfl, hb⟩
  have HM1 := Lib.hid (nrow_below HM.out hb)
  have HO1 := Lib.hid (nrow_below HO.out hb)
  have HB1 : Hid (Below w.heap.size w w1) := HB.out.trans (hb.mono HB.out.size)
  clear hb HM HO HB
  by_cases c : Al.Right a
  case neg =>
    rw [decide_eq_false c]
    have HNO : Hid (¬ (n ≤ 300 ∧ Al.RunOk a P n)) := fun h => c h.2.1
    clear c
    obtain ⟨⟨o0, o1, o2, o3, o4, o5, o6, o7⟩, z0, z1, z2, z3, z4, z5, z6, z7⟩ := rowN8 HO1.out
    have hol := HO1.out.lt
    obtain ⟨Z, hZ⟩ : ∃ Z, Z = ((((((((w1).setCell ⟨w.heap.size + 1, 0, none⟩ (.int .i64 0)).setCell ⟨w.heap.size + 1, 1, none⟩ (.int .i64 0)).setCell ⟨w.heap.size + 1, 2, none⟩ (.int .i64 0)).setCell ⟨w.heap.size + 1, 3, none⟩ (.int .i64 0)).setCell ⟨w.heap.size + 1, 4, none⟩ (.int .i64 0)).setCell ⟨w.heap.size + 1, 5, none⟩ (.int .i64 0)).setCell ⟨w.heap.size + 1, 6, none⟩ (.slice none 0 0)).setCell ⟨w.heap.size + 1, 7, none⟩ (.int .i64 1) := ⟨_, rfl⟩
    have HZR : Hid (Z.rowIs (w.heap.size + 1) 46 8 (rowN (aoL Al.none none 0 0 1))) := by show World.rowIs _ _ _ _ _; rw [hZ]; exact al8put HO1.out rfl (.int .i64 0) (.int .i64 0) (.int .i64 0) (.int .i64 0) (.int .i64 0) (.int .i64 0) (.slice none 0 0) (.int .i64 1)
    have HZB : Hid (Below w.heap.size w Z) := by show Below _ _ _; rw [hZ]; exact al8bel (g := w.heap.size + 1) HB1.out (by omega) (.int .i64 0) (.int .i64 0) (.int .i64 0) (.int .i64 0) (.int .i64 0) (.int .i64 0) (.slice none 0 0) (.int .i64 1)
    have HZ := Lib.hid hZ
    clear hZ
    go_wp2_with fail
    rw [← HZ.out]
    obtain ⟨⟨p0, p1, p2, p3, p4, p5, p6, p7⟩, _⟩ := rowN8 HZR.out
    exact bodyPost_ret (v := aoV Al.none none 0 0 1) (by simp only [results, Tryd.results12]; simp [go_sem, p0, p1, p2, p3, p4, p5, p6, p7, Al.none]) rfl ⟨Or.inl ⟨HNO.out, by rw [HC.out]⟩, HZB.out⟩
  rw [decide_eq_true c]
  have HRT := Lib.hid c
  clear c
  obtain ⟨⟨m0, m1, m2, m3, m4, m5⟩, _⟩ := rowN6 HM1.out
  obtain ⟨b6, hb6⟩ : ∃ b, b = w1.heap.size := ⟨_, rfl⟩
  obtain ⟨W1, hW1⟩ : ∃ W1, W1 = w1.alloc (.cells #[.int .i64 a.hi, .int .i64 a.lo, .int .i64 a.dl, .int .i64 a.st, .int .i64 a.ct, .int .i64 a.sh, .slice none 0 0, .int .i64 0] 46) := ⟨_, rfl⟩
  have HS0 : Hid (RaS w (Al.run a P 0) (.slice none 0 0) (Al.rings a P 0) (w.heap.size + 1) b6 W1) := by
    show RaS _ _ _ _ _ _ _
    rw [hW1, hb6]
    exact ⟨nrow_below HO1.out (nbel_alloc _ _), rowN_alloc w1 [.int .i64 a.hi, .int .i64 a.lo, .int .i64 a.dl, .int .i64 a.st, .int .i64 a.ct, .int .i64 a.sh, .slice none 0 0, .int .i64 0] _, World.ownsRow_nil _ _ _ _, ⟨by omega, HO1.out.lt⟩, HB1.out.alloc HB1.out.size _⟩
  have HWE := Lib.hid hW1
  have HBE := Lib.hid hb6
  clear hW1 hb6
  go_wp2_with fail
  rw [← HWE.out, ← HBE.out]
  clear HWE HBE HM1 HO1 HB1 m0 m1 m2 m3 m4 m5
  go_loopw [6, 7] (fun iv _ wr => ∃ (i : Nat) (v : Value), i ≤ n ∧ iv = .int .i64 i ∧ Hid (RaS w (Al.run a P i) v (Al.rings a P i) (w.heap.size + 1) b6 wr) ∧ Hid (∀ j, j < i → Al.ActOk (P (j * 2)) (P (j * 2 + 1)))) (fun iv _ _ => n - (intOf iv).toNat)
  case atStart => exact ⟨0, _, Nat.zero_le _, rfl, HS0, fun j hj => absurd hj (Nat.not_lt_zero _)⟩
  case round =>
    obtain ⟨i, v, hi, rfl, hS, hP⟩ := hrel
    clear HS0
    obtain ⟨X, hX⟩ : ∃ X, X = Al.run a P i := ⟨_, rfl⟩
    obtain ⟨l, hl⟩ : ∃ l, l = Al.rings a P i := ⟨_, rfl⟩
    rw [← hX, ← hl] at hS
    obtain ⟨la2, c2, rfl, _⟩ := own_ns hS.out.l
    have HX := Lib.hid hX
    have HL := Lib.hid hl
    clear hX hl
    by_cases hlt : i < n
    · have hltz : (i : Int) < (n : Int) := by omega
      obtain ⟨b, e, k0, k1⟩ := (H.out.below hS.out.old).at2 hlt
      subst e
      obtain ⟨k, hk⟩ : ∃ x, x = P (i * 2) := ⟨_, rfl⟩
      obtain ⟨v, hv⟩ : ∃ x, x = P (i * 2 + 1) := ⟨_, rfl⟩
      rw [← hk] at k0
      rw [← hv] at k1
      have HK := Lib.hid hk
      have HV0 := Lib.hid hv
      have zb : b < wr.heap.size := World.block_lt_of_cell? _ _ k0
      obtain ⟨N, hN⟩ : ∃ N, N = l.length := ⟨_, rfl⟩
      have HNL := Lib.hid hN
      rw [← hN] at hS
      clear hk hv hN
      go_wp2_with fail
      refine (sact22_any k v _).mono ?_
      rintro e w3 ⟨rfl, hb⟩
      have HS3 := Lib.hid (hS.out.below hb)
      have C0 := Lib.hid ((hb.cell (p := ⟨b, i * 2, none⟩) zb).trans k0)
      have C1 := Lib.hid ((hb.cell (p := ⟨b, i * 2 + 1, none⟩) zb).trans k1)
      have HZB0 : Hid (b < w3.heap.size) := Nat.lt_of_lt_of_le zb hb.size
      clear hb hS k0 k1 zb
      by_cases c : Al.ActOk k v
      case neg =>
        rw [decide_eq_false c]
        have HNO : Hid (¬ (n ≤ 300 ∧ Al.RunOk a P n)) := fun h => c (by rw [HK.out, HV0.out]; exact h.2.2 i hlt)
        clear c
        obtain ⟨⟨o0, o1, o2, o3, o4, o5, o6, o7⟩, z0, z1, z2, z3, z4, z5, z6, z7⟩ := rowN8 HS3.out.o
        have hol := HS3.out.o.lt
        obtain ⟨Z, hZ⟩ : ∃ Z, Z = ((((((((w3).setCell ⟨w.heap.size + 1, 0, none⟩ (.int .i64 0)).setCell ⟨w.heap.size + 1, 1, none⟩ (.int .i64 0)).setCell ⟨w.heap.size + 1, 2, none⟩ (.int .i64 0)).setCell ⟨w.heap.size + 1, 3, none⟩ (.int .i64 0)).setCell ⟨w.heap.size + 1, 4, none⟩ (.int .i64 0)).setCell ⟨w.heap.size + 1, 5, none⟩ (.int .i64 0)).setCell ⟨w.heap.size + 1, 6, none⟩ (.slice none 0 0)).setCell ⟨w.heap.size + 1, 7, none⟩ (.int .i64 1) := ⟨_, rfl⟩
        have HZR : Hid (Z.rowIs (w.heap.size + 1) 46 8 (rowN (aoL Al.none none 0 0 1))) := by show World.rowIs _ _ _ _ _; rw [hZ]; exact al8put HS3.out.o rfl (.int .i64 0) (.int .i64 0) (.int .i64 0) (.int .i64 0) (.int .i64 0) (.int .i64 0) (.slice none 0 0) (.int .i64 1)
        have HZB : Hid (Below w.heap.size w Z) := by show Below _ _ _; rw [hZ]; exact al8bel (g := w.heap.size + 1) HS3.out.old (by omega) (.int .i64 0) (.int .i64 0) (.int .i64 0) (.int .i64 0) (.int .i64 0) (.int .i64 0) (.slice none 0 0) (.int .i64 1)
        have HZ := Lib.hid hZ
        clear hZ
        go_wp2_with fail
        rw [← HZ.out]
        obtain ⟨⟨p0, p1, p2, p3, p4, p5, p6, p7⟩, _⟩ := rowN8 HZR.out
        exact bodyPost_ret (v := aoV Al.none none 0 0 1) (by simp only [results, Tryd.results12]; simp [go_sem, p0, p1, p2, p3, p4, p5, p6, p7, Al.none]) rfl ⟨Or.inl ⟨HNO.out, by rw [HC.out]⟩, HZB.out⟩
      rw [decide_eq_true c]
      have HA := Lib.hid c
      have HR : Hid (Al.Right X) := by show Al.Right X; rw [HX.out]; exact Al.run_right HRT.out P i
      have HM : Hid (Al.run a P (i + 1) = Al.meet X k v) := by show Al.run a P (i + 1) = _; rw [HX.out, HK.out, HV0.out]; rfl
      obtain ⟨Y, hY⟩ : ∃ Y, Y = Al.meet X k v := ⟨_, rfl⟩
      have HYA : Hid (Y = Al.act X k v) := by show Y = _; rw [hY, Al.act_yes HR.out c]
      have HY := Lib.hid hY
      rw [← hY] at HM
      have HLN : Hid (l.length ≤ 300) := by show l.length ≤ 300; rw [HL.out]; exact Nat.le_trans (Al.rings_len a P i) (by have := HN3.out; omega)
      have HB6 : Hid (b6 < w3.heap.size) := HS3.out.r.lt
      clear c hY
      go_wp2_with fail
      go_cut [7] (fun q Wq => ∃ xb , q = .pointer (some ⟨xb, 0, none⟩) ∧ Hid (Below w3.heap.size w3 Wq ∧ Wq.rowIs xb 40 6 (rowN (alL Y)) ∧ w3.heap.size ≤ xb))
      case first =>
        refine wp_region_held_drew (S := fun V => Below w3.heap.size w3 V) (by kernel_rfl) (Below.refl _ _).drew (fun hHeld => ?_)
        obtain ⟨Z, hZ⟩ : ∃ Z, Z = w3.drew := ⟨_, rfl⟩
        rw [← hZ] at hHeld ⊢
        clear hZ
        refine take_do (i := 0) (v := (.pointer (some ⟨b6, 0, none⟩))) rfl (by kernel_rfl) (by kernel_rfl) (by kernel_rfl) (fun _ _ _ h => h) (by rfl) ?_ (by assumption) ?_
        · intro w hSw
          go_simp
        simp only [Act.put, List.setIfInBounds_toArray, List.set_cons_zero, List.set_cons_succ]
        refine take_do (i := 1) (v := (alV X)) rfl (by kernel_rfl) (by kernel_rfl) (by kernel_rfl) (fun _ _ _ h => h) (by rfl) ?_ (by assumption) ?_
        · intro w hSw
          obtain ⟨⟨r0, r1, r2, r3, r4, r5, r6, r7⟩, _⟩ := rowN8 (nrow_below HS3.out.r hSw)
          have d0 := (hSw.cell (p := ⟨b, i * 2, none⟩) HZB0.out).trans C0.out
          have d1 := (hSw.cell (p := ⟨b, i * 2 + 1, none⟩) HZB0.out).trans C1.out
          go_simp
        simp only [Act.put, List.setIfInBounds_toArray, List.set_cons_zero, List.set_cons_succ]
        refine take_do (i := 2) (v := (.slice (some ⟨b, 0, none⟩) n cap)) rfl (by kernel_rfl) (by kernel_rfl) (by kernel_rfl) (fun _ _ _ h => h) (by rfl) ?_ (by assumption) ?_
        · intro w hSw
          go_simp
        simp only [Act.put, List.setIfInBounds_toArray, List.set_cons_zero, List.set_cons_succ]
        refine take_do (i := 3) (v := (.int .i64 i)) rfl (by kernel_rfl) (by kernel_rfl) (by kernel_rfl) (fun _ _ _ h => h) (by rfl) ?_ (by assumption) ?_
        · intro w hSw
          go_simp
        simp only [Act.put, List.setIfInBounds_toArray, List.set_cons_zero, List.set_cons_succ]
        refine take_do (i := 4) (v := (.pointer (some ⟨b, i * 2, none⟩))) rfl (by kernel_rfl) (by kernel_rfl) (by kernel_rfl) (fun _ _ _ h => h) (by rfl) ?_ (by assumption) ?_
        · intro w hSw
          go_simp
        simp only [Act.put, List.setIfInBounds_toArray, List.set_cons_zero, List.set_cons_succ]
        refine take_do (i := 5) (v := (.agg #[.int .i64 k, .int .i64 v])) rfl (by kernel_rfl) (by kernel_rfl) (by kernel_rfl) (fun _ _ _ h => h) (by rfl) ?_ (by assumption) ?_
        · intro w hSw
          obtain ⟨⟨r0, r1, r2, r3, r4, r5, r6, r7⟩, _⟩ := rowN8 (nrow_below HS3.out.r hSw)
          have d0 := (hSw.cell (p := ⟨b, i * 2, none⟩) HZB0.out).trans C0.out
          have d1 := (hSw.cell (p := ⟨b, i * 2 + 1, none⟩) HZB0.out).trans C1.out
          go_simp
        simp only [Act.put, List.setIfInBounds_toArray, List.set_cons_zero, List.set_cons_succ]
        refine wpAnyH_ready (rs := [6, 7]) (by kernel_rfl) (by simp) (AllReadyH.cons (at_drop (i := 6) rfl) (fun K2 hK => ?_) (AllReadyH.cons (at_drop (i := 7) rfl) (fun K2 hK => ?_) (AllReadyH.nil)))
        · go_simp
          refine (specAct_any X k v _).mono ?_
          rintro e Z1 ⟨rfl, hb⟩
          rw [← HYA.out]
          go_wp2_with fail
          refine hK.out _ _ (hHeld.trans (hb.mono hHeld.size)) (fun hHeld2 => ?_)
          clear hK hHeld hb
          have hHeld := hHeld2
          clear hHeld2
          refine wpAnyH_ready (rs := [7]) (by kernel_rfl) (by simp) (AllReadyH.cons (at_drop (i := 7) rfl) (fun K2 hK => ?_) (AllReadyH.nil))
          obtain ⟨Z2, hZ2⟩ : ∃ Z2, Z2 = Z1.alloc (.cells #[.int .i64 0, .int .i64 0, .int .i64 0, .int .i64 0, .int .i64 0, .int .i64 0] 40) := ⟨_, rfl⟩
          have hb : Below Z1.heap.size Z1 Z2 := by rw [hZ2]; exact nbel_alloc _ _
          have HV : Hid (Z2.rowIs Z1.heap.size 40 6 (rowN [.int .i64 0, .int .i64 0, .int .i64 0, .int .i64 0, .int .i64 0, .int .i64 0])) := by show World.rowIs _ _ _ _ _; rw [hZ2]; exact rowN_alloc _ _ _
          obtain ⟨xb, hxb⟩ : ∃ xb, xb = Z1.heap.size := ⟨_, rfl⟩
          rw [← hxb] at HV
          have HXL : Hid (w3.heap.size ≤ xb) := by show _ ≤ _; rw [hxb]; exact hHeld.size
          go_simp
          rw [← hZ2, ← hxb]
          clear hZ2
          refine hK.out _ _ (hHeld.trans (hb.mono hHeld.size)) (fun hHeld2 => ?_)
          clear hK hHeld hxb hb
          have hHeld := hHeld2
          clear hHeld2
          have zr := al6put HV.out rfl (.int .i64 Y.hi) (.int .i64 Y.lo) (.int .i64 Y.dl) (.int .i64 Y.st) (.int .i64 Y.ct) (.int .i64 Y.sh)
          have zk := fun (k : Nat) (hk : k ≠ xb) => al6blk (W := Z2) hk (.int .i64 Y.hi) (.int .i64 Y.lo) (.int .i64 Y.dl) (.int .i64 Y.st) (.int .i64 Y.ct) (.int .i64 Y.sh)
          have zb := al6bel (g := xb) hHeld HXL.out (.int .i64 Y.hi) (.int .i64 Y.lo) (.int .i64 Y.dl) (.int .i64 Y.st) (.int .i64 Y.ct) (.int .i64 Y.sh)
          obtain ⟨⟨o0, o1, o2, o3, o4, o5⟩, z0, z1, z2, z3, z4, z5⟩ := rowN6 HV.out
          have hol := HV.out.lt
          refine take_call (i := 8) rfl (by kernel_rfl) (fun K2 hK => ?_)
          go_simp
          clear o0 o1 o2 o3 o4 o5 z0 z1 z2 z3 z4 z5
          generalize ((((((Z2).setCell ⟨xb, 0, none⟩ (.int .i64 Y.hi)).setCell ⟨xb, 1, none⟩ (.int .i64 Y.lo)).setCell ⟨xb, 2, none⟩ (.int .i64 Y.dl)).setCell ⟨xb, 3, none⟩ (.int .i64 Y.st)).setCell ⟨xb, 4, none⟩ (.int .i64 Y.ct)).setCell ⟨xb, 5, none⟩ (.int .i64 Y.sh) = Y9 at zr zk zb  ⊢
          refine hK.out _ _ zb (fun hHeld2 => ?_)
          clear hK hHeld hHeld2
          refine wpAnyH_done (by kernel_rfl) ?_ _
          have HPR : Hid (Below w3.heap.size w3 Y9 ∧ Y9.rowIs xb 40 6 (rowN (alL Y)) ∧ w3.heap.size ≤ xb) := ⟨zb, zr, HXL.out⟩
          clear zr zk zb
          go_wp2_with fail
          go_meet
          case rel => exact ⟨xb, rfl, HPR⟩
        · obtain ⟨Z1, hZ1⟩ : ∃ Z1, Z1 = Z.alloc (.cells #[.int .i64 0, .int .i64 0, .int .i64 0, .int .i64 0, .int .i64 0, .int .i64 0] 40) := ⟨_, rfl⟩
          have hb : Below Z.heap.size Z Z1 := by rw [hZ1]; exact nbel_alloc _ _
          have HV : Hid (Z1.rowIs Z.heap.size 40 6 (rowN [.int .i64 0, .int .i64 0, .int .i64 0, .int .i64 0, .int .i64 0, .int .i64 0])) := by show World.rowIs _ _ _ _ _; rw [hZ1]; exact rowN_alloc _ _ _
          obtain ⟨xb, hxb⟩ : ∃ xb, xb = Z.heap.size := ⟨_, rfl⟩
          rw [← hxb] at HV
          have HXL : Hid (w3.heap.size ≤ xb) := by show _ ≤ _; rw [hxb]; exact hHeld.size
          go_simp
          rw [← hZ1, ← hxb]
          clear hZ1
          refine hK.out _ _ (hHeld.trans (hb.mono hHeld.size)) (fun hHeld2 => ?_)
          clear hK hHeld hxb hb
          have hHeld := hHeld2
          clear hHeld2
          refine wpAnyH_ready (rs := [6]) (by kernel_rfl) (by simp) (AllReadyH.cons (at_drop (i := 6) rfl) (fun K2 hK => ?_) (AllReadyH.nil))
          go_simp
          refine (specAct_any X k v _).mono ?_
          rintro e Z2 ⟨rfl, hb⟩
          rw [← HYA.out]
          have HV2 := Lib.hid (nrow_below HV.out hb)
          clear HV
          have HV := HV2
          clear HV2
          go_wp2_with fail
          refine hK.out _ _ (hHeld.trans (hb.mono hHeld.size)) (fun hHeld2 => ?_)
          clear hK hHeld hb
          have hHeld := hHeld2
          clear hHeld2
          have zr := al6put HV.out rfl (.int .i64 Y.hi) (.int .i64 Y.lo) (.int .i64 Y.dl) (.int .i64 Y.st) (.int .i64 Y.ct) (.int .i64 Y.sh)
          have zk := fun (k : Nat) (hk : k ≠ xb) => al6blk (W := Z2) hk (.int .i64 Y.hi) (.int .i64 Y.lo) (.int .i64 Y.dl) (.int .i64 Y.st) (.int .i64 Y.ct) (.int .i64 Y.sh)
          have zb := al6bel (g := xb) hHeld HXL.out (.int .i64 Y.hi) (.int .i64 Y.lo) (.int .i64 Y.dl) (.int .i64 Y.st) (.int .i64 Y.ct) (.int .i64 Y.sh)
          obtain ⟨⟨o0, o1, o2, o3, o4, o5⟩, z0, z1, z2, z3, z4, z5⟩ := rowN6 HV.out
          have hol := HV.out.lt
          refine take_call (i := 8) rfl (by kernel_rfl) (fun K2 hK => ?_)
          go_simp
          clear o0 o1 o2 o3 o4 o5 z0 z1 z2 z3 z4 z5
          generalize ((((((Z2).setCell ⟨xb, 0, none⟩ (.int .i64 Y.hi)).setCell ⟨xb, 1, none⟩ (.int .i64 Y.lo)).setCell ⟨xb, 2, none⟩ (.int .i64 Y.dl)).setCell ⟨xb, 3, none⟩ (.int .i64 Y.st)).setCell ⟨xb, 4, none⟩ (.int .i64 Y.ct)).setCell ⟨xb, 5, none⟩ (.int .i64 Y.sh) = Y9 at zr zk zb  ⊢
          refine hK.out _ _ zb (fun hHeld2 => ?_)
          clear hK hHeld hHeld2
          refine wpAnyH_done (by kernel_rfl) ?_ _
          have HPR : Hid (Below w3.heap.size w3 Y9 ∧ Y9.rowIs xb 40 6 (rowN (alL Y)) ∧ w3.heap.size ≤ xb) := ⟨zb, zr, HXL.out⟩
          clear zr zk zb
          go_wp2_with fail
          go_meet
          case rel => exact ⟨xb, rfl, HPR⟩
      case rest =>
        obtain ⟨xb, rfl, hPR⟩ := hcut
        obtain ⟨V, hV⟩ : ∃ V, V = wc := ⟨_, rfl⟩
        rw [← hV] at hPR ⊢
        clear hV
        have HS4 := Lib.hid (HS3.out.below hPR.out.1)
        have HXR := Lib.hid hPR.out.2.1
        have HXL : Hid (b6 < xb) := Nat.lt_of_lt_of_le HB6.out hPR.out.2.2
        have HPK : Hid (∀ j, j < i + 1 → Al.ActOk (P (j * 2)) (P (j * 2 + 1))) := fun j hj => by
          by_cases e : j = i
          · subst e; have := HA.out; rw [HK.out, HV0.out] at this; exact this
          · exact hP.out j (by omega)
        clear hPR HS3 C0 C1 HZB0 HB6
        obtain ⟨⟨r0, r1, r2, r3, r4, r5, r6, r7⟩, f0, f1, f2, f3, f4, f5, f6, f7⟩ := rowN8 HS4.out.r
        obtain ⟨⟨x0, x1, x2, x3, x4, x5⟩, _⟩ := rowN6 HXR.out
        have hrl := HS4.out.r.lt
        by_cases cs : Y.st = X.st
        · have hst : (Y.st != X.st) = false := by simp [cs]
          have HRG : Hid (Al.rings a P (i + 1) = l) := by
            show Al.rings a P (i + 1) = l
            rw [HL.out]
            refine Al.rings_same ?_
            show (Al.run a P (i + 1)).st = _
            rw [HM.out, ← HX.out]
            exact cs
          clear cs
          have HS5 := Lib.hid (HS4.out.six Y)
          go_wp2_with fail
          go_roundw
          case rel => exact ⟨i + 1, _, by omega, by go_num, by rw [HM.out, HRG.out]; exact HS5, HPK⟩
          case measure => simp [intOf]; omega
        · have hst : (Y.st != X.st) = true := by simp [cs]
          have HRG : Hid (Al.rings a P (i + 1) = l ++ [((i : Int), Y.st)]) := by
            show Al.rings a P (i + 1) = _
            have e : Y.st = (Al.run a P (i + 1)).st := by rw [HM.out]
            rw [HL.out, e]
            refine Al.rings_more ?_
            show ¬ (Al.run a P (i + 1)).st = _
            rw [HM.out, ← HX.out]
            exact cs
          clear cs
          have HRW := Lib.hid (HS4.out.below (nbel_alloc V (.cells #[.int .i64 (i : Int), .int .i64 Y.st] 52)))
          have HM1 := Lib.hid (one_in V 52 (i : Int) Y.st)
          have HXW := Lib.hid (nrow_below HXR.out (nbel_alloc V (.cells #[.int .i64 (i : Int), .int .i64 Y.st] 52)))
          go_wp2_with (at_builtin; refine wpList_append_ns (l := l) (m := [((i : Int), Y.st)]) rfl _ _ 44 rfl 52 i0 (.agg #[.int .i64 0, .int .i64 0]) 16 Tryd.underlying44 hi0 hz0 hz1 hz2 rfl w.heap.size _ rfl HRW.out.l (some ⟨V.heap.size, 0, none⟩) 1 rfl HM1.out (by have := HLN.out; unfold maxLen; simp; omega) (by have := HLN.out; simp; omega) HRW.out.old.size ?_)
          intro v' y3 hown hgrow
          have hown2 : y3.ownsRow w.heap.size 52 2 v' (l ++ [((i : Int), Y.st)]).length (nvs (l ++ [((i : Int), Y.st)])) := by simpa using hown
          obtain ⟨hp, hq⟩ := HRW.out.push hown2 hgrow
          have hx := HXW.out.of_block (hgrow.block _ HXW.out.lt (fun e => own_ne2 HRW.out.l HXW.out e.symm rfl))
          obtain ⟨a', c', e', _⟩ := own_ns hp.l
          obtain ⟨M, hM⟩ : ∃ M, M = (l ++ [((i : Int), Y.st)]).length := ⟨_, rfl⟩
          rw [← hM] at e'
          subst e'
          have HP2 := Lib.hid (hp.six Y)
          have HMM := Lib.hid hM
          have hxn : xb ≠ b6 := by have := HXL.out; omega
          clear hM r0 r1 r2 r3 r4 r5 r6 r7 f0 f1 f2 f3 f4 f5 f6 f7 hrl x0 x1 x2 x3 x4 x5
          obtain ⟨⟨s0, s1, s2, s3, s4, s5, s6, s7⟩, g0, g1, g2, g3, g4, g5, g6, g7⟩ := rowN8 hq
          have hql := hq.lt
          obtain ⟨⟨x0, x1, x2, x3, x4, x5⟩, _⟩ := rowN6 hx
          clear hp hq hx hown hown2 hgrow HS4 HRW HM1 HXR HXW
          go_wp2_with fail
          go_roundw
          case rel => exact ⟨i + 1, _, by omega, by go_num, by rw [HM.out, HRG.out]; exact HP2, HPK⟩
          case measure => simp [intOf]; omega
    · obtain rfl : i = n := by omega
      have HOK : Hid (i ≤ 300 ∧ Al.RunOk a P i) := ⟨HN3.out, HRT.out, hP.out⟩
      have hown := own_rg hS.out.l
      obtain ⟨N, hN⟩ : ∃ N, N = l.length := ⟨_, rfl⟩
      rw [← hN] at hS hown
      have HNL := Lib.hid hN
      obtain ⟨⟨o0, o1, o2, o3, o4, o5, o6, o7⟩, z0, z1, z2, z3, z4, z5, z6, z7⟩ := rowN8 hS.out.o
      obtain ⟨⟨r0, r1, r2, r3, r4, r5, r6, r7⟩, _⟩ := rowN8 hS.out.r
      obtain ⟨Z, hZ⟩ : ∃ Z, Z = ((((((((wr).setCell ⟨w.heap.size + 1, 0, none⟩ (.int .i64 X.hi)).setCell ⟨w.heap.size + 1, 1, none⟩ (.int .i64 X.lo)).setCell ⟨w.heap.size + 1, 2, none⟩ (.int .i64 X.dl)).setCell ⟨w.heap.size + 1, 3, none⟩ (.int .i64 X.st)).setCell ⟨w.heap.size + 1, 4, none⟩ (.int .i64 X.ct)).setCell ⟨w.heap.size + 1, 5, none⟩ (.int .i64 X.sh)).setCell ⟨w.heap.size + 1, 6, none⟩ (.slice la2 N c2)).setCell ⟨w.heap.size + 1, 7, none⟩ (.int .i64 0) := ⟨_, rfl⟩
      have HZR : Hid (Z.rowIs (w.heap.size + 1) 46 8 (rowN (aoL X la2 N c2 0))) := by show World.rowIs _ _ _ _ _; rw [hZ]; exact al8put hS.out.o rfl (.int .i64 X.hi) (.int .i64 X.lo) (.int .i64 X.dl) (.int .i64 X.st) (.int .i64 X.ct) (.int .i64 X.sh) (.slice la2 N c2) (.int .i64 0)
      have HZB : Hid (Below w.heap.size w Z) := by show Below _ _ _; rw [hZ]; exact al8bel (g := w.heap.size + 1) hS.out.old (by omega) (.int .i64 X.hi) (.int .i64 X.lo) (.int .i64 X.dl) (.int .i64 X.st) (.int .i64 X.ct) (.int .i64 X.sh) (.slice la2 N c2) (.int .i64 0)
      have HZG : Hid (RgOwn w.heap.size N la2 c2 (Ln.fl l) Z) := by
        show RgOwn _ _ _ _ _ _
        rw [hZ]
        exact hown.1.same (fun k e _ => al8blk (hown.1.ne hS.out.o e) (.int .i64 X.hi) (.int .i64 X.lo) (.int .i64 X.dl) (.int .i64 X.st) (.int .i64 X.ct) (.int .i64 X.sh) (.slice la2 N c2) (.int .i64 0))
      have HZ := Lib.hid hZ
      clear hZ hS hown hN
      go_wp2_with fail
      rw [← HZ.out]
      obtain ⟨⟨p0, p1, p2, p3, p4, p5, p6, p7⟩, _⟩ := rowN8 HZR.out
      exact bodyPost_ret (v := aoV X la2 N c2 0) (by simp only [results, Tryd.results12]; simp [go_sem, p0, p1, p2, p3, p4, p5, p6, p7]) rfl ⟨Or.inr ⟨HOK.out, la2, c2, by rw [← HX.out, ← HL.out, ← HNL.out], by rw [← HL.out, ← HNL.out]; exact HZG.out⟩, HZB.out⟩
end Go.Proofs.YtmejmpdljckfgaaDoor
