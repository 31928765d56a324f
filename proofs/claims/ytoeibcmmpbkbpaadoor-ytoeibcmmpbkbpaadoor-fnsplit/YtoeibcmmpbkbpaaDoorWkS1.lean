/-
  The contracts of the model's SplitBatch and SettleBatch.
-/
import Derived.Test.YtoeibcmmpbkbpaaDoorWkSt
namespace Go.Proofs.YtoeibcmmpbkbpaaDoor
open Go.RowKit Go.Deep

/-- What stands from round to round of the model's split. -/
structure SsI (w : World) (a : Option Addr) (k : Nat) (wt water : Int) (n : Nat) (f s : Nat → Int) (g1 b5 g2 b6 i1 i2 : Nat) (W : World) : Prop where
  box : W.rowIs w.heap.size 49 2 (r2 (.int .i64 wt) (.slice a n k))
  o4 : W.rowIs (w.heap.size + 1) 53 5 (rowL [.int .i64 0, .slice none 0 0, .int .i64 0, .slice none 0 0, .int .i64 0])
  r5 : W.rowIs b5 49 2 (r2 (.int .i64 water) (.slice (some ⟨g1, 0, none⟩) n n))
  r6 : W.rowIs b6 49 2 (r2 (.int .i64 (wt - water)) (.slice (some ⟨g2, 0, none⟩) n n))
  p1 : ∃ F, W.rowIs g1 2 n F ∧ (∀ j, j < i1 → F j = .int .i64 (s j)) ∧ ∀ j, i1 ≤ j → F j = .int .i64 0
  p2 : InPart g2 n i2 (fun j => f j - s j) W
  bel : Below w.heap.size w W
  num : (w.heap.size + 2 ≤ g1 ∧ w.heap.size + 2 ≤ b5 ∧ w.heap.size + 2 ≤ g2 ∧ w.heap.size + 2 ≤ b6) ∧ (g1 ≠ b5 ∧ g1 ≠ g2 ∧ g1 ≠ b6 ∧ b5 ≠ g2 ∧ b5 ≠ b6 ∧ g2 ≠ b6)
/-- Ahead of the second list. -/
structure SsO (w : World) (a : Option Addr) (k : Nat) (wt water : Int) (n g1 b5 : Nat) (W : World) : Prop where
  box : W.rowIs w.heap.size 49 2 (r2 (.int .i64 wt) (.slice a n k))
  o4 : W.rowIs (w.heap.size + 1) 53 5 (rowL [.int .i64 0, .slice none 0 0, .int .i64 0, .slice none 0 0, .int .i64 0])
  p1 : W.rowIs g1 2 n (fun _ => .int .i64 0)
  r5 : W.rowIs b5 49 2 (r2 (.int .i64 water) (.slice (some ⟨g1, 0, none⟩) n n))
  bel : Below w.heap.size w W
  num : w.heap.size + 2 ≤ g1 ∧ w.heap.size + 2 ≤ b5 ∧ g1 ≠ b5
theorem made0' {w : World} {g : Nat} (e : w.heap.size = g) (n : Nat) : (w.alloc (mkO n)).rowIs g 2 n (fun _ => .int .i64 0) := by subst e; exact World.rowIs_made w (.int .i64 0) n 2
section
variable {w : World} {a : Option Addr} {k : Nat} {wt water : Int} {n : Nat} {f s : Nat → Int} {g1 b5 g2 b6 i1 i2 : Nat} {W : World}
theorem SsI.drew (h : SsI w a k wt water n f s g1 b5 g2 b6 i1 i2 W) : SsI w a k wt water n f s g1 b5 g2 b6 i1 i2 W.drew :=
  have e : ∀ g : Nat, W.drew.heap[g]? = W.heap[g]? := fun _ => rfl
  ⟨h.box.of_block (e _), h.o4.of_block (e _), h.r5.of_block (e _), h.r6.of_block (e _), (by obtain ⟨F, q1, q2⟩ := h.p1; exact ⟨F, q1.of_block (e _), q2⟩), h.p2.block (e _), h.bel.drew, h.num⟩
theorem SsI.put1 (h : SsI w a k wt water n f s g1 b5 g2 b6 i1 i2 W) : SsI w a k wt water n f s g1 b5 g2 b6 (i1 + 1) i2 (W.setCell ⟨g1, i1, none⟩ (.int .i64 (s i1))) := by
  obtain ⟨⟨n1, n2, n3, n4⟩, n5, n6, n7, n8, n9, n10⟩ := h.num
  have e : ∀ g, g ≠ g1 → (W.setCell ⟨g1, i1, none⟩ (.int .i64 (s i1))).heap[g]? = W.heap[g]? := fun g hg => Below.heap_setCell _ ⟨g1, i1, none⟩ _ _ hg
  refine ⟨h.box.of_block (e _ (by omega)), h.o4.of_block (e _ (by omega)), h.r5.of_block (e _ (by omega)), h.r6.of_block (e _ (by omega)), ?_, h.p2.block (e _ (by omega)), h.bel.setCell (p := ⟨g1, i1, none⟩) (by show w.heap.size ≤ g1; omega) _, h.num⟩
  obtain ⟨F, q1, q2, q3⟩ := h.p1
  refine ⟨_, q1.set i1 _, fun j hj => ?_, fun j hj => ?_⟩
  · by_cases e1 : j = i1
    · subst e1; simp
    · simp only [e1, if_false]; exact q2 j (by omega)
  · rw [if_neg (by omega)]; exact q3 j (by omega)
theorem SsI.skip1 (h : SsI w a k wt water n f s g1 b5 g2 b6 i1 i2 W) (h0 : s i1 = 0) : SsI w a k wt water n f s g1 b5 g2 b6 (i1 + 1) i2 W := by
  refine ⟨h.box, h.o4, h.r5, h.r6, ?_, h.p2, h.bel, h.num⟩
  obtain ⟨F, q1, q2, q3⟩ := h.p1
  refine ⟨F, q1, fun j hj => ?_, fun j hj => q3 j (by omega)⟩
  by_cases e1 : j = i1
  · subst e1; rw [h0]; exact q3 j (Nat.le_refl _)
  · exact q2 j (by omega)
theorem SsI.put2 (h : SsI w a k wt water n f s g1 b5 g2 b6 i1 i2 W) : SsI w a k wt water n f s g1 b5 g2 b6 i1 (i2 + 1) (W.setCell ⟨g2, i2, none⟩ (.int .i64 (f i2 - s i2))) := by
  obtain ⟨⟨n1, n2, n3, n4⟩, n5, n6, n7, n8, n9, n10⟩ := h.num
  have e : ∀ g, g ≠ g2 → (W.setCell ⟨g2, i2, none⟩ (.int .i64 (f i2 - s i2))).heap[g]? = W.heap[g]? := fun g hg => Below.heap_setCell _ ⟨g2, i2, none⟩ _ _ hg
  refine ⟨h.box.of_block (e _ (by omega)), h.o4.of_block (e _ (by omega)), h.r5.of_block (e _ (by omega)), h.r6.of_block (e _ (by omega)), ?_, h.p2.put, h.bel.setCell (p := ⟨g2, i2, none⟩) (by show w.heap.size ≤ g2; omega) _, h.num⟩
  obtain ⟨F, q1, q2⟩ := h.p1
  exact ⟨F, q1.of_block (e _ (by omega)), q2⟩
theorem ssI_of {W1 : World} (h : SsO w a k wt water n g1 b5 W1) (hb : Below W1.heap.size W1 W) (h6 : W.rowIs b6 49 2 (r2 (.int .i64 (wt - water)) (.slice (some ⟨g2, 0, none⟩) n n))) (h2 : InPart g2 n 0 (fun j => f j - s j) W) (hg : W1.heap.size ≤ g2 ∧ W1.heap.size ≤ b6 ∧ g2 ≠ b6) :
    SsI w a k wt water n f s g1 b5 g2 b6 0 0 W := by
  have l1 := h.p1.lt
  have l2 := h.r5.lt
  have l3 := h.num
  exact ⟨wrow_below h.box hb, wrow_below h.o4 hb, wrow_below h.r5 hb, h6, ⟨_, wrow_below h.p1 hb, fun j hj => absurd hj (Nat.not_lt_zero _), fun _ _ => rfl⟩, h2, h.bel.trans (hb.mono h.bel.size), by omega⟩
theorem ssI_a {W1 : World} (h : SsO w a k wt water n g1 b5 W1) : SsI w a k wt water n f s g1 b5 W1.heap.size (W1.heap.size + 1) 0 0 (((W1.alloc (mkO n)).alloc (.cells #[.int .i64 (wt - water), .slice (some ⟨W1.heap.size, 0, none⟩) n n] 49)).drew) := by
  refine SsI.drew (ssI_of h (((Below.refl _ _).alloc (Nat.le_refl _) _).alloc (by simp) _) (row2' (by simp) _ _ _) ((made_part W1 n _).block ((bel_alloc _ _).block _ (by simp))) (by omega))
theorem ssI_b {W1 : World} (h : SsO w a k wt water n g1 b5 W1) : SsI w a k wt water n f s g1 b5 (W1.heap.size + 1) W1.heap.size 0 0 (((W1.alloc (.cells #[.int .i64 (wt - water), .slice (some ⟨W1.heap.size + 1, 0, none⟩) n n] 49)).alloc (mkO n)).drew) := by
  refine SsI.drew (ssI_of h (((Below.refl _ _).alloc (Nat.le_refl _) _).alloc (by simp) _) (wrow_below (row2 _ _ _ _) (bel_alloc _ _)) (made_part' (by simp) n _) (by omega))
theorem SsI.full (h : SsI w a k wt water n f s g1 b5 g2 b6 n n W) : InBlk g1 n s W := by
  obtain ⟨F, q1, q2, _⟩ := h.p1
  exact ⟨n, F, Nat.le_refl _, q1, fun j hj => by rw [q2 j hj]; rfl⟩
end
set_option maxRecDepth 100000 in
set_option maxHeartbeats 8000000 in
theorem sSplit_any (b : Wk.Bt) (a : Option Addr) (k : Nat) (water : Int) (w : World) (h : IntsAt a b.n b.f w) (hn : b.n ≤ 4194304) :
    Calls Tryd.prog 24 #[btV b.wt a b.n k, .int .i64 water] w fun e w' => PaEnd w.heap.size (Wk.split b water) e w' ∧ Below w.heap.size w w' := by
  obtain ⟨wt, n, f⟩ := b
  obtain ⟨b1, hb1⟩ := bool_of (Wk.OkB wt n f)
  have K1 := Lib.hid hb1
  obtain ⟨W, hW⟩ : ∃ W, W = (w.alloc (.cells #[.int .i64 wt, .slice a n k] 49)).alloc (.cells #[.int .i64 0, .slice none 0 0, .int .i64 0, .slice none 0 0, .int .i64 0] 53) := ⟨_, rfl⟩
  have hB : Below w.heap.size w W := by rw [hW]; exact ((Below.refl _ _).alloc (Nat.le_refl _) _).alloc (by simp) _
  have RB : W.rowIs w.heap.size 49 2 (r2 (.int .i64 wt) (.slice a n k)) := by rw [hW]; exact wrow_below (row2 _ _ _ _) (bel_alloc _ _)
  have RO : W.rowIs (w.heap.size + 1) 53 5 (rowL [.int .i64 0, .slice none 0 0, .int .i64 0, .slice none 0 0, .int .i64 0]) := by
    rw [hW]
    have := rowL_alloc (w.alloc (.cells #[.int .i64 wt, .slice a n k] 49)) [.int .i64 0, .slice none 0 0, .int .i64 0, .slice none 0 0, .int .i64 0] 53
    rwa [World.size_alloc] at this
  have HW := Lib.hid hW
  have HB := Lib.hid hB
  have HRB := Lib.hid RB
  have HRO := Lib.hid RO
  have H := Lib.hid h
  have HN := Lib.hid hn
  clear hW hB RO RB h hn hb1
  go_enter Tryd.func24, Tryd.ntmps24
  go_wp2_with fail
  rw [← HW.out]
  refine ((sBRight_any wt a n k f _ (H.out.below HB.out) HN.out).mono fun e w' ⟨g1, g2⟩ => ⟨g1.eq K1.out, g2⟩ : Calls Tryd.prog 84 #[btV wt a n k] W fun e w' => e = .returned (.bool b1) ∧ Gr W w').mono ?_
  rintro e W1 ⟨rfl, hG⟩
  have HB1 : Hid (Below w.heap.size w W1) := HB.out.trans (hG.bel.mono HB.out.size)
  have HRB1 := Lib.hid (wrow_below HRB.out hG.bel)
  have HR2 := Lib.hid (wrow_below HRO.out hG.bel)
  clear hG HRB HRO HB HW
  obtain ⟨⟨x0, x1⟩, _⟩ := row2_cells HRB1.out
  have o0 := HR2.out.cell (i := 0) (by omega)
  have z0 := HR2.out.frozen 0
  have o1 := HR2.out.cell (i := 1) (by omega)
  have z1 := HR2.out.frozen 1
  have o2 := HR2.out.cell (i := 2) (by omega)
  have z2 := HR2.out.frozen 2
  have o3 := HR2.out.cell (i := 3) (by omega)
  have z3 := HR2.out.frozen 3
  have o4 := HR2.out.cell (i := 4) (by omega)
  have z4 := HR2.out.frozen 4
  have hsz : w.heap.size + 1 < W1.heap.size := HR2.out.lt
  have bad : ¬ Wk.SplitOk ⟨wt, n, f⟩ water → Hid (Wk.split ⟨wt, n, f⟩ water = Wk.bad 1) := fun h => by show _ = _; unfold Wk.split; rw [if_neg h]
  cases b1 with
  | false =>
    have hP := bad (fun h => by have := K1.out.2 h.1; cases this)
    clear bad
    go_wp2_with fail
    refine bodyPost_ret (v := .agg #[.int .i64 0, .slice none 0 0, .int .i64 0, .slice none 0 0, .int .i64 1]) ?_ rfl ⟨by rw [hP.out]; exact PaEnd.bad _ _ _, below_put5 HB1.out (by omega) _ _ _ _ _⟩
    simp only [results, Tryd.results24]
    obtain ⟨x0, x1, x2, x3, x4⟩ := put5_cells HR2.out (.int .i64 0) (.slice none 0 0) (.int .i64 0) (.slice none 0 0) (.int .i64 1)
    simp [go_sem, x0, x1, x2, x3, x4]
  | true =>
  have hok1 : Hid (Wk.OkB wt n f) := by show Wk.OkB wt n f; have := K1.out; simpa using this
  by_cases hw0 : water < 0
  · have hP := bad (fun h => by have := h.2.1; omega)
    clear bad
    go_wp2_with fail
    refine bodyPost_ret (v := .agg #[.int .i64 0, .slice none 0 0, .int .i64 0, .slice none 0 0, .int .i64 1]) ?_ rfl ⟨by rw [hP.out]; exact PaEnd.bad _ _ _, below_put5 HB1.out (by omega) _ _ _ _ _⟩
    simp only [results, Tryd.results24]
    obtain ⟨x0, x1, x2, x3, x4⟩ := put5_cells HR2.out (.int .i64 0) (.slice none 0 0) (.int .i64 0) (.slice none 0 0) (.int .i64 1)
    simp [go_sem, x0, x1, x2, x3, x4]
  by_cases hw1 : wt < water
  · have hP := bad (fun h => by have e : water ≤ wt := h.2.2; omega)
    clear bad
    go_wp2_with fail
    refine bodyPost_ret (v := .agg #[.int .i64 0, .slice none 0 0, .int .i64 0, .slice none 0 0, .int .i64 1]) ?_ rfl ⟨by rw [hP.out]; exact PaEnd.bad _ _ _, below_put5 HB1.out (by omega) _ _ _ _ _⟩
    simp only [results, Tryd.results24]
    obtain ⟨x0, x1, x2, x3, x4⟩ := put5_cells HR2.out (.int .i64 0) (.slice none 0 0) (.int .i64 0) (.slice none 0 0) (.int .i64 1)
    simp [go_sem, x0, x1, x2, x3, x4]
  clear bad
  have HOK : Hid (Wk.SplitOk ⟨wt, n, f⟩ water) := ⟨hok1.out, by omega, by show water ≤ wt; omega⟩
  have hn6 : n ≤ 6 := hok1.out.2.1
  have hwt := hok1.out.1.2
  have hmk := run_make_row' (P := Tryd.prog) 27 2 (.int .i64 0) 8 Tryd.underlying27 info_i64 rfl .i64 .i64 n (by omega) (by omega)
  obtain ⟨W2, hW2⟩ : ∃ W2, W2 = (W1.alloc (mkO n)).alloc (.cells #[.int .i64 water, .slice (some ⟨W1.heap.size, 0, none⟩) n n] 49) := ⟨_, rfl⟩
  have hb2 : Below W1.heap.size W1 W2 := by rw [hW2]; exact ((Below.refl _ _).alloc (Nat.le_refl _) _).alloc (by simp) _
  have HT : Hid (SsO w a k wt water n W1.heap.size (W1.heap.size + 1) W2) := by
    refine ⟨wrow_below HRB1.out hb2, wrow_below HR2.out hb2, ?_, ?_, HB1.out.trans (hb2.mono HB1.out.size), by omega⟩
    · rw [hW2]; exact wrow_below (made0' rfl n) (bel_alloc _ _)
    · rw [hW2]; exact row2' (by simp) _ _ _
  have HW2 := Lib.hid hW2
  clear hW2 hb2
  go_wp2_with fail
  rw [← HW2.out]
  clear x0 x1 o0 z0 o1 z1 o2 z2 o3 z3 o4 z4 hsz
  obtain ⟨g1, hg1⟩ : ∃ g1, g1 = W1.heap.size := ⟨_, rfl⟩
  obtain ⟨b5, hb5⟩ : ∃ b5, b5 = W1.heap.size + 1 := ⟨_, rfl⟩
  rw [← hb5, ← hg1] at HT
  rw [← hb5]
  clear hb5 hg1 HW2
  obtain ⟨⟨x0, x1⟩, _⟩ := row2_cells HT.out.box
  have hlt : w.heap.size < W2.heap.size := HT.out.box.lt
  go_cut [6] (fun p W => ∃ g2 b6, p = .pointer (some ⟨b6, 0, none⟩) ∧ Hid (SsI w a k wt water n f (Wk.share ⟨wt, n, f⟩ water) g1 b5 g2 b6 0 0 W))
  case first =>
    go_region
    all_goals go_wp2_with fail
    all_goals go_meet
    all_goals (case rel => first | exact ⟨_, _, rfl, ssI_a HT.out⟩ | exact ⟨_, _, rfl, ssI_b HT.out⟩)
  case rest =>
    obtain ⟨g2, b6, rfl, hC⟩ := hcut
    clear x0 x1 hlt HT hmk
    go_wp2_with fail
    go_loopw [7] (fun iv wr => ∃ (i : Nat), i ≤ n ∧ iv = .int .i64 i ∧ Hid (SsI w a k wt water n f (Wk.share ⟨wt, n, f⟩ water) g1 b5 g2 b6 i i wr)) (fun iv _ => n - (intOf iv).toNat)
    case atStart => exact ⟨0, Nat.zero_le _, rfl, hC⟩
    case round =>
      obtain ⟨i, hi, rfl, hT⟩ := hrel
      clear hC
      obtain ⟨⟨x0, x1⟩, _⟩ := row2_cells hT.out.box
      have lb : w.heap.size < wr.heap.size := hT.out.box.lt
      by_cases hlt : i < n
      · have hltz : (i : Int) < (n : Int) := by omega
        obtain ⟨bb, rfl, c0⟩ := (H.out.below hT.out.bel).at_ hlt
        obtain ⟨⟨u0, u1⟩, _⟩ := row2_cells hT.out.r5
        have hsb := Wk.share_bounds HOK.out (j := i) hlt
        have hfb := hok1.out.2.2 i hlt
        have l5 : b5 < wr.heap.size := hT.out.r5.lt
        have hnum := hT.out.num
        have d1 : g1 ≠ w.heap.size := by omega
        have d2 : g1 ≠ b5 := by omega
        have d3 : g2 ≠ w.heap.size := by omega
        have d4 : g2 ≠ b5 := by omega
        have d5 : g2 ≠ b6 := by omega
        have d6 : g2 ≠ g1 := by omega
        have lbb : bb < w.heap.size ∨ True := Or.inr trivial
        clear hnum lbb
        by_cases hwz : 0 < wt
        · obtain ⟨hm0, hm1⟩ := Wk.mul_le hfb.1 (show 0 ≤ water by omega) hfb.2 (show water ≤ 1000000000 by omega)
          have hm2 : f i * water ≤ 1000000000000000000 := by omega
          have hne0 : (wt == 0) = false := by simp; omega
          have hsh : f i * water / wt = Wk.share ⟨wt, n, f⟩ water i := by
            unfold Wk.share
            rw [if_neg (by show ¬ wt = 0; omega)]
          obtain ⟨F1, q1, q2, q3⟩ := hT.out.p1
          have y1 := q1.cell hlt
          have z1 := q1.frozen i
          have HT6 := Lib.hid hT.out.put1.drew
          have lg1 : g1 < wr.heap.size := q1.lt
          clear q1 q2 q3 hm1
          go_wp2_with fail
          go_region
          obtain ⟨W6, hW6⟩ : ∃ W6, W6 = (wr.setCell ⟨g1, i, none⟩ (.int .i64 (Wk.share ⟨wt, n, f⟩ water i))).drew := ⟨_, rfl⟩
          rw [← hW6] at HT6 ⊢
          clear hW6 y1 z1 x0 x1 u0 u1 c0 l5 lb lg1 hT
          obtain ⟨⟨x0, x1⟩, _⟩ := row2_cells HT6.out.box
          obtain ⟨⟨u0, u1⟩, _⟩ := row2_cells HT6.out.r5
          obtain ⟨⟨v0, v1⟩, _⟩ := row2_cells HT6.out.r6
          obtain ⟨bb2, ebb, c0⟩ := (H.out.below HT6.out.bel).at_ hlt
          obtain rfl : bb = bb2 := by simpa using ebb
          have y1 : W6.cell? ⟨g1, i, none⟩ = some (.int .i64 (Wk.share ⟨wt, n, f⟩ water i)) := by
            obtain ⟨F1, q1, q2, _⟩ := HT6.out.p1
            rw [q1.cell hlt, q2 i (by omega)]
          obtain ⟨⟨w2, y2⟩, z2⟩ := HT6.out.p2.at_ hlt
          have HT7 := Lib.hid HT6.out.put2.drew
          have l5 : b5 < W6.heap.size := HT6.out.r5.lt
          have l6 : b6 < W6.heap.size := HT6.out.r6.lt
          have lb : w.heap.size < W6.heap.size := HT6.out.box.lt
          obtain ⟨S, hS⟩ : ∃ S, S = Wk.share ⟨wt, n, f⟩ water i := ⟨_, rfl⟩
          rw [← hS] at y1 hsb
          have HSS := Lib.hid hS
          obtain ⟨hs0, hs1⟩ := hsb
          obtain ⟨hf0, hf1⟩ := hfb
          clear hS
          go_wp2_with fail
          go_region
          rw [HSS.out]
          clear x0 x1 u0 u1 v0 v1 c0 y1 y2 z2 l5 l6 lb HT6
          go_wp2_with fail
          go_roundw
          case rel => exact ⟨i + 1, by omega, by go_num, HT7⟩
          case measure => simp [intOf]; omega
        · have hwz2 : wt = 0 := by have := hok1.out.1.1; omega
          have hsh0 : Wk.share ⟨wt, n, f⟩ water i = 0 := by
            unfold Wk.share
            rw [if_pos (by show wt = 0; omega)]
          have HT6 := Lib.hid (hT.out.skip1 hsh0)
          obtain ⟨W6, hW6⟩ : ∃ W6, W6 = wr := ⟨_, rfl⟩
          rw [← hW6] at HT6 x0 x1 lb ⊢
          clear hW6 u0 u1 c0 l5 hT hwz2 hsh0
          clear x0 x1 lb
          obtain ⟨⟨x0, x1⟩, _⟩ := row2_cells HT6.out.box
          obtain ⟨⟨u0, u1⟩, _⟩ := row2_cells HT6.out.r5
          obtain ⟨⟨v0, v1⟩, _⟩ := row2_cells HT6.out.r6
          obtain ⟨bb2, ebb, c0⟩ := (H.out.below HT6.out.bel).at_ hlt
          obtain rfl : bb = bb2 := by simpa using ebb
          have y1 : W6.cell? ⟨g1, i, none⟩ = some (.int .i64 (Wk.share ⟨wt, n, f⟩ water i)) := by
            obtain ⟨F1, q1, q2, _⟩ := HT6.out.p1
            rw [q1.cell hlt, q2 i (by omega)]
          obtain ⟨⟨w2, y2⟩, z2⟩ := HT6.out.p2.at_ hlt
          have HT7 := Lib.hid HT6.out.put2.drew
          have l5 : b5 < W6.heap.size := HT6.out.r5.lt
          have l6 : b6 < W6.heap.size := HT6.out.r6.lt
          have lb : w.heap.size < W6.heap.size := HT6.out.box.lt
          obtain ⟨S, hS⟩ : ∃ S, S = Wk.share ⟨wt, n, f⟩ water i := ⟨_, rfl⟩
          rw [← hS] at y1 hsb
          have HSS := Lib.hid hS
          obtain ⟨hs0, hs1⟩ := hsb
          obtain ⟨hf0, hf1⟩ := hfb
          clear hS
          go_wp2_with fail
          go_region
          rw [HSS.out]
          clear x0 x1 u0 u1 v0 v1 c0 y1 y2 z2 l5 l6 lb HT6
          go_wp2_with fail
          go_roundw
          case rel => exact ⟨i + 1, by omega, by go_num, HT7⟩
          case measure => simp [intOf]; omega
      · obtain rfl : i = n := by omega
        obtain ⟨⟨u0, u1⟩, _⟩ := row2_cells hT.out.r5
        obtain ⟨⟨v0, v1⟩, _⟩ := row2_cells hT.out.r6
        have HR3 := Lib.hid hT.out.o4
        have o0 := HR3.out.cell (i := 0) (by omega)
        have z0 := HR3.out.frozen 0
        have o1 := HR3.out.cell (i := 1) (by omega)
        have z1 := HR3.out.frozen 1
        have o2 := HR3.out.cell (i := 2) (by omega)
        have z2 := HR3.out.frozen 2
        have o3 := HR3.out.cell (i := 3) (by omega)
        have z3 := HR3.out.frozen 3
        have o4 := HR3.out.cell (i := 4) (by omega)
        have z4 := HR3.out.frozen 4
        go_wp2_with fail
        have hnum := hT.out.num
        have e9 : ∀ g, g ≠ w.heap.size + 1 → (put5 wr (w.heap.size + 1) (.int .i64 water) (.slice (some ⟨g1, 0, none⟩) i i) (.int .i64 (wt - water)) (.slice (some ⟨g2, 0, none⟩) i i) (.int .i64 0)).heap[g]? = wr.heap[g]? := fun g hg => put5_far _ hg _ _ _ _ _
        have hP : Wk.split ⟨wt, i, f⟩ water = ⟨⟨water, i, Wk.share ⟨wt, i, f⟩ water⟩, Wk.cut ⟨wt, i, f⟩ water (Wk.share ⟨wt, i, f⟩ water), 0⟩ := by unfold Wk.split; rw [if_pos HOK.out]
        refine bodyPost_ret (v := paV (Wk.split ⟨wt, i, f⟩ water) (some ⟨g1, 0, none⟩) i (some ⟨g2, 0, none⟩) i) ?_ rfl ⟨?_, below_put5 hT.out.bel (by omega) _ _ _ _ _⟩
        · rw [hP]
          simp only [results, Tryd.results24]
          obtain ⟨x0, x1, x2, x3, x4⟩ := put5_cells HR3.out (.int .i64 water) (.slice (some ⟨g1, 0, none⟩) i i) (.int .i64 (wt - water)) (.slice (some ⟨g2, 0, none⟩) i i) (.int .i64 0)
          simp [go_sem, x0, x1, x2, x3, x4, Wk.cut]
        · rw [hP]
          exact PaEnd.two (A := ⟨⟨water, i, Wk.share ⟨wt, i, f⟩ water⟩, Wk.cut ⟨wt, i, f⟩ water (Wk.share ⟨wt, i, f⟩ water), 0⟩) (hT.out.full.block (e9 _ (by omega))) (hT.out.p2.full.block (e9 _ (by omega))) ⟨by omega, by omega, by omega⟩ i i
end Go.Proofs.YtoeibcmmpbkbpaaDoor
