/-
  The contract of the model's SettleBatch.
-/
import Derived.Test.YtcjeieagpcphjaaDoorWkS1
namespace Go.Proofs.YtcjeieagpcphjaaDoor
open Go.RowKit Go.Deep

/-- What stands from round to round of the model's settling. -/
structure SeI (w : World) (a : Option Addr) (k : Nat) (wt : Int) (n : Nat) (f s : Nat → Int) (g1 b5 g2 b6 i1 i2 : Nat) (W : World) : Prop where
  box : W.rowIs w.heap.size 28 2 (r2 (.int .i64 wt) (.slice a n k))
  o4 : W.rowIs (w.heap.size + 1) 51 5 (rowL [.int .i64 0, .slice none 0 0, .int .i64 0, .slice none 0 0, .int .i64 0])
  r5 : W.rowIs b5 28 2 (r2 (.int .i64 wt) (.slice (some ⟨g1, 0, none⟩) n n))
  r6 : W.rowIs b6 28 2 (r2 (.int .i64 0) (.slice (some ⟨g2, 0, none⟩) n n))
  p1 : InPart g1 n i1 (fun j => f j - s j) W
  p2 : InPart g2 n i2 s W
  bel : Below w.heap.size w W
  num : (w.heap.size + 2 ≤ g1 ∧ w.heap.size + 2 ≤ b5 ∧ w.heap.size + 2 ≤ g2 ∧ w.heap.size + 2 ≤ b6) ∧ (g1 ≠ b5 ∧ g1 ≠ g2 ∧ g1 ≠ b6 ∧ b5 ≠ g2 ∧ b5 ≠ b6 ∧ g2 ≠ b6)
/-- Behind the first list. -/
structure SeO (w : World) (a : Option Addr) (k : Nat) (wt : Int) (n : Nat) (F : Nat → Int) (g1 b5 : Nat) (W : World) : Prop where
  box : W.rowIs w.heap.size 28 2 (r2 (.int .i64 wt) (.slice a n k))
  o4 : W.rowIs (w.heap.size + 1) 51 5 (rowL [.int .i64 0, .slice none 0 0, .int .i64 0, .slice none 0 0, .int .i64 0])
  p1 : InPart g1 n 0 F W
  r5 : W.rowIs b5 28 2 (r2 (.int .i64 wt) (.slice (some ⟨g1, 0, none⟩) n n))
  bel : Below w.heap.size w W
  num : w.heap.size + 2 ≤ g1 ∧ w.heap.size + 2 ≤ b5 ∧ g1 ≠ b5
section
variable {w : World} {a : Option Addr} {k : Nat} {wt : Int} {n : Nat} {f s : Nat → Int} {g1 b5 g2 b6 i1 i2 : Nat} {W : World}
theorem SeI.drew (h : SeI w a k wt n f s g1 b5 g2 b6 i1 i2 W) : SeI w a k wt n f s g1 b5 g2 b6 i1 i2 W.drew :=
  have e : ∀ g : Nat, W.drew.heap[g]? = W.heap[g]? := fun _ => rfl
  ⟨h.box.of_block (e _), h.o4.of_block (e _), h.r5.of_block (e _), h.r6.of_block (e _), h.p1.block (e _), h.p2.block (e _), h.bel.drew, h.num⟩
theorem SeI.put1 (h : SeI w a k wt n f s g1 b5 g2 b6 i1 i2 W) : SeI w a k wt n f s g1 b5 g2 b6 (i1 + 1) i2 (W.setCell ⟨g1, i1, none⟩ (.int .i64 (f i1 - s i1))) := by
  obtain ⟨⟨n1, n2, n3, n4⟩, n5, n6, n7, n8, n9, n10⟩ := h.num
  have e : ∀ g, g ≠ g1 → (W.setCell ⟨g1, i1, none⟩ (.int .i64 (f i1 - s i1))).heap[g]? = W.heap[g]? := fun g hg => Below.heap_setCell _ ⟨g1, i1, none⟩ _ _ hg
  exact ⟨h.box.of_block (e _ (by omega)), h.o4.of_block (e _ (by omega)), h.r5.of_block (e _ (by omega)), h.r6.of_block (e _ (by omega)), h.p1.put, h.p2.block (e _ (by omega)), h.bel.setCell (p := ⟨g1, i1, none⟩) (by show w.heap.size ≤ g1; omega) _, h.num⟩
theorem SeI.put2 (h : SeI w a k wt n f s g1 b5 g2 b6 i1 i2 W) : SeI w a k wt n f s g1 b5 g2 b6 i1 (i2 + 1) (W.setCell ⟨g2, i2, none⟩ (.int .i64 (s i2))) := by
  obtain ⟨⟨n1, n2, n3, n4⟩, n5, n6, n7, n8, n9, n10⟩ := h.num
  have e : ∀ g, g ≠ g2 → (W.setCell ⟨g2, i2, none⟩ (.int .i64 (s i2))).heap[g]? = W.heap[g]? := fun g hg => Below.heap_setCell _ ⟨g2, i2, none⟩ _ _ hg
  exact ⟨h.box.of_block (e _ (by omega)), h.o4.of_block (e _ (by omega)), h.r5.of_block (e _ (by omega)), h.r6.of_block (e _ (by omega)), h.p1.block (e _ (by omega)), h.p2.put, h.bel.setCell (p := ⟨g2, i2, none⟩) (by show w.heap.size ≤ g2; omega) _, h.num⟩
theorem seI_of {W1 : World} (h : SeO w a k wt n (fun j => f j - s j) g1 b5 W1) : SeI w a k wt n f s g1 b5 W1.heap.size (W1.heap.size + 1) 0 0 ((W1.alloc (mkO n)).alloc (.cells #[.int .i64 0, .slice (some ⟨W1.heap.size, 0, none⟩) n n] 28)) := by
  have l1 := h.p1.lt
  have l2 := h.r5.lt
  have l3 := h.num
  have hb : Below W1.heap.size W1 ((W1.alloc (mkO n)).alloc (.cells #[.int .i64 0, .slice (some ⟨W1.heap.size, 0, none⟩) n n] 28)) := ((Below.refl _ _).alloc (Nat.le_refl _) _).alloc (by simp) _
  exact ⟨wrow_below h.box hb, wrow_below h.o4 hb, wrow_below h.r5 hb, row2' (by simp) _ _ _, h.p1.block (hb.block _ l1), (made_part W1 n _).block ((bel_alloc _ _).block _ (by simp)), h.bel.trans (hb.mono h.bel.size), by omega⟩
end
theorem seO_of {w : World} {a : Option Addr} {k : Nat} {wt : Int} {n : Nat} {F : Nat → Int} {g1 b5 : Nat} {W1 W : World} (h0 : W1.rowIs w.heap.size 28 2 (r2 (.int .i64 wt) (.slice a n k))) (h1 : W1.rowIs (w.heap.size + 1) 51 5 (rowL [.int .i64 0, .slice none 0 0, .int .i64 0, .slice none 0 0, .int .i64 0])) (hB : Below w.heap.size w W1) (hb : Below W1.heap.size W1 W) (hp : InPart g1 n 0 F W) (h5 : W.rowIs b5 28 2 (r2 (.int .i64 wt) (.slice (some ⟨g1, 0, none⟩) n n))) (hg : W1.heap.size ≤ g1 ∧ W1.heap.size ≤ b5 ∧ g1 ≠ b5) : SeO w a k wt n F g1 b5 W := by
  have l1 := h1.lt
  exact ⟨wrow_below h0 hb, wrow_below h1 hb, hp, h5, hB.trans (hb.mono hB.size), by omega⟩
theorem seO_a {w : World} {a : Option Addr} {k : Nat} {wt : Int} {n : Nat} (F : Nat → Int) {W1 : World} (h0 : W1.rowIs w.heap.size 28 2 (r2 (.int .i64 wt) (.slice a n k))) (h1 : W1.rowIs (w.heap.size + 1) 51 5 (rowL [.int .i64 0, .slice none 0 0, .int .i64 0, .slice none 0 0, .int .i64 0])) (hB : Below w.heap.size w W1) :
    SeO w a k wt n F W1.heap.size (W1.heap.size + 1) (((W1.alloc (mkO n)).alloc (.cells #[.int .i64 wt, .slice (some ⟨W1.heap.size, 0, none⟩) n n] 28)).drew) :=
  seO_of h0 h1 hB ((((Below.refl _ _).alloc (Nat.le_refl _) _).alloc (by simp) _).drew) (((made_part W1 n _).block ((bel_alloc _ _).block _ (by simp))).block rfl) ((row2' (by simp) _ _ _).of_block rfl) (by omega)
theorem seO_b {w : World} {a : Option Addr} {k : Nat} {wt : Int} {n : Nat} (F : Nat → Int) {W1 : World} (h0 : W1.rowIs w.heap.size 28 2 (r2 (.int .i64 wt) (.slice a n k))) (h1 : W1.rowIs (w.heap.size + 1) 51 5 (rowL [.int .i64 0, .slice none 0 0, .int .i64 0, .slice none 0 0, .int .i64 0])) (hB : Below w.heap.size w W1) :
    SeO w a k wt n F (W1.heap.size + 1) W1.heap.size (((W1.alloc (.cells #[.int .i64 wt, .slice (some ⟨W1.heap.size + 1, 0, none⟩) n n] 28)).alloc (mkO n)).drew) :=
  seO_of h0 h1 hB ((((Below.refl _ _).alloc (Nat.le_refl _) _).alloc (by simp) _).drew) ((made_part' (by simp) n _).block rfl) ((wrow_below (row2 _ _ _ _) (bel_alloc _ _)).of_block rfl) (by omega)
set_option maxRecDepth 100000 in
set_option maxHeartbeats 8000000 in
theorem sSettle_any (b : Wk.Bt) (a : Option Addr) (k : Nat) (ma : Option Addr) (m mk : Nat) (mi : Nat → Int) (w : World) (h : IntsAt a b.n b.f w) (hn : b.n ≤ 4194304) (hM : IntsAt ma m mi w) (hm : m ≤ 4194304) :
    Calls Tryd.prog 21 #[btV b.wt a b.n k, .slice ma m mk] w fun e w' => PaEnd w.heap.size (Wk.settle b m mi) e w' ∧ Below w.heap.size w w' := by
  obtain ⟨wt, n, f⟩ := b
  obtain ⟨b1, hb1⟩ := bool_of (Wk.OkB wt n f)
  obtain ⟨b2, hb2⟩ := bool_of (Wk.MillsOk m mi)
  have K1 := Lib.hid hb1
  have K2 := Lib.hid hb2
  obtain ⟨W, hW⟩ : ∃ W, W = (w.alloc (.cells #[.int .i64 wt, .slice a n k] 28)).alloc (.cells #[.int .i64 0, .slice none 0 0, .int .i64 0, .slice none 0 0, .int .i64 0] 51) := ⟨_, rfl⟩
  have hB : Below w.heap.size w W := by rw [hW]; exact ((Below.refl _ _).alloc (Nat.le_refl _) _).alloc (by simp) _
  have RB : W.rowIs w.heap.size 28 2 (r2 (.int .i64 wt) (.slice a n k)) := by rw [hW]; exact wrow_below (row2 _ _ _ _) (bel_alloc _ _)
  have RO : W.rowIs (w.heap.size + 1) 51 5 (rowL [.int .i64 0, .slice none 0 0, .int .i64 0, .slice none 0 0, .int .i64 0]) := by
    rw [hW]
    have := rowL_alloc (w.alloc (.cells #[.int .i64 wt, .slice a n k] 28)) [.int .i64 0, .slice none 0 0, .int .i64 0, .slice none 0 0, .int .i64 0] 51
    rwa [World.size_alloc] at this
  have HW := Lib.hid hW
  have HB := Lib.hid hB
  have HRB := Lib.hid RB
  have HRO := Lib.hid RO
  have H := Lib.hid h
  have HN := Lib.hid hn
  have HM := Lib.hid hM
  have HMM := Lib.hid hm
  clear hW hB RO RB h hn hb1 hb2 hM hm
  by_cases h4 : 400 < m
  · have hz4 : (400 : Int) < (m : Int) := by omega
    have hP : Hid (Wk.settle ⟨wt, n, f⟩ m mi = Wk.bad 2) := by show _ = _; unfold Wk.settle; rw [if_pos h4]
    have HR2 := HRO
    go_enter Tryd.func21, Tryd.ntmps21
    go_wp2_with fail
    have hB0 := HB.out
    rw [HW.out] at hB0
    refine bodyPost_ret (v := .agg #[.int .i64 0, .slice none 0 0, .int .i64 0, .slice none 0 0, .int .i64 2]) ?_ rfl ⟨by rw [hP.out]; exact PaEnd.bad _ _ _, ?_⟩
    · simp [results, Tryd.results21, go_sem]
    · exact ((Below.refl _ _).alloc (Nat.le_refl _) _).alloc (by simp) _
  have hz4 : ¬ (400 : Int) < (m : Int) := by omega
  have H4 := Lib.hid h4
  clear h4
  go_enter Tryd.func21, Tryd.ntmps21
  go_wp2_with fail
  rw [← HW.out]
  refine ((sBRight_any wt a n k f _ (H.out.below HB.out) HN.out).mono fun e w' ⟨g1, g2⟩ => ⟨g1.eq K1.out, g2⟩ : Calls Tryd.prog 38 #[btV wt a n k] W fun e w' => e = .returned (.bool b1) ∧ Gr W w').mono ?_
  rintro e W1 ⟨rfl, hG⟩
  have HB1 : Hid (Below w.heap.size w W1) := HB.out.trans (hG.bel.mono HB.out.size)
  have HRB1 := Lib.hid (wrow_below HRB.out hG.bel)
  have HR2 := Lib.hid (wrow_below HRO.out hG.bel)
  clear hG HRB HRO HB HW
  obtain ⟨⟨x0, x1⟩, _⟩ := row2_cells HRB1.out
  have o0 := HR2.out.cell (i := 0) (by omega)
  have z0 := HR2.out.frozen 0
  have o1 := HR2.out.cell (i := 1) (by omega)
  have z1 := HR2.out.frozen 1
  have o2 := HR2.out.cell (i := 2) (by omega)
  have z2 := HR2.out.frozen 2
  have o3 := HR2.out.cell (i := 3) (by omega)
  have z3 := HR2.out.frozen 3
  have o4 := HR2.out.cell (i := 4) (by omega)
  have z4 := HR2.out.frozen 4
  have hsz : w.heap.size + 1 < W1.heap.size := HR2.out.lt
  have bad : ¬ Wk.SettleOk ⟨wt, n, f⟩ m mi → Hid (Wk.settle ⟨wt, n, f⟩ m mi = Wk.bad 1) := fun h => by show _ = _; unfold Wk.settle; rw [if_neg H4.out, if_neg h]
  cases b1 with
  | false =>
    have hP := bad (fun h => by have := K1.out.2 h.1; cases this)
    clear bad
    go_wp2_with fail
    refine bodyPost_ret (v := .agg #[.int .i64 0, .slice none 0 0, .int .i64 0, .slice none 0 0, .int .i64 1]) ?_ rfl ⟨by rw [hP.out]; exact PaEnd.bad _ _ _, below_put5 HB1.out (by omega) _ _ _ _ _⟩
    simp only [results, Tryd.results21]
    obtain ⟨x0, x1, x2, x3, x4⟩ := put5_cells HR2.out (.int .i64 0) (.slice none 0 0) (.int .i64 0) (.slice none 0 0) (.int .i64 1)
    simp [go_sem, x0, x1, x2, x3, x4]
  | true =>
  have hok1 : Hid (Wk.OkB wt n f) := by show Wk.OkB wt n f; have := K1.out; simpa using this
  by_cases hmn : m = n
  case neg =>
    have hzn : ((m : Int) != (n : Int)) = true := by simp; omega
    have hP := bad (fun h => hmn h.2.1)
    clear bad
    go_wp2_with fail
    refine bodyPost_ret (v := .agg #[.int .i64 0, .slice none 0 0, .int .i64 0, .slice none 0 0, .int .i64 1]) ?_ rfl ⟨by rw [hP.out]; exact PaEnd.bad _ _ _, below_put5 HB1.out (by omega) _ _ _ _ _⟩
    simp only [results, Tryd.results21]
    obtain ⟨x0, x1, x2, x3, x4⟩ := put5_cells HR2.out (.int .i64 0) (.slice none 0 0) (.int .i64 0) (.slice none 0 0) (.int .i64 1)
    simp [go_sem, x0, x1, x2, x3, x4]
  subst hmn
  go_wp2_with fail
  refine ((wAll_any ma m mk mi 1000 _ (HM.out.below HB1.out) HMM.out).mono fun e w' ⟨g1, g2⟩ => ⟨g1.eq K2.out, g2⟩ : Calls Tryd.prog 39 #[.slice ma m mk, .int .i64 0, .int .i64 1000] W1 fun e w' => e = .returned (.bool b2) ∧ w' = W1).mono ?_
  rintro e W2 ⟨rfl, rfl⟩
  cases b2 with
  | false =>
    have hP := bad (fun h => by have := K2.out.2 h.2.2; cases this)
    clear bad
    go_wp2_with fail
    refine bodyPost_ret (v := .agg #[.int .i64 0, .slice none 0 0, .int .i64 0, .slice none 0 0, .int .i64 1]) ?_ rfl ⟨by rw [hP.out]; exact PaEnd.bad _ _ _, below_put5 HB1.out (by omega) _ _ _ _ _⟩
    simp only [results, Tryd.results21]
    obtain ⟨x0, x1, x2, x3, x4⟩ := put5_cells HR2.out (.int .i64 0) (.slice none 0 0) (.int .i64 0) (.slice none 0 0) (.int .i64 1)
    simp [go_sem, x0, x1, x2, x3, x4]
  | true =>
  clear bad
  have hok2 : Hid (Wk.MillsOk m mi) := by show Wk.MillsOk m mi; have := K2.out; simpa using this
  have HOK : Hid (Wk.SettleOk ⟨wt, m, f⟩ m mi) := ⟨hok1.out, rfl, hok2.out⟩
  have hn6 : m ≤ 6 := hok1.out.2.1
  have hmk := run_make_row' (P := Tryd.prog) 24 2 (.int .i64 0) 8 Tryd.underlying24 info_i64 rfl .i64 .i64 m (by omega) (by omega)
  clear o0 z0 o1 z1 o2 z2 o3 z3 o4 z4
  have hltb := HRB1.out.lt
  go_wp2_with fail
  go_cut [5] (fun p W => ∃ g1 b5, p = .pointer (some ⟨b5, 0, none⟩) ∧ Hid (SeO w a k wt m (fun j => f j - Wk.sett ⟨wt, m, f⟩ mi j) g1 b5 W))
  case first =>
    go_region
    all_goals go_wp2_with fail
    all_goals go_meet
    all_goals (case rel => first | exact ⟨_, _, rfl, seO_a _ HRB1.out HR2.out HB1.out⟩ | exact ⟨_, _, rfl, seO_b _ HRB1.out HR2.out HB1.out⟩)
  case rest =>
    obtain ⟨g1, b5, rfl, hC⟩ := hcut
    clear x0 x1 hsz hltb
    obtain ⟨⟨x0, x1⟩, _⟩ := row2_cells hC.out.box
    have hlt : w.heap.size < wc.heap.size := hC.out.box.lt
    obtain ⟨W3, hW3⟩ : ∃ W3, W3 = (wc.alloc (mkO m)).alloc (.cells #[.int .i64 0, .slice (some ⟨wc.heap.size, 0, none⟩) m m] 28) := ⟨_, rfl⟩
    have HI0 : Hid (SeI w a k wt m f (Wk.sett ⟨wt, m, f⟩ mi) g1 b5 wc.heap.size (wc.heap.size + 1) 0 0 W3) := by show SeI _ _ _ _ _ _ _ _ _ _ _ _ _ _; rw [hW3]; exact seI_of hC.out
    have HW3 := Lib.hid hW3
    clear hW3
    go_wp2_with fail
    rw [← HW3.out]
    obtain ⟨g2, hg2⟩ : ∃ g2, g2 = wc.heap.size := ⟨_, rfl⟩
    obtain ⟨b6, hb6⟩ : ∃ b6, b6 = wc.heap.size + 1 := ⟨_, rfl⟩
    rw [← hb6, ← hg2] at HI0
    rw [← hb6]
    clear hb6 hg2 HW3 x0 x1 hlt hC hmk
    go_loopw [7] (fun iv wr => ∃ (i : Nat), i ≤ m ∧ iv = .int .i64 i ∧ Hid (SeI w a k wt m f (Wk.sett ⟨wt, m, f⟩ mi) g1 b5 g2 b6 i i wr)) (fun iv _ => m - (intOf iv).toNat)
    case atStart => exact ⟨0, Nat.zero_le _, rfl, HI0⟩
    case round =>
      obtain ⟨i, hi, rfl, hT⟩ := hrel
      clear HI0
      obtain ⟨⟨x0, x1⟩, _⟩ := row2_cells hT.out.box
      have lb : w.heap.size < wr.heap.size := hT.out.box.lt
      by_cases hlt : i < m
      · have hltz : (i : Int) < (m : Int) := by omega
        obtain ⟨bb, rfl, c0⟩ := (H.out.below hT.out.bel).at_ hlt
        obtain ⟨bm, rfl, c1⟩ := (HM.out.below hT.out.bel).at_ hlt
        obtain ⟨⟨v0, v1⟩, _⟩ := row2_cells hT.out.r6
        have hsb := Wk.sett_bounds HOK.out (j := i) hlt
        have hfb := hok1.out.2.2 i hlt
        have hmb := hok2.out i hlt
        have l6 : b6 < wr.heap.size := hT.out.r6.lt
        have hnum := hT.out.num
        have d1 : g1 ≠ w.heap.size := by omega
        have d2 : g1 ≠ b5 := by omega
        have d3 : g2 ≠ w.heap.size := by omega
        have d4 : g2 ≠ b5 := by omega
        have d5 : g2 ≠ b6 := by omega
        have d6 : g2 ≠ g1 := by omega
        have d7 : g1 ≠ b6 := by omega
        clear hnum
        obtain ⟨hm0, hm1⟩ := Wk.mul_le hfb.1 hmb.1 hfb.2 hmb.2
        have hm2 : f i * mi i ≤ 1000000000000 := by omega
        have hsh : f i * mi i / 1000 = Wk.sett ⟨wt, m, f⟩ mi i := rfl
        obtain ⟨⟨vv, y1⟩, z1⟩ := hT.out.p2.at_ hlt
        have lg2 : g2 < wr.heap.size := hT.out.p2.lt
        have HT6 := Lib.hid hT.out.put2.drew
        clear hm1
        go_wp2_with fail
        go_region
        obtain ⟨W6, hW6⟩ : ∃ W6, W6 = (wr.setCell ⟨g2, i, none⟩ (.int .i64 (Wk.sett ⟨wt, m, f⟩ mi i))).drew := ⟨_, rfl⟩
        rw [← hW6] at HT6 ⊢
        clear hW6 y1 z1 x0 x1 v0 v1 c0 c1 l6 lb lg2 hT hsh
        obtain ⟨⟨x0, x1⟩, _⟩ := row2_cells HT6.out.box
        obtain ⟨⟨u0, u1⟩, _⟩ := row2_cells HT6.out.r5
        obtain ⟨⟨v0, v1⟩, _⟩ := row2_cells HT6.out.r6
        obtain ⟨bb2, ebb, c0⟩ := (H.out.below HT6.out.bel).at_ hlt
        obtain rfl : bb = bb2 := by simpa using ebb
        have y1 : W6.cell? ⟨g2, i, none⟩ = some (.int .i64 (Wk.sett ⟨wt, m, f⟩ mi i)) := by
          obtain ⟨F1, q1, q2⟩ := HT6.out.p2
          rw [q1.cell hlt, q2 i (by omega)]; rfl
        obtain ⟨⟨w2, y2⟩, z2⟩ := HT6.out.p1.at_ hlt
        have HT7 := Lib.hid HT6.out.put1.drew
        have l5 : b5 < W6.heap.size := HT6.out.r5.lt
        have l6 : b6 < W6.heap.size := HT6.out.r6.lt
        have lb : w.heap.size < W6.heap.size := HT6.out.box.lt
        obtain ⟨S, hS⟩ : ∃ S, S = Wk.sett ⟨wt, m, f⟩ mi i := ⟨_, rfl⟩
        rw [← hS] at y1 hsb
        have HSS := Lib.hid hS
        obtain ⟨hs0, hs1⟩ := hsb
        obtain ⟨hf0, hf1⟩ := hfb
        clear hS
        go_wp2_with fail
        go_region
        rw [HSS.out]
        clear x0 x1 u0 u1 v0 v1 c0 y1 y2 z2 l5 l6 lb HT6
        go_wp2_with fail
        go_roundw
        case rel => exact ⟨i + 1, by omega, by go_num, HT7⟩
        case measure => simp [intOf]; omega
      · obtain rfl : i = m := by omega
        obtain ⟨⟨u0, u1⟩, _⟩ := row2_cells hT.out.r5
        obtain ⟨⟨v0, v1⟩, _⟩ := row2_cells hT.out.r6
        have HR3 := Lib.hid hT.out.o4
        have o0 := HR3.out.cell (i := 0) (by omega)
        have z0 := HR3.out.frozen 0
        have o1 := HR3.out.cell (i := 1) (by omega)
        have z1 := HR3.out.frozen 1
        have o2 := HR3.out.cell (i := 2) (by omega)
        have z2 := HR3.out.frozen 2
        have o3 := HR3.out.cell (i := 3) (by omega)
        have z3 := HR3.out.frozen 3
        have o4 := HR3.out.cell (i := 4) (by omega)
        have z4 := HR3.out.frozen 4
        go_wp2_with fail
        have hnum := hT.out.num
        have e9 : ∀ g, g ≠ w.heap.size + 1 → (put5 wr (w.heap.size + 1) (.int .i64 wt) (.slice (some ⟨g1, 0, none⟩) i i) (.int .i64 0) (.slice (some ⟨g2, 0, none⟩) i i) (.int .i64 0)).heap[g]? = wr.heap[g]? := fun g hg => put5_far _ hg _ _ _ _ _
        have hP : Wk.settle ⟨wt, i, f⟩ i mi = ⟨Wk.cut ⟨wt, i, f⟩ 0 (Wk.sett ⟨wt, i, f⟩ mi), ⟨0, i, Wk.sett ⟨wt, i, f⟩ mi⟩, 0⟩ := by unfold Wk.settle; rw [if_neg H4.out, if_pos HOK.out]
        refine bodyPost_ret (v := paV (Wk.settle ⟨wt, i, f⟩ i mi) (some ⟨g1, 0, none⟩) i (some ⟨g2, 0, none⟩) i) ?_ rfl ⟨?_, below_put5 hT.out.bel (by omega) _ _ _ _ _⟩
        · rw [hP]
          simp only [results, Tryd.results21]
          obtain ⟨x0, x1, x2, x3, x4⟩ := put5_cells HR3.out (.int .i64 wt) (.slice (some ⟨g1, 0, none⟩) i i) (.int .i64 0) (.slice (some ⟨g2, 0, none⟩) i i) (.int .i64 0)
          simp [go_sem, x0, x1, x2, x3, x4, Wk.cut]
        · rw [hP]
          exact PaEnd.two (A := ⟨Wk.cut ⟨wt, i, f⟩ 0 (Wk.sett ⟨wt, i, f⟩ mi), ⟨0, i, Wk.sett ⟨wt, i, f⟩ mi⟩, 0⟩) (hT.out.p1.full.block (e9 _ (by omega))) (hT.out.p2.full.block (e9 _ (by omega))) ⟨by omega, by omega, by omega⟩ i i
end Go.Proofs.YtcjeieagpcphjaaDoor
