/-
  The contract of the model's MixBatches.
-/
import Derived.Test.YtcjeieagpcphjaaDoorWkMz
namespace Go.Proofs.YtcjeieagpcphjaaDoor
open Go.RowKit Go.Deep

/-- What stands in the model's sums. -/
structure MsI (w : World) (N : Nat) (S : Int) (f : Nat → Int) (b5 g5 : Nat) (W : World) : Prop where
  o2 : W.rowIs w.heap.size 51 5 (rowL [.int .i64 0, .slice none 0 0, .int .i64 0, .slice none 0 0, .int .i64 0])
  r5 : W.rowIs b5 28 2 (r2 (.int .i64 S) (.slice (some ⟨g5, 0, none⟩) N N))
  p5 : InBlk g5 N f W
  bel : Below w.heap.size w W
  num : w.heap.size < b5 ∧ w.heap.size < g5 ∧ b5 ≠ g5
theorem MsI.drew {w : World} {N : Nat} {S : Int} {f : Nat → Int} {b5 g5 : Nat} {W : World} (h : MsI w N S f b5 g5 W) : MsI w N S f b5 g5 W.drew := ⟨h.o2.of_block rfl, h.r5.of_block rfl, h.p5.block rfl, h.bel.drew, h.num⟩
theorem MsI.water {w : World} {N : Nat} {S : Int} {f : Nat → Int} {b5 g5 : Nat} {W : World} (h : MsI w N S f b5 g5 W) (x : Int) : MsI w N x f b5 g5 (W.setCell ⟨b5, 0, none⟩ (.int .i64 x)) := by
  have hn := h.num
  have e : ∀ g, g ≠ b5 → (W.setCell ⟨b5, 0, none⟩ (.int .i64 x)).heap[g]? = W.heap[g]? := fun g hg => Below.heap_setCell _ ⟨b5, 0, none⟩ _ _ hg
  exact ⟨h.o2.of_block (e _ (by omega)), row2_set0 h.r5 _, h.p5.block (e _ (by omega)), h.bel.setCell (p := ⟨b5, 0, none⟩) (by show w.heap.size ≤ b5; omega) _, h.num⟩
theorem MsI.part {w : World} {N : Nat} {S : Int} {f : Nat → Int} {b5 g5 : Nat} {W : World} (h : MsI w N S f b5 g5 W) (i : Nat) (x : Int) : MsI w N S (fun j => if j = i then x else f j) b5 g5 (W.setCell ⟨g5, i, none⟩ (.int .i64 x)) := by
  have hn := h.num
  have e : ∀ g, g ≠ g5 → (W.setCell ⟨g5, i, none⟩ (.int .i64 x)).heap[g]? = W.heap[g]? := fun g hg => Below.heap_setCell _ ⟨g5, i, none⟩ _ _ hg
  exact ⟨h.o2.of_block (e _ (by omega)), h.r5.of_block (e _ (by omega)), h.p5.setI i x, h.bel.setCell (p := ⟨g5, i, none⟩) (by show w.heap.size ≤ g5; omega) _, h.num⟩
theorem MsI.congr {w : World} {N : Nat} {S : Int} {f f' : Nat → Int} {b5 g5 : Nat} {W : World} (h : MsI w N S f b5 g5 W) (e : ∀ j, j < N → f j = f' j) : MsI w N S f' b5 g5 W := ⟨h.o2, h.r5, h.p5.congr e, h.bel, h.num⟩
set_option maxRecDepth 100000 in
set_option maxHeartbeats 8000000 in
theorem sMix_any (a : Option Addr) (m cap : Nat) (bs : Nat → Be) (w : World) (h : BtsAt a m bs w) (_hm : m ≤ 4194304) (hn : ∀ i, i < m → (bs i).n ≤ 4194304) :
    Calls Tryd.prog 23 #[.slice a m cap] w fun e w' => PaEnd w.heap.size (Wk.mix m (fun i => (bs i).b)) e w' ∧ Below w.heap.size w w' := by
  obtain ⟨W, hW⟩ : ∃ W, W = w.alloc (.cells #[.int .i64 0, .slice none 0 0, .int .i64 0, .slice none 0 0, .int .i64 0] 51) := ⟨_, rfl⟩
  have hB : Below w.heap.size w W := by rw [hW]; exact bel_alloc _ _
  have RO : W.rowIs w.heap.size 51 5 (rowL [.int .i64 0, .slice none 0 0, .int .i64 0, .slice none 0 0, .int .i64 0]) := by rw [hW]; exact rowL_alloc w [.int .i64 0, .slice none 0 0, .int .i64 0, .slice none 0 0, .int .i64 0] 51
  have HW := Lib.hid hW
  have HB := Lib.hid hB
  have HRO := Lib.hid RO
  have HN := Lib.hid hn
  clear hW hB RO hn
  by_cases h4 : 400 < m
  · have hz4 : (400 : Int) < (m : Int) := by omega
    have hP : Wk.mix m (fun i => (bs i).b) = Wk.bad 2 := by unfold Wk.mix; rw [if_pos h4]
    rw [hP]
    clear hP h
    go_enter Tryd.func23, Tryd.ntmps23
    go_wp2_with fail
    refine bodyPost_ret (v := .agg #[.int .i64 0, .slice none 0 0, .int .i64 0, .slice none 0 0, .int .i64 2]) ?_ rfl ⟨PaEnd.bad _ _ _, bel_alloc _ _⟩
    simp [results, Tryd.results23, go_sem]
  have hz4 : ¬ (400 : Int) < (m : Int) := by omega
  have H4 := Lib.hid h4
  by_cases hz : m = 0
  · have hz2 : ((m : Int) == 0) = true := by simp [hz]
    have hP : Wk.mix m (fun i => (bs i).b) = Wk.bad 1 := by unfold Wk.mix; rw [if_neg h4, if_neg (fun h => by have := h.1; omega)]
    rw [hP]
    clear hP h
    go_enter Tryd.func23, Tryd.ntmps23
    go_wp2_with fail
    refine bodyPost_ret (v := .agg #[.int .i64 0, .slice none 0 0, .int .i64 0, .slice none 0 0, .int .i64 1]) ?_ rfl ⟨PaEnd.bad _ _ _, bel_alloc _ _⟩
    simp [results, Tryd.results23, go_sem]
  have hz2 : ((m : Int) == 0) = false := by simp [hz]
  obtain ⟨b, rfl, hc⟩ := h.all (by omega)
  have HC := Lib.hid hc
  have hm4 : m ≤ 400 := by omega
  have hmz : (0 : Int) < (m : Int) := by omega
  obtain ⟨N, hN⟩ : ∃ N, N = (bs 0).n := ⟨_, rfl⟩
  have x1 := (hc 0 (by omega)).1.2
  rw [← hN] at x1
  simp only [Nat.zero_mul, Nat.zero_add] at x1
  have hbl : b < w.heap.size := World.block_lt_of_cell? _ _ x1
  have HNN := Lib.hid hN
  clear h4 h hc hN
  go_enter Tryd.func23, Tryd.ntmps23
  go_wp2_with fail
  rw [← HW.out]
  clear HW x1
  go_loopw [4] (fun iv wr => ∃ (i : Nat), i ≤ m ∧ iv = .int .i64 i ∧ Hid (∀ j, j < i → Wk.Ok (bs j).b ∧ (bs j).n = N) ∧ Hid (wr.rowIs w.heap.size 51 5 (rowL [.int .i64 0, .slice none 0 0, .int .i64 0, .slice none 0 0, .int .i64 0])) ∧ Hid (Below w.heap.size w wr)) (fun iv _ => m - (intOf iv).toNat)
  case atStart => exact ⟨0, Nat.zero_le _, rfl, fun j hj => absurd hj (Nat.not_lt_zero _), HRO, HB⟩
  case round =>
    obtain ⟨i, hi, rfl, hP, hR, hB⟩ := hrel
    clear HRO HB
    by_cases hlt : i < m
    · have hltz : (i : Int) < (m : Int) := by omega
      obtain ⟨c0, c1⟩ := (HC.out i hlt).1.block (hB.out.block _ (HC.out i hlt).1.lt)
      have HIN := Lib.hid ((HC.out i hlt).2.below hB.out)
      obtain ⟨bb, hbb⟩ := bool_of (Wk.OkB (bs i).wt (bs i).n (bs i).f)
      have KB := Lib.hid hbb
      clear hbb
      go_wp2_with fail
      refine ((sBRight_any (bs i).wt (bs i).pa (bs i).n (bs i).k (bs i).f _ HIN.out (HN.out i hlt)).mono fun e w' ⟨g1, g2⟩ => ⟨g1.eq KB.out, g2⟩ : Calls Tryd.prog 38 #[btV (bs i).wt (bs i).pa (bs i).n (bs i).k] wr fun e w' => e = .returned (.bool bb) ∧ Gr wr w').mono ?_
      rintro e W1 ⟨rfl, hG⟩
      have HB1 : Hid (Below w.heap.size w W1) := hB.out.trans (hG.bel.mono hB.out.size)
      have HR1 := Lib.hid (wrow_below hR.out hG.bel)
      clear c0 c1 hG HIN
      obtain ⟨c0, c1⟩ := (HC.out i hlt).1.block (HB1.out.block _ (HC.out i hlt).1.lt)
      have hlt1 : w.heap.size < W1.heap.size := HR1.out.lt
      have o0 := HR1.out.cell (i := 0) (by omega)
      have z0 := HR1.out.frozen 0
      have o1 := HR1.out.cell (i := 1) (by omega)
      have z1 := HR1.out.frozen 1
      have o2 := HR1.out.cell (i := 2) (by omega)
      have z2 := HR1.out.frozen 2
      have o3 := HR1.out.cell (i := 3) (by omega)
      have z3 := HR1.out.frozen 3
      have o4 := HR1.out.cell (i := 4) (by omega)
      have z4 := HR1.out.frozen 4
      have bad : ¬ (Wk.Ok (bs i).b ∧ (bs i).n = N) → Hid (Wk.mix m (fun i => (bs i).b) = Wk.bad 1) := fun h => by
        show _ = _
        unfold Wk.mix
        rw [if_neg H4.out, if_neg (fun h2 => h ⟨(h2.2 i hlt).1, by rw [HNN.out]; exact (h2.2 i hlt).2⟩)]
      cases bb with
      | false =>
        have hP := bad (fun h => by have := KB.out.2 h.1; cases this)
        clear bad
        go_wp2_with fail
        refine bodyPost_ret (v := .agg #[.int .i64 0, .slice none 0 0, .int .i64 0, .slice none 0 0, .int .i64 1]) ?_ rfl ⟨by rw [hP.out]; exact PaEnd.bad _ _ _, below_put5 HB1.out (by omega) _ _ _ _ _⟩
        simp only [results, Tryd.results23]
        obtain ⟨x0, x1, x2, x3, x4⟩ := put5_cells HR1.out (.int .i64 0) (.slice none 0 0) (.int .i64 0) (.slice none 0 0) (.int .i64 1)
        simp [go_sem, x0, x1, x2, x3, x4]
      | true =>
        by_cases hnn : (bs i).n = N
        case neg =>
          have hnz : (((bs i).n : Int) != (N : Int)) = true := by simp; omega
          have hP := bad (fun h => hnn h.2)
          clear bad
          go_wp2_with fail
          refine bodyPost_ret (v := .agg #[.int .i64 0, .slice none 0 0, .int .i64 0, .slice none 0 0, .int .i64 1]) ?_ rfl ⟨by rw [hP.out]; exact PaEnd.bad _ _ _, below_put5 HB1.out (by omega) _ _ _ _ _⟩
          simp only [results, Tryd.results23]
          obtain ⟨x0, x1, x2, x3, x4⟩ := put5_cells HR1.out (.int .i64 0) (.slice none 0 0) (.int .i64 0) (.slice none 0 0) (.int .i64 1)
          simp [go_sem, x0, x1, x2, x3, x4]
        have hnz : (((bs i).n : Int) != (N : Int)) = false := by simp; omega
        have HP1 : Hid (∀ j, j < i + 1 → Wk.Ok (bs j).b ∧ (bs j).n = N) := fun j hj => by
          by_cases e : j = i
          · subst e; exact ⟨(by have := KB.out; simpa [Be.b] using this : Wk.OkB (bs j).b.wt (bs j).b.n (bs j).b.f), hnn⟩
          · exact hP.out j (by omega)
        clear bad hnn
        go_wp2_with fail
        go_roundw
        case rel => exact ⟨i + 1, by omega, by go_num, HP1, HR1, HB1⟩
        case measure => simp [intOf]; omega
    · obtain rfl : i = m := by omega
      have hN6 : N ≤ 6 := by have h1 := (hP.out 0 (by omega)).1.2.1; have h2 := (hP.out 0 (by omega)).2; have h3 : (bs 0).n ≤ 6 := h1; omega
      have hmk := run_make_row' (P := Tryd.prog) 24 2 (.int .i64 0) 8 Tryd.underlying24 info_i64 rfl .i64 .i64 N (by omega) (by omega)
      obtain ⟨W2, hW2⟩ : ∃ W2, W2 = (wr.alloc (mkO N)).alloc (.cells #[.int .i64 0, .slice (some ⟨wr.heap.size, 0, none⟩) N N] 28) := ⟨_, rfl⟩
      have hb2 : Below wr.heap.size wr W2 := by rw [hW2]; exact ((Below.refl _ _).alloc (Nat.le_refl _) _).alloc (by simp) _
      have hlw := hR.out.lt
      have HI0 : Hid (MsI w N (Wk.sumW (fun i => (bs i).b) 0) (fun j => Wk.sumP (fun i => (bs i).b) j 0) (wr.heap.size + 1) wr.heap.size W2) := by
        refine ⟨wrow_below hR.out hb2, by rw [hW2]; exact row2' (by simp) _ _ _, ?_, hB.out.trans (hb2.mono hB.out.size), by omega⟩
        rw [hW2]
        exact ⟨N, _, Nat.le_refl _, wrow_below (made0' rfl N) (bel_alloc _ _), fun j _ => rfl⟩
      have HW2 := Lib.hid hW2
      obtain ⟨b5, hb5⟩ : ∃ b5, b5 = wr.heap.size + 1 := ⟨_, rfl⟩
      obtain ⟨g5, hg5⟩ : ∃ g5, g5 = wr.heap.size := ⟨_, rfl⟩
      rw [← hb5, ← hg5] at HI0
      clear hb2 hW2 hlw
      go_wp2_with fail
      rw [← HW2.out, ← hb5]
      clear hmk HW2 hb5 hg5 hR hB
      go_loopw [6] (fun jv wq => ∃ (j : Nat), j ≤ i ∧ jv = .int .i64 j ∧ Hid (MsI w N (Wk.sumW (fun i => (bs i).b) j) (fun q => Wk.sumP (fun i => (bs i).b) q j) b5 g5 wq)) (fun jv _ => i - (intOf jv).toNat)
      case atStart => exact ⟨0, Nat.zero_le _, rfl, HI0⟩
      case round =>
        obtain ⟨j, hj, rfl, hI⟩ := hrel
        clear HI0
        by_cases hlj : j < i
        · have hljz : (j : Int) < (i : Int) := by omega
          obtain ⟨c0, c1⟩ := (HC.out j hlj).1.block (hI.out.bel.block _ (HC.out j hlj).1.lt)
          obtain ⟨⟨u0, u1⟩, y0, y1⟩ := row2_cells hI.out.r5
          have hoks : ∀ q, q < i → Wk.Ok ((fun i => (bs i).b) q) := fun q hq => (hP.out q hq).1
          obtain ⟨s0, s1⟩ := Wk.sumW_bounds hoks j (by omega)
          obtain ⟨w0, w1⟩ := (hP.out j hlj).1.1
          have HS : Hid (Wk.sumW (fun i => (bs i).b) j + (bs j).wt = Wk.sumW (fun i => (bs i).b) (j + 1)) := rfl
          obtain ⟨S, hS⟩ : ∃ S, S = Wk.sumW (fun i => (bs i).b) j := ⟨_, rfl⟩
          rw [← hS] at u0 s0 s1 HS
          have s2 : S ≤ 400000000000 := by omega
          have l5 : b5 < wr.heap.size := hI.out.r5.lt
          have hnum := hI.out.num
          have d1 : b5 ≠ b := by omega
          have d2 : g5 ≠ b := by omega
          have d3 : g5 ≠ b5 := by omega
          have w0' : 0 ≤ (bs j).wt := w0
          have w1' : (bs j).wt ≤ 1000000000 := w1
          have HI1 := Lib.hid (hI.out.water (S + (bs j).wt)).drew
          clear hS s1 hnum hoks w0 w1
          go_wp2_with fail
          go_region
          obtain ⟨W3, hW3⟩ : ∃ W3, W3 = (wr.setCell ⟨b5, 0, none⟩ (.int .i64 (S + (bs j).wt))).drew := ⟨_, rfl⟩
          rw [← hW3] at HI1 ⊢
          rw [HS.out] at HI1
          clear hW3 c0 c1 u0 u1 y0 y1 l5 hI HS s0 s2 w0' w1'
          have HK0 : Hid (MsI w N (Wk.sumW (fun i => (bs i).b) (j + 1)) (addUp (fun q => Wk.sumP (fun i => (bs i).b) q j) (bs j).f 0) b5 g5 W3) := HI1.out.congr (fun q _ => by unfold addUp; simp)
          clear HI1
          go_wp2_with fail
          go_loopw [7] (fun kv wq => ∃ (k : Nat), k ≤ N ∧ kv = .int .i64 k ∧ Hid (MsI w N (Wk.sumW (fun i => (bs i).b) (j + 1)) (addUp (fun q => Wk.sumP (fun i => (bs i).b) q j) (bs j).f k) b5 g5 wq)) (fun kv _ => N - (intOf kv).toNat)
          case atStart => exact ⟨0, Nat.zero_le _, rfl, HK0⟩
          case round =>
            obtain ⟨k, hk, rfl, hI⟩ := hrel
            clear HK0
            by_cases hlk : k < N
            · have hlkz : (k : Int) < (N : Int) := by omega
              have hnj := (hP.out j hlj).2
              obtain ⟨c0, c1⟩ := (HC.out j hlj).1.block (hI.out.bel.block _ (HC.out j hlj).1.lt)
              obtain ⟨pb, hpb, e0⟩ := ((HC.out j hlj).2.below hI.out.bel).at_ (show k < (bs j).n by omega)
              obtain ⟨⟨u0, u1⟩, _⟩ := row2_cells hI.out.r5
              rw [hpb, hnj] at c1
              have hpl : pb < w.heap.size := by
                obtain ⟨pb2, hpb2, e2⟩ := (HC.out j hlj).2.at_ (show k < (bs j).n by omega)
                rw [hpb] at hpb2
                simp at hpb2
                subst hpb2
                exact World.block_lt_of_cell? _ _ e2
              obtain ⟨s0, s1⟩ := Wk.sumP_bounds (bs := fun i => (bs i).b) (m := i) (j := k) (fun q hq => ⟨(hP.out q hq).1, by show k < (bs q).n; rw [(hP.out q hq).2]; exact hlk⟩) j (by omega)
              obtain ⟨f0, f1⟩ : 0 ≤ (bs j).f k ∧ (bs j).f k ≤ 1000000000 := (hP.out j hlj).1.2.2 k (by show k < (bs j).n; omega)
              have v0 : wr.cell? ⟨g5, k, none⟩ = some (.int .i64 (Wk.sumP (fun i => (bs i).b) k j)) := (hI.out.p5.cell hlk).trans (by unfold addUp; simp)
              have v1 := hI.out.p5.frozen k
              obtain ⟨S, hS⟩ : ∃ S, S = Wk.sumP (fun i => (bs i).b) k j := ⟨_, rfl⟩
              obtain ⟨X, hX⟩ : ∃ X, X = (bs j).f k := ⟨_, rfl⟩
              have HI1 : Hid (MsI w N (Wk.sumW (fun i => (bs i).b) (j + 1)) (addUp (fun q => Wk.sumP (fun i => (bs i).b) q j) (bs j).f (k + 1)) b5 g5 (wr.setCell ⟨g5, k, none⟩ (.int .i64 (S + X))).drew) := by
                show MsI _ _ _ _ _ _ _
                rw [addUp_succ, hS, hX]
                exact (hI.out.part k _).drew
              rw [← hS] at s0 s1 v0
              rw [← hX] at f0 f1 e0
              have s2 : S ≤ 400000000000 := by omega
              have l5 : b5 < wr.heap.size := hI.out.r5.lt
              have lg5 : g5 < wr.heap.size := hI.out.p5.lt
              have hnum := hI.out.num
              have d4 : pb ≠ g5 := by omega
              have d5 : pb ≠ b5 := by omega
              clear hS hX s1 hnum hpb hnj hpl hI
              go_wp2_with fail
              go_region
              clear c0 c1 e0 u0 u1 v0 v1 l5 lg5
              go_wp2_with fail
              go_roundw
              case rel => exact ⟨k + 1, by omega, by go_num, HI1⟩
              case measure => simp [intOf]; omega
            · obtain rfl : k = N := by omega
              have HI1 : Hid (MsI w k (Wk.sumW (fun i => (bs i).b) (j + 1)) (fun q => Wk.sumP (fun i => (bs i).b) q (j + 1)) b5 g5 wr) := hI.out.congr (fun q hq => by unfold addUp; rw [if_pos hq]; rfl)
              clear hI
              go_wp2_with fail
              go_roundw
              case rel => exact ⟨j + 1, by omega, by go_num, HI1⟩
              case measure => simp [intOf]; omega
        · obtain rfl : j = i := by omega
          obtain ⟨⟨u0, u1⟩, _⟩ := row2_cells hI.out.r5
          obtain ⟨bb, hbb⟩ := bool_of (Wk.OkB (Wk.sumW (fun i => (bs i).b) j) N (fun q => Wk.sumP (fun i => (bs i).b) q j))
          have KB := Lib.hid hbb
          have HAO : Hid (Wk.AllOk j (fun i => (bs i).b)) := ⟨by omega, fun q hq => ⟨(hP.out q hq).1, (hP.out q hq).2.trans HNN.out⟩⟩
          clear hbb
          obtain ⟨S, hS⟩ : ∃ S, S = Wk.sumW (fun i => (bs i).b) j := ⟨_, rfl⟩
          rw [← hS] at u0 KB
          have HSS := Lib.hid hS
          clear hS
          go_wp2_with fail
          refine ((sBRight_any S (some ⟨g5, 0, none⟩) N N (fun q => Wk.sumP (fun i => (bs i).b) q j) _ hI.out.p5.at_ (by omega)).mono fun e w' ⟨g1, g2⟩ => ⟨g1.eq KB.out, g2⟩ : Calls Tryd.prog 38 #[btV S (some ⟨g5, 0, none⟩) N N] wr fun e w' => e = .returned (.bool bb) ∧ Gr wr w').mono ?_
          rintro e W3 ⟨rfl, hG⟩
          have HB3 : Hid (Below w.heap.size w W3) := hI.out.bel.trans (hG.bel.mono hI.out.bel.size)
          have HR3 := Lib.hid (wrow_below hI.out.o2 hG.bel)
          have HR5 := Lib.hid (wrow_below hI.out.r5 hG.bel)
          have HG5 := Lib.hid (hI.out.p5.below hG.bel)
          have HNUM := Lib.hid hI.out.num
          rw [← HSS.out] at HR5
          clear u0 u1 hG hI
          obtain ⟨⟨u0, u1⟩, _⟩ := row2_cells HR5.out
          have o0 := HR3.out.cell (i := 0) (by omega)
          have z0 := HR3.out.frozen 0
          have o1 := HR3.out.cell (i := 1) (by omega)
          have z1 := HR3.out.frozen 1
          have o2 := HR3.out.cell (i := 2) (by omega)
          have z2 := HR3.out.frozen 2
          have o3 := HR3.out.cell (i := 3) (by omega)
          have z3 := HR3.out.frozen 3
          have o4 := HR3.out.cell (i := 4) (by omega)
          have z4 := HR3.out.frozen 4
          cases bb with
          | false =>
            have hP2 : Hid (Wk.mix j (fun i => (bs i).b) = Wk.bad 5) := by
              show _ = _
              unfold Wk.mix
              rw [if_neg H4.out, if_pos HAO.out, if_neg (fun h => by
                have h2 : Wk.OkB (Wk.sumW (fun i => (bs i).b) j) (bs 0).n (fun q => Wk.sumP (fun i => (bs i).b) q j) := h
                rw [← HNN.out, ← HSS.out] at h2
                have := KB.out.2 h2; cases this)]
            go_wp2_with fail
            refine bodyPost_ret (v := .agg #[.int .i64 0, .slice none 0 0, .int .i64 0, .slice none 0 0, .int .i64 5]) ?_ rfl ⟨by rw [hP2.out]; exact PaEnd.bad _ _ _, below_put5 HB3.out (by omega) _ _ _ _ _⟩
            simp only [results, Tryd.results23]
            obtain ⟨x0, x1, x2, x3, x4⟩ := put5_cells HR3.out (.int .i64 0) (.slice none 0 0) (.int .i64 0) (.slice none 0 0) (.int .i64 5)
            simp [go_sem, x0, x1, x2, x3, x4]
          | true =>
            have hP2 : Hid (Wk.mix j (fun i => (bs i).b) = ⟨⟨S, N, fun q => Wk.sumP (fun i => (bs i).b) q j⟩, Wk.nil, 0⟩) := by
              show _ = _
              unfold Wk.mix
              have h2 : Wk.OkB S N (fun q => Wk.sumP (fun i => (bs i).b) q j) := by have := KB.out; simpa using this
              rw [HSS.out, HNN.out] at h2
              rw [if_neg H4.out, if_pos HAO.out, if_pos (show Wk.Ok (Wk.mixed j fun i => (bs i).b) from h2), HSS.out, HNN.out]
              rfl
            go_wp2_with fail
            have hnum := HNUM.out
            refine bodyPost_ret (v := .agg #[.int .i64 S, .slice (some ⟨g5, 0, none⟩) N N, .int .i64 0, .slice none 0 0, .int .i64 0]) ?_ rfl ⟨by rw [hP2.out]; exact PaEnd.one (x := ⟨S, N, fun q => Wk.sumP (fun i => (bs i).b) q j⟩) (HG5.out.block (put5_far _ (show g5 ≠ w.heap.size by omega) _ _ _ _ _)) (by omega) N, below_put5 HB3.out (by omega) _ _ _ _ _⟩
            simp only [results, Tryd.results23]
            obtain ⟨x0, x1, x2, x3, x4⟩ := put5_cells HR3.out (.int .i64 S) (.slice (some ⟨g5, 0, none⟩) N N) (.int .i64 0) (.slice none 0 0) (.int .i64 0)
            simp [go_sem, x0, x1, x2, x3, x4]
end Go.Proofs.YtcjeieagpcphjaaDoor
