/-
  The contract of the program's StoreRun.
-/
import Derived.Test.YtdpghhmcibiplaaDoorStN1
import Derived.Test.YtdpghhmcibiplaaDoorStShelf
import Derived.Lib.AppendIntMem
import Derived.Lib.ItoaLen
namespace Go.Proofs.YtdpghhmcibiplaaDoor
open Go.RowKit Go.Deep

abbrev TabOk (w : World) : Prop := Lib.TabIs Tryd.prog w "internal/strconv.uint64pow10" .u64 Lib.pow10Tab
theorem tab_below {w w' : World} (h : TabOk w) (hb : Below w.heap.size w w') : TabOk w' := Lib.tabBelow_of_tabIs h w' hb
/-- What a run tells. -/
def RunIs (cn : Nat) (c : Nat → St.Pr) (rn : Nat) (r : Nat → St.Pr) (v : Int) (n : Nat) (ins : Nat → Int) (m : Nat) (wants : Nat → Int) (z : Ans) : Prop :=
  ((400 < n ∨ 400 < m) → z = ⟨0, 0, 0, 0, 0, 2⟩) ∧
  (¬ (400 < n ∨ 400 < m) → ¬ (St.StoreOk cn c rn r v ∧ n = m ∧ St.FlowsOk n ins ∧ St.FlowsOk n wants) → z = ⟨0, 0, 0, 0, 0, 1⟩) ∧
  (¬ (400 < n ∨ 400 < m) → (St.StoreOk cn c rn r v ∧ n = m ∧ St.FlowsOk n ins ∧ St.FlowsOk n wants) → z = ⟨(St.runS rn r (St.full cn c) v ins wants n).vol, (St.runS rn r (St.full cn c) v ins wants n).giv, (St.runS rn r (St.full cn c) v ins wants n).spl, (St.runS rn r (St.full cn c) v ins wants n).sho, (St.runS rn r (St.full cn c) v ins wants n).wor, 0⟩)
theorem RunIs.one {cn : Nat} {c : Nat → St.Pr} {rn : Nat} {r : Nat → St.Pr} {v : Int} {n : Nat} {ins : Nat → Int} {m : Nat} {wants : Nat → Int} {z1 z2 : Ans} (h1 : RunIs cn c rn r v n ins m wants z1) (h2 : RunIs cn c rn r v n ins m wants z2) : z1 = z2 := by
  by_cases hb : 400 < n ∨ 400 < m
  · rw [h1.1 hb, h2.1 hb]
  · by_cases hk : St.StoreOk cn c rn r v ∧ n = m ∧ St.FlowsOk n ins ∧ St.FlowsOk n wants
    · rw [h1.2.2 hb hk, h2.2.2 hb hk]
    · rw [h1.2.1 hb hk, h2.2.1 hb hk]
/-- Of runs within bounds all sums are small. -/
theorem run_small {rn : Nat} {r : Nat → St.Pr} {f v : Int} {n : Nat} {ins wants : Nat → Int} (hr : St.RulesOk rn r) (f0 : 0 ≤ f) (f1 : f ≤ 1000000000) (v0 : 0 ≤ v) (v1 : v ≤ f) (hn : n ≤ 400) (hi : St.FlowsOk n ins) (hw : St.FlowsOk n wants) {i : Nat} (h : i ≤ n) :
    ((0 ≤ (St.runS rn r f v ins wants i).vol ∧ (St.runS rn r f v ins wants i).vol ≤ f) ∧ (0 ≤ (St.runS rn r f v ins wants i).giv ∧ (St.runS rn r f v ins wants i).giv ≤ 2000000000)) ∧ ((0 ≤ (St.runS rn r f v ins wants i).spl ∧ (St.runS rn r f v ins wants i).spl ≤ 2000000000) ∧ (0 ≤ (St.runS rn r f v ins wants i).sho ∧ (St.runS rn r f v ins wants i).sho ≤ 2000000000)) ∧ (0 ≤ (St.runS rn r f v ins wants i).wor ∧ (St.runS rn r f v ins wants i).wor ≤ f) := by
  have hb := St.run_book hr f0 v0 v1 hi hw i h
  have h1 := St.sumTo_bounds hi i h
  have h2 := St.sumTo_bounds hw i h
  omega

set_option maxRecDepth 100000 in
set_option maxHeartbeats 2000000 in
theorem addStep_any (x y : Ans) (w : World) (b0 : 0 ≤ x.b ∧ x.b ≤ 4000000000) (b1 : 0 ≤ y.b ∧ y.b ≤ 4000000000) (c0 : 0 ≤ x.c ∧ x.c ≤ 4000000000) (c1 : 0 ≤ y.c ∧ y.c ≤ 4000000000) (d0 : 0 ≤ x.d ∧ x.d ≤ 4000000000) (d1 : 0 ≤ y.d ∧ y.d ≤ 4000000000) :
    Calls Tryd.prog 111 #[ansV x, ansV y] w fun e w' => e = .returned (ansV ⟨y.a, x.b + y.b, x.c + y.c, x.d + y.d, min x.e y.a, 0⟩) ∧ Gr w w' := by
  obtain ⟨b00, b01⟩ := b0
  obtain ⟨b10, b11⟩ := b1
  obtain ⟨c00, c01⟩ := c0
  obtain ⟨c10, c11⟩ := c1
  obtain ⟨d00, d01⟩ := d0
  obtain ⟨d10, d11⟩ := d1
  by_cases h : x.e ≤ y.a
  · have e1 : min x.e y.a = x.e := by omega
    rw [e1]
    go_enter Tryd.func111, Tryd.ntmps111
    go_wp2_with fail
    exact bodyPost_ret (v := ansV ⟨y.a, x.b + y.b, x.c + y.c, x.d + y.d, x.e, 0⟩) (by simp [results, Tryd.results111, go_sem]) rfl ⟨rfl, (((Gr.refl _).alloc _).alloc _).alloc _⟩
  · have e1 : min x.e y.a = y.a := by omega
    rw [e1]
    go_enter Tryd.func111, Tryd.ntmps111
    go_wp2_with fail
    exact bodyPost_ret (v := ansV ⟨y.a, x.b + y.b, x.c + y.c, x.d + y.d, y.a, 0⟩) (by simp [results, Tryd.results111, go_sem]) rfl ⟨rfl, (((Gr.refl _).alloc _).alloc _).alloc _⟩
theorem itoaS_any (k : Nat) (hk : k < 100000) (w : World) (ht : TabOk w) : Calls Tryd.prog 102 #[.int .i64 k] w fun e w' => (∃ s, e = .returned (.string s) ∧ s.size ≤ 200) ∧ Below w.heap.size w w' :=
  (Tryd.strconv_Itoa (k : Int) (by omega) (by omega) w ht).mono fun _ _ ⟨he, q, os, hw⟩ => ⟨⟨_, he, by have := Lib.itoa_length_le (k : Int) (by omega) (by omega); simp [ByteArray.size]; omega⟩, by rw [hw]; exact (gr_of q os).bel⟩
/-- What stands from round to round. -/
structure RnI (w wr : World) (b8 b9 : Nat) (f : Int) (m : Nat) (r : Nat → St.Pr) (g cap : Nat) (bs fs : Nat → Nat) (s : St.Sm) : Prop where
  res : wr.rowIs (w.heap.size + 1) 61 6 (r6 (.int .i64 0) (.int .i64 0) (.int .i64 0) (.int .i64 0) (.int .i64 0) (.int .i64 0))
  out : wr.rowIs b8 61 6 (r6 (.int .i64 s.vol) (.int .i64 s.giv) (.int .i64 s.spl) (.int .i64 s.sho) (.int .i64 s.wor) (.int .i64 0))
  bas : wr.rowIs b9 138 2 (r2 (.int .i64 f) (.slice (some ⟨g, 0, none⟩) m cap))
  rul : BasR f m r g bs fs wr
  bel : Below w.heap.size w wr
  num : (w.heap.size + 1 < b8 ∧ b8 < b9) ∧ (b8 < g ∧ ∀ j, j < m → b8 < bs j ∧ b8 < fs j)
theorem BasR.below {f : Int} {m : Nat} {r : Nat → St.Pr} {g : Nat} {bs fs : Nat → Nat} {W W' : World} (h : BasR f m r g bs fs W) (hb : Below W.heap.size W W') : BasR f m r g bs fs W' := fun j hj =>
  ⟨⟨(hb.cell (World.block_lt_of_cell? _ _ (h j hj).1.1)).trans (h j hj).1.1, (hb.cell (World.block_lt_of_cell? _ _ (h j hj).1.2)).trans (h j hj).1.2⟩, (h j hj).2.1.block (hb.block _ (h j hj).2.1.lt), (hb.cell (World.block_lt_of_cell? _ _ (h j hj).2.2)).trans (h j hj).2.2⟩
theorem RnI.below {w wr wr' : World} {b8 b9 : Nat} {f : Int} {m : Nat} {r : Nat → St.Pr} {g cap : Nat} {bs fs : Nat → Nat} {s : St.Sm} (h : RnI w wr b8 b9 f m r g cap bs fs s) (hb : Below wr.heap.size wr wr') : RnI w wr' b8 b9 f m r g cap bs fs s :=
  ⟨srow_below h.res hb, srow_below h.out hb, srow_below h.bas hb, h.rul.below hb, h.bel.trans (hb.mono h.bel.size), h.num⟩
/-- Only the sums' block was written. -/
theorem RnI.same {w W W' : World} {b8 b9 : Nat} {f : Int} {m : Nat} {r : Nat → St.Pr} {g cap : Nat} {bs fs : Nat → Nat} {s s' : St.Sm} (h : RnI w W b8 b9 f m r g cap bs fs s) (hb : ∀ k, k ≠ b8 → W'.heap[k]? = W.heap[k]?) (ho : W'.rowIs b8 61 6 (r6 (.int .i64 s'.vol) (.int .i64 s'.giv) (.int .i64 s'.spl) (.int .i64 s'.sho) (.int .i64 s'.wor) (.int .i64 0))) (hw : Below w.heap.size w W') : RnI w W' b8 b9 f m r g cap bs fs s' := by
  obtain ⟨⟨n1, n2⟩, n3, n4⟩ := h.num
  refine ⟨h.res.of_block (hb _ (by omega)), ho, h.bas.of_block (hb _ (by omega)), fun j hj => ?_, hw, h.num⟩
  obtain ⟨⟨k1, k2⟩, k3, k4⟩ := h.rul j hj
  obtain ⟨m1, m2⟩ := n4 j hj
  exact ⟨⟨(World.cell?_of_block (a := ⟨g, j * 2, none⟩) (hb g (by omega))).trans k1, (World.cell?_of_block (a := ⟨g, j * 2 + 1, none⟩) (hb g (by omega))).trans k2⟩, k3.block (hb _ (by omega)), (World.cell?_of_block (a := ⟨fs j, 0, none⟩) (hb (fs j) (by omega))).trans k4⟩
theorem RnI.put {w W : World} {b8 b9 : Nat} {f : Int} {m : Nat} {r : Nat → St.Pr} {g cap : Nat} {bs fs : Nat → Nat} {s : St.Sm} (h : RnI w W b8 b9 f m r g cap bs fs s) (s' : St.Sm) : RnI w (put6 W b8 (.int .i64 s'.vol) (.int .i64 s'.giv) (.int .i64 s'.spl) (.int .i64 s'.sho) (.int .i64 s'.wor) (.int .i64 0)) b8 b9 f m r g cap bs fs s' :=
  h.same (fun k hk => put6_far _ hk _ _ _ _ _ _) (row6_put h.out _ _ _ _ _ _) (below_put6 h.bel (by have := h.num.1; omega) _ _ _ _ _ _)
theorem RnI.wors {w W : World} {b8 b9 : Nat} {f : Int} {m : Nat} {r : Nat → St.Pr} {g cap : Nat} {bs fs : Nat → Nat} {s : St.Sm} (h : RnI w W b8 b9 f m r g cap bs fs s) (x : Int) : RnI w (W.setCell ⟨b8, 4, none⟩ (.int .i64 x)) b8 b9 f m r g cap bs fs ⟨s.vol, s.giv, s.spl, s.sho, x⟩ := by
  refine h.same (fun k hk => Below.heap_setCell _ _ _ _ hk) ?_ (h.bel.setCell (p := ⟨b8, 4, none⟩) (by have := h.num.1; show w.heap.size ≤ b8; omega) _)
  obtain ⟨cur, h1, h2, h3⟩ := h.out.set 4 (.int .i64 x)
  refine ⟨cur, h1, h2, fun i hi => ?_⟩
  rw [h3 i hi]
  rcases six hi with rfl | rfl | rfl | rfl | rfl | rfl <;> rfl
/-- What a round's region reads. -/
def RdR (w : World) (b8 b9 : Nat) (f : Int) (m : Nat) (r : Nat → St.Pr) (g cap : Nat) (bs fs : Nat → Nat) (s : St.Sm) (bi bw i : Nat) (y x : Int) (W : World) : Prop := RnI w W b8 b9 f m r g cap bs fs s ∧ W.cell? ⟨bi, i, none⟩ = some (.int .i64 y) ∧ W.cell? ⟨bw, i, none⟩ = some (.int .i64 x)
theorem RdR.below {w : World} {b8 b9 : Nat} {f : Int} {m : Nat} {r : Nat → St.Pr} {g cap : Nat} {bs fs : Nat → Nat} {s : St.Sm} {bi bw i : Nat} {y x : Int} {W W' : World} (h : RdR w b8 b9 f m r g cap bs fs s bi bw i y x W) (hb : Below W.heap.size W W') : RdR w b8 b9 f m r g cap bs fs s bi bw i y x W' :=
  ⟨h.1.below hb, (hb.cell (World.block_lt_of_cell? _ _ h.2.1)).trans h.2.1, (hb.cell (World.block_lt_of_cell? _ _ h.2.2)).trans h.2.2⟩
/-- How a run ends: sums and no error, or an error. -/
def RsEnd (cn : Nat) (c : Nat → St.Pr) (rn : Nat) (r : Nat → St.Pr) (v : Int) (n : Nat) (ins : Nat → Int) (m : Nat) (wants : Nat → Int) (e : Ending) : Prop :=
  ((St.StoreOk cn c rn r v ∧ n = m ∧ St.FlowsOk n ins ∧ St.FlowsOk n wants) ∧ e = .returned (.tuple #[ansV ⟨(St.runS rn r (St.full cn c) v ins wants n).vol, (St.runS rn r (St.full cn c) v ins wants n).giv, (St.runS rn r (St.full cn c) v ins wants n).spl, (St.runS rn r (St.full cn c) v ins wants n).sho, (St.runS rn r (St.full cn c) v ins wants n).wor, 0⟩, .nilIface])) ∨
  (¬ (St.StoreOk cn c rn r v ∧ n = m ∧ St.FlowsOk n ins ∧ St.FlowsOk n wants) ∧ ∃ er, e = .returned (.tuple #[zOut, er]) ∧ ErrIs er 1)
set_option maxRecDepth 100000 in
set_option maxHeartbeats 8000000 in
theorem runStore_any (ca : Option Addr) (cn ck : Nat) (c : Nat → St.Pr) (ra : Option Addr) (rn rk : Nat) (r : Nat → St.Pr) (v : Int) (ia : Option Addr) (n ik : Nat) (ins : Nat → Int) (wa : Option Addr) (m wk : Nat) (wants : Nat → Int) (w : World) (h : StAt ca cn c ra rn r w) (hI : IntsAt ia n ins w) (hQ : IntsAt wa m wants w) (hn : n ≤ 400) (hm : m ≤ 400) (ht : TabOk w) :
    Calls Tryd.prog 80 #[stV ca cn ck ra rn rk v, .slice ia n ik, .slice wa m wk] w fun e w' => RsEnd cn c rn r v n ins m wants e ∧ Below w.heap.size w w' := by
  obtain ⟨b1, h1⟩ := bool_of (St.StoreOk cn c rn r v)
  obtain ⟨W, hW⟩ : ∃ W, W = (w.alloc (.cells #[.slice ca cn ck, .slice ra rn rk, .int .i64 v] 66)).alloc zOutO := ⟨_, rfl⟩
  have hGW : Gr w W := by rw [hW]; exact ((Gr.refl _).alloc _).alloc _
  have RB : W.rowIs w.heap.size 66 3 (sr3 (.slice ca cn ck) (.slice ra rn rk) (.int .i64 v)) := by rw [hW]; exact srow_below (srow3 w _ _ _ _) ((Below.refl _ _).alloc (Nat.le_refl _) _)
  have RO : W.rowIs (w.heap.size + 1) 61 6 (r6 (.int .i64 0) (.int .i64 0) (.int .i64 0) (.int .i64 0) (.int .i64 0) (.int .i64 0)) := by
    rw [hW]
    have := row6 (w.alloc (.cells #[.slice ca cn ck, .slice ra rn rk, .int .i64 v] 66)) (.int .i64 0) (.int .i64 0) (.int .i64 0) (.int .i64 0) (.int .i64 0) (.int .i64 0) 61
    rwa [World.size_alloc] at this
  have HGW := Lib.hid hGW
  have HW := Lib.hid hW
  have HS := Lib.hid (h.gr hGW)
  have HI := Lib.hid hI
  have HQ := Lib.hid hQ
  have HT := Lib.hid ht
  have K1 := Lib.hid h1
  have HRB := Lib.hid RB
  have HRO := Lib.hid RO
  have hle : w.heap.size ≤ w.heap.size + 1 := by omega
  have HLE := Lib.hid hle
  clear hGW hW h h1 hI hQ ht RB RO hle
  go_enter Tryd.func80, Tryd.ntmps80
  go_wp2_with fail
  rw [← HW.out]
  refine ((implSRight_any ca cn ck c ra rn rk r v _ HS.out).mono fun e w' ⟨g1, g2⟩ => ⟨g1.eq K1.out, g2⟩ : Calls Tryd.prog 88 #[stV ca cn ck ra rn rk v] W fun e w' => e = .returned (.bool b1) ∧ Gr W w').mono ?_
  rintro e W1 ⟨rfl, hG1⟩
  have HB1 : Hid (Below w.heap.size w W1) := (HGW.out.trans hG1).bel
  have HR1 := Lib.hid (brow_gr HRO.out hG1)
  have HX1 := Lib.hid (brow_gr HRB.out hG1)
  have HS1 := Lib.hid (HS.out.gr hG1)
  obtain ⟨⟨o0, o1, o2, o3, o4, o5⟩, z0, z1, z2, z3, z4, z5⟩ := row6_cells HR1.out
  clear hG1
  cases b1 with
  | false =>
    have HNO : Hid (¬ St.StoreOk cn c rn r v) := fun h => by have := K1.out.2 h; cases this
    go_wp2_with fail
    refine bodyPost_ret (v := .tuple #[zOut, errV ⟨#[97, 32, 115, 116, 111, 114, 101]⟩ 1]) ?_ rfl ⟨Or.inr ⟨(fun h => HNO.out h.1), _, rfl, errIs_one _ _⟩, below_put6 HB1.out HLE.out _ _ _ _ _ _⟩
    obtain ⟨⟨x0, x1, x2, x3, x4, x5⟩, _⟩ := row6_cells (row6_put HR1.out (.int .i64 0) (.int .i64 0) (.int .i64 0) (.int .i64 0) (.int .i64 0) (.int .i64 0))
    simp only [results, Tryd.results80]
    simp [go_sem, x0, x1, x2, x3, x4, x5]
  | true =>
  have hso : St.StoreOk cn c rn r v := by have := K1.out; simpa using this
  have HSO := Lib.hid hso
  clear hso
  by_cases hnm : n = m
  case neg =>
    have HNM := Lib.hid hnm
    have hz : ((n : Int) == (m : Int)) = false := by simp; omega
    have hz2 : (n == m) = false := by simp [hnm]
    clear hnm
    go_wp2_with fail
    refine bodyPost_ret (v := .tuple #[zOut, errV ⟨#[97, 115, 32, 109, 97, 110, 121, 32, 105, 110, 115, 32, 97, 115, 32, 119, 97, 110, 116, 115]⟩ 1]) ?_ rfl ⟨Or.inr ⟨(fun h => HNM.out h.2.1), _, rfl, errIs_one _ _⟩, below_put6 HB1.out HLE.out _ _ _ _ _ _⟩
    obtain ⟨⟨x0, x1, x2, x3, x4, x5⟩, _⟩ := row6_cells (row6_put HR1.out (.int .i64 0) (.int .i64 0) (.int .i64 0) (.int .i64 0) (.int .i64 0) (.int .i64 0))
    simp only [results, Tryd.results80]
    simp [go_sem, x0, x1, x2, x3, x4, x5]
  subst hnm
  obtain ⟨p0, p1, p2⟩ := srow3_cells HX1.out
  have hb18 : w.heap.size < W1.heap.size := HX1.out.lt
  obtain ⟨W2, hW2⟩ : ∃ W2, W2 = W1.alloc (.cells #[.int .i64 v, .int .i64 0, .int .i64 0, .int .i64 0, .int .i64 v, .int .i64 0] 61) := ⟨_, rfl⟩
  have hb2 : Below W1.heap.size W1 W2 := by rw [hW2]; exact (Below.refl _ _).alloc (Nat.le_refl _) _
  have HB2 : Hid (Below w.heap.size w W2) := HB1.out.trans (hb2.mono HB1.out.size)
  have HO2 : Hid (W2.rowIs W1.heap.size 61 6 (r6 (.int .i64 v) (.int .i64 0) (.int .i64 0) (.int .i64 0) (.int .i64 v) (.int .i64 0))) := by show World.rowIs _ _ _ _ _; rw [hW2]; exact row6 W1 _ _ _ _ _ _ _
  have HR2 := Lib.hid (srow_below HR1.out hb2)
  have HS2 := Lib.hid (HS1.out.below hb2)
  have HL2 : Hid (w.heap.size + 1 < W1.heap.size ∧ W1.heap.size < W2.heap.size) := ⟨HR1.out.lt, HO2.out.lt⟩
  have HW2 := Lib.hid hW2
  clear hW2 hb2 o0 o1 o2 o3 o4 o5 z0 z1 z2 z3 z4 z5
  go_wp2_with fail
  rw [← HW2.out]
  refine (basinOf_any ca cn ck c ra rn rk r v _ HS2.out HSO.out.1 HSO.out.2.1).mono ?_
  rintro e W3 ⟨⟨g, cap, bs, fs, rfl, hba, hbn⟩, hb3⟩
  obtain ⟨f, hf⟩ : ∃ f, f = St.full cn c := ⟨_, rfl⟩
  rw [← hf] at hba ⊢
  obtain ⟨W4, hW4⟩ : ∃ W4, W4 = W3.alloc (.cells #[.int .i64 f, .slice (some ⟨g, 0, none⟩) rn cap] 138) := ⟨_, rfl⟩
  have hb4 : Below W3.heap.size W3 W4 := by rw [hW4]; exact (Below.refl _ _).alloc (Nat.le_refl _) _
  have fb := St.full_bounds HSO.out.1
  have hvb := HSO.out.2.2
  rw [← hf] at fb hvb
  have HRN : Hid (RnI w W4 W1.heap.size W3.heap.size f rn r g cap bs fs (St.runS rn r f v ins wants 0)) := by
    have hs3 := hb3.size
    have hl2 := HL2.out
    refine ⟨srow_below (srow_below HR2.out hb3) hb4, srow_below (srow_below HO2.out hb3) hb4, ?_, hba.below hb4, (HB2.out.trans (hb3.mono HB2.out.size)).trans (hb4.mono (HB2.out.trans (hb3.mono HB2.out.size)).size), ⟨⟨hl2.1, by omega⟩, by have := hbn.1; omega, fun j hj => by have := hbn.2 j hj; omega⟩⟩
    rw [hW4]; exact row2 W3 _ _ _
  have HF := Lib.hid hf
  have HFB := Lib.hid (And.intro fb hvb)
  have HW4 := Lib.hid hW4
  clear hba hbn hb3 hb4 hf hW4 fb hvb p0 p1 p2 hb18
  go_wp2_with fail
  rw [← HW4.out]
  go_loopw [40] (fun iv wr => ∃ (i : Nat), i ≤ n ∧ iv = .int .i64 i ∧ Hid (RnI w wr W1.heap.size W3.heap.size f rn r g cap bs fs (St.runS rn r f v ins wants i)) ∧ Hid (St.FlowsOk i ins ∧ St.FlowsOk i wants)) (fun iv _ => n - (intOf iv).toNat)
  case atStart => exact ⟨0, Nat.zero_le _, rfl, HRN, ⟨fun j hj => absurd hj (Nat.not_lt_zero _), fun j hj => absurd hj (Nat.not_lt_zero _)⟩⟩
  case round =>
    obtain ⟨i, hi, rfl, hN, hP⟩ := hrel
    clear HRN
    obtain ⟨⟨fb0, fb1⟩, vb0, vb1⟩ := HFB.out
    by_cases hlt : i < n
    · have hltz : (i : Int) < (n : Int) := by omega
      obtain ⟨bi, hbi, qi⟩ := (HI.out.below hN.out.bel).at_ hlt
      obtain ⟨bw, hbw, qw⟩ := (HQ.out.below hN.out.bel).at_ hlt
      subst hbi
      subst hbw
      have sm := run_small (n := i) HSO.out.2.1 (by omega : (0 : Int) ≤ f) fb1 vb0 vb1 (by omega) hP.out.1 hP.out.2 (Nat.le_refl i)
      have HNX : ∀ o, o = St.stepOf f (St.giveOf rn r f ((St.runS rn r f v ins wants i).vol + ins i)) ((St.runS rn r f v ins wants i).vol + ins i) (wants i) → Hid (St.runS rn r f v ins wants (i + 1) = St.addS i (St.runS rn r f v ins wants i) o) := fun o ho => by show _ = _; rw [ho]; rfl
      have HNX' := Lib.hid HNX
      obtain ⟨s, hs⟩ : ∃ s, s = St.runS rn r f v ins wants i := ⟨_, rfl⟩
      rw [← hs] at sm hN HNX'
      have HSE := Lib.hid hs
      have HSM := Lib.hid sm
      have HRD : Hid (RdR w W1.heap.size W3.heap.size f rn r g cap bs fs s bi bw i (ins i) (wants i) wr) := ⟨hN.out, qi, qw⟩
      clear HNX hs sm qi qw hN
      go_wp2_with fail
      refine wp_region_held_drew (S := RdR w W1.heap.size W3.heap.size f rn r g cap bs fs s bi bw i (ins i) (wants i)) (by kernel_rfl) (HRD.out.below (Below.refl _ _).drew) (fun hHeld => ?_)
      have HR0 : Hid (RdR w W1.heap.size W3.heap.size f rn r g cap bs fs s bi bw i (ins i) (wants i) wr.drew) := hHeld
      clear HRD
      refine take_do (i := 0) (v := (baV f g rn cap)) rfl (by kernel_rfl) (by kernel_rfl) (by kernel_rfl) (fun _ _ _ h => h) (by rfl) ?_ (by assumption) ?_
      · intro w hSw
        obtain ⟨hr, hci, hcw⟩ := hSw; obtain ⟨⟨o0, o1, o2, o3, o4, o5⟩, _⟩ := row6_cells hr.out; obtain ⟨⟨d0, d1⟩, _⟩ := row2_cells hr.bas
        go_simp
      simp only [Act.put, List.setIfInBounds_toArray, List.set_cons_zero, List.set_cons_succ]
      refine take_do (i := 1) (v := (.pointer (some ⟨W1.heap.size, 0, none⟩))) rfl (by kernel_rfl) (by kernel_rfl) (by kernel_rfl) (fun _ _ _ h => h) (by rfl) ?_ (by assumption) ?_
      · intro w hSw
        obtain ⟨hr, hci, hcw⟩ := hSw; obtain ⟨⟨o0, o1, o2, o3, o4, o5⟩, _⟩ := row6_cells hr.out; obtain ⟨⟨d0, d1⟩, _⟩ := row2_cells hr.bas
        go_simp
      simp only [Act.put, List.setIfInBounds_toArray, List.set_cons_zero, List.set_cons_succ]
      refine take_do (i := 2) (v := (.int .i64 s.vol)) rfl (by kernel_rfl) (by kernel_rfl) (by kernel_rfl) (fun _ _ _ h => h) (by rfl) ?_ (by assumption) ?_
      · intro w hSw
        obtain ⟨hr, hci, hcw⟩ := hSw; obtain ⟨⟨o0, o1, o2, o3, o4, o5⟩, _⟩ := row6_cells hr.out; obtain ⟨⟨d0, d1⟩, _⟩ := row2_cells hr.bas
        go_simp
      simp only [Act.put, List.setIfInBounds_toArray, List.set_cons_zero, List.set_cons_succ]
      refine take_do (i := 3) (v := (.slice (some ⟨bi, 0, none⟩) n ik)) rfl (by kernel_rfl) (by kernel_rfl) (by kernel_rfl) (fun _ _ _ h => h) (by rfl) ?_ (by assumption) ?_
      · intro w hSw
        obtain ⟨hr, hci, hcw⟩ := hSw; obtain ⟨⟨o0, o1, o2, o3, o4, o5⟩, _⟩ := row6_cells hr.out; obtain ⟨⟨d0, d1⟩, _⟩ := row2_cells hr.bas
        go_simp
      simp only [Act.put, List.setIfInBounds_toArray, List.set_cons_zero, List.set_cons_succ]
      refine take_do (i := 4) (v := (.int .i64 i)) rfl (by kernel_rfl) (by kernel_rfl) (by kernel_rfl) (fun _ _ _ h => h) (by rfl) ?_ (by assumption) ?_
      · intro w hSw
        obtain ⟨hr, hci, hcw⟩ := hSw; obtain ⟨⟨o0, o1, o2, o3, o4, o5⟩, _⟩ := row6_cells hr.out; obtain ⟨⟨d0, d1⟩, _⟩ := row2_cells hr.bas
        go_simp
      simp only [Act.put, List.setIfInBounds_toArray, List.set_cons_zero, List.set_cons_succ]
      refine take_do (i := 5) (v := (.pointer (some ⟨bi, i, none⟩))) rfl (by kernel_rfl) (by kernel_rfl) (by kernel_rfl) (fun _ _ _ h => h) (by rfl) ?_ (by assumption) ?_
      · intro w hSw
        obtain ⟨hr, hci, hcw⟩ := hSw; obtain ⟨⟨o0, o1, o2, o3, o4, o5⟩, _⟩ := row6_cells hr.out; obtain ⟨⟨d0, d1⟩, _⟩ := row2_cells hr.bas
        go_simp
      simp only [Act.put, List.setIfInBounds_toArray, List.set_cons_zero, List.set_cons_succ]
      refine take_do (i := 6) (v := (.int .i64 (ins i))) rfl (by kernel_rfl) (by kernel_rfl) (by kernel_rfl) (fun _ _ _ h => h) (by rfl) ?_ (by assumption) ?_
      · intro w hSw
        obtain ⟨hr, hci, hcw⟩ := hSw; obtain ⟨⟨o0, o1, o2, o3, o4, o5⟩, _⟩ := row6_cells hr.out; obtain ⟨⟨d0, d1⟩, _⟩ := row2_cells hr.bas
        go_simp
      simp only [Act.put, List.setIfInBounds_toArray, List.set_cons_zero, List.set_cons_succ]
      refine take_do (i := 7) (v := (.slice (some ⟨bw, 0, none⟩) n wk)) rfl (by kernel_rfl) (by kernel_rfl) (by kernel_rfl) (fun _ _ _ h => h) (by rfl) ?_ (by assumption) ?_
      · intro w hSw
        obtain ⟨hr, hci, hcw⟩ := hSw; obtain ⟨⟨o0, o1, o2, o3, o4, o5⟩, _⟩ := row6_cells hr.out; obtain ⟨⟨d0, d1⟩, _⟩ := row2_cells hr.bas
        go_simp
      simp only [Act.put, List.setIfInBounds_toArray, List.set_cons_zero, List.set_cons_succ]
      refine take_do (i := 8) (v := (.int .i64 i)) rfl (by kernel_rfl) (by kernel_rfl) (by kernel_rfl) (fun _ _ _ h => h) (by rfl) ?_ (by assumption) ?_
      · intro w hSw
        obtain ⟨hr, hci, hcw⟩ := hSw; obtain ⟨⟨o0, o1, o2, o3, o4, o5⟩, _⟩ := row6_cells hr.out; obtain ⟨⟨d0, d1⟩, _⟩ := row2_cells hr.bas
        go_simp
      simp only [Act.put, List.setIfInBounds_toArray, List.set_cons_zero, List.set_cons_succ]
      refine take_do (i := 9) (v := (.pointer (some ⟨bw, i, none⟩))) rfl (by kernel_rfl) (by kernel_rfl) (by kernel_rfl) (fun _ _ _ h => h) (by rfl) ?_ (by assumption) ?_
      · intro w hSw
        obtain ⟨hr, hci, hcw⟩ := hSw; obtain ⟨⟨o0, o1, o2, o3, o4, o5⟩, _⟩ := row6_cells hr.out; obtain ⟨⟨d0, d1⟩, _⟩ := row2_cells hr.bas
        go_simp
      simp only [Act.put, List.setIfInBounds_toArray, List.set_cons_zero, List.set_cons_succ]
      refine take_do (i := 10) (v := (.int .i64 (wants i))) rfl (by kernel_rfl) (by kernel_rfl) (by kernel_rfl) (fun _ _ _ h => h) (by rfl) ?_ (by assumption) ?_
      · intro w hSw
        obtain ⟨hr, hci, hcw⟩ := hSw; obtain ⟨⟨o0, o1, o2, o3, o4, o5⟩, _⟩ := row6_cells hr.out; obtain ⟨⟨d0, d1⟩, _⟩ := row2_cells hr.bas
        go_simp
      simp only [Act.put, List.setIfInBounds_toArray, List.set_cons_zero, List.set_cons_succ]
      refine wpAnyH_ready (rs := [11, 15]) (by kernel_rfl) (by simp) (AllReadyH.cons (at_drop (i := 11) rfl) (fun K2 hK => ?_) (AllReadyH.cons (at_drop (i := 15) rfl) (fun K2 hK => ?_) (AllReadyH.nil)))
      · go_simp
        refine (stepBasin_any f rn r bs fs s.vol (ins i) (wants i) cap g _ HR0.out.1.rul HSO.out.2.1 (by omega) fb1 HSM.out.1.1.1 (by have := HSM.out.1.1.2; omega)).mono ?_
        rintro e W5 ⟨hend, hG5⟩
        have HR5 : Hid (RdR w W1.heap.size W3.heap.size f rn r g cap bs fs s bi bw i (ins i) (wants i) W5) := HR0.out.below hG5.bel
        rcases hend with ⟨hok, rfl⟩ | ⟨hno, se, rfl⟩
        · obtain ⟨o, ho⟩ : ∃ o, o = St.stepOf f (St.giveOf rn r f (s.vol + ins i)) (s.vol + ins i) (wants i) := ⟨_, rfl⟩
          have HOB : Hid (((0 ≤ o.giv ∧ o.giv ≤ 1000000) ∧ (0 ≤ o.spl ∧ o.spl ≤ 1001000000)) ∧ (0 ≤ o.sho ∧ o.sho ≤ 1000000)) := by
            have hy := hok.1
            have hx := hok.2
            unfold St.FlowOk at hy hx
            have sm := HSM.out
            have hgb := St.giveOf_bounds HSO.out.2.1 (f := f) (x := s.vol + ins i) (by omega) (by omega)
            have hst := St.step_bounds (f := f) (g := St.giveOf rn r f (s.vol + ins i)) (x := s.vol + ins i) (want := wants i) (by omega) hgb.1 hgb.2 (by omega) (by omega)
            rw [← ho] at hst
            show _ ∧ _
            omega
          have HNO : Hid (St.runS rn r f v ins wants (i + 1) = St.addS i s o) := HNX'.out o ho
          have HP1 : Hid (St.FlowsOk (i + 1) ins ∧ St.FlowsOk (i + 1) wants) := ⟨fun j hj => by
              by_cases e : j = i
              · subst e; exact hok.1
              · exact hP.out.1 j (by omega), fun j hj => by
              by_cases e : j = i
              · subst e; exact hok.2
              · exact hP.out.2 j (by omega)⟩
          rw [← ho]
          clear ho hok
          go_wp2_with fail
          refine hK.out _ _ (hHeld.below hG5.bel) (fun hHeld2 => ?_)
          clear hK hHeld
          have hHeld := hHeld2
          clear hHeld2
          clear hG5
          refine take_do (i := 12) (v := (.tuple #[outV o, .nilIface])) rfl (by kernel_rfl) (by kernel_rfl) (by kernel_rfl) (fun _ _ _ h => h) (by rfl) ?_ (by assumption) ?_
          · intro w hSw
            obtain ⟨hr, hci, hcw⟩ := hSw; obtain ⟨⟨o0, o1, o2, o3, o4, o5⟩, _⟩ := row6_cells hr.out; obtain ⟨⟨d0, d1⟩, _⟩ := row2_cells hr.bas
            go_simp
          simp only [Act.put, List.setIfInBounds_toArray, List.set_cons_zero, List.set_cons_succ]
          refine take_do (i := 13) (v := (outV o)) rfl (by kernel_rfl) (by kernel_rfl) (by kernel_rfl) (fun _ _ _ h => h) (by rfl) ?_ (by assumption) ?_
          · intro w hSw
            obtain ⟨hr, hci, hcw⟩ := hSw; obtain ⟨⟨o0, o1, o2, o3, o4, o5⟩, _⟩ := row6_cells hr.out; obtain ⟨⟨d0, d1⟩, _⟩ := row2_cells hr.bas
            go_simp
          simp only [Act.put, List.setIfInBounds_toArray, List.set_cons_zero, List.set_cons_succ]
          refine take_do (i := 14) (v := .nilIface) rfl (by kernel_rfl) (by kernel_rfl) (by kernel_rfl) (fun _ _ _ h => h) (by rfl) ?_ (by assumption) ?_
          · intro w hSw
            obtain ⟨hr, hci, hcw⟩ := hSw; obtain ⟨⟨o0, o1, o2, o3, o4, o5⟩, _⟩ := row6_cells hr.out; obtain ⟨⟨d0, d1⟩, _⟩ := row2_cells hr.bas
            go_simp
          simp only [Act.put, List.setIfInBounds_toArray, List.set_cons_zero, List.set_cons_succ]
          refine take_call (i := 15) rfl (by kernel_rfl) (fun K2 hK => ?_)
          go_simp
          refine hK.out _ _ (hHeld.below ((Below.refl _ _).alloc (Nat.le_refl _) _)) (fun hHeld2 => ?_)
          clear hK hHeld
          have hHeld := hHeld2
          clear hHeld2
          obtain ⟨W6, hW6⟩ : ∃ W6, W6 = W5.alloc zOutO := ⟨_, rfl⟩
          rw [← hW6] at hHeld ⊢
          have hb6 : Below W5.heap.size W5 W6 := by rw [hW6]; exact (Below.refl _ _).alloc (Nat.le_refl _) _
          have HX0 : Hid (W6.rowIs W5.heap.size 61 6 (r6 (.int .i64 0) (.int .i64 0) (.int .i64 0) (.int .i64 0) (.int .i64 0) (.int .i64 0))) := by show World.rowIs _ _ _ _ _; rw [hW6]; exact row6 W5 _ _ _ _ _ _ _
          have HRZ : Hid (RdR w W1.heap.size W3.heap.size f rn r g cap bs fs s bi bw i (ins i) (wants i) (put6 W6 W5.heap.size (.int .i64 o.vol) (.int .i64 o.giv) (.int .i64 o.spl) (.int .i64 o.sho) (.int .i64 0) (.int .i64 0))) := HR5.out.below (below_put6 hb6 (Nat.le_refl _) _ _ _ _ _ _)
          clear hW6 hb6
          obtain ⟨⟨o0, o1, o2, o3, o4, o5⟩, z0, z1, z2, z3, z4, z5⟩ := row6_cells HX0.out
          have HXZ : Hid ((put6 W6 W5.heap.size (.int .i64 o.vol) (.int .i64 o.giv) (.int .i64 o.spl) (.int .i64 o.sho) (.int .i64 0) (.int .i64 0)).rowIs W5.heap.size 61 6 (r6 (.int .i64 o.vol) (.int .i64 o.giv) (.int .i64 o.spl) (.int .i64 o.sho) (.int .i64 0) (.int .i64 0))) := row6_put HX0.out _ _ _ _ _ _
          obtain ⟨WZ, hWZ⟩ : ∃ WZ, WZ = put6 W6 W5.heap.size (.int .i64 o.vol) (.int .i64 o.giv) (.int .i64 o.spl) (.int .i64 o.sho) (.int .i64 0) (.int .i64 0) := ⟨_, rfl⟩
          refine take_call (i := 16) rfl (by kernel_rfl) (fun K2 hK => ?_)
          go_simp
          refine hK.out _ _ HRZ.out (fun hHeld2 => ?_)
          clear hK hHeld o0 o1 o2 o3 o4 o5 z0 z1 z2 z3 z4 z5
          have hHeld := hHeld2
          clear hHeld2
          refine take_do (i := 17) (v := .nilIface) rfl (by kernel_rfl) (by kernel_rfl) (by kernel_rfl) (fun _ _ _ h => h) (by rfl) ?_ (by assumption) ?_
          · intro w hSw
            obtain ⟨hr, hci, hcw⟩ := hSw; obtain ⟨⟨o0, o1, o2, o3, o4, o5⟩, _⟩ := row6_cells hr.out; obtain ⟨⟨d0, d1⟩, _⟩ := row2_cells hr.bas
            go_simp
          simp only [Act.put, List.setIfInBounds_toArray, List.set_cons_zero, List.set_cons_succ]
          clear hHeld
          refine wpAnyH_done (by kernel_rfl) ?_ _
          rw [← hWZ] at HRZ HXZ
          unfold put6 at hWZ
          rw [← hWZ]
          clear hWZ
          obtain ⟨⟨x0, x1, x2, x3, x4, x5⟩, _⟩ := row6_cells HXZ.out
          have hlx : W1.heap.size < W5.heap.size := HR5.out.1.out.lt
          have hnx1 : ¬ W5.heap.size = W1.heap.size := by omega
          have hnx2 : ¬ W1.heap.size = W5.heap.size := by omega
          obtain ⟨⟨o0, o1, o2, o3, o4, o5⟩, z0, z1, z2, z3, z4, z5⟩ := row6_cells HRZ.out.1.out
          have hob := HOB.out
          have sm := HSM.out
          by_cases h0 : i = 0
          · subst h0
            have HNI : Hid (RnI w (WZ.setCell ⟨W1.heap.size, 4, none⟩ (.int .i64 o.vol)) W1.heap.size W3.heap.size f rn r g cap bs fs ⟨s.vol, s.giv, s.spl, s.sho, o.vol⟩) := HRZ.out.1.wors o.vol
            go_wp2_with fail
            refine (addStep_any ⟨s.vol, s.giv, s.spl, s.sho, o.vol, 0⟩ ⟨o.vol, o.giv, o.spl, o.sho, 0, 0⟩ _ (by dsimp only; omega) (by dsimp only; omega) (by dsimp only; omega) (by dsimp only; omega) (by dsimp only; omega) (by dsimp only; omega)).mono ?_
            rintro e W6 ⟨rfl, hG6⟩
            have HN6 := Lib.hid (HNI.out.below hG6.bel)
            have e9 : min o.vol o.vol = o.vol := by omega
            rw [e9]
            clear e9 hG6 o0 o1 o2 o3 o4 o5 z0 z1 z2 z3 z4 z5 x0 x1 x2 x3 x4 x5 hob sm
            obtain ⟨⟨o0, o1, o2, o3, o4, o5⟩, z0, z1, z2, z3, z4, z5⟩ := row6_cells HN6.out.out
            have HE9 : Hid (RnI w (put6 W6 W1.heap.size (.int .i64 o.vol) (.int .i64 (s.giv + o.giv)) (.int .i64 (s.spl + o.spl)) (.int .i64 (s.sho + o.sho)) (.int .i64 o.vol) (.int .i64 0)) W1.heap.size W3.heap.size f rn r g cap bs fs (St.runS rn r f v ins wants (0 + 1))) := by
              show RnI _ _ _ _ _ _ _ _ _ _ _ _
              rw [HNO.out]
              exact HN6.out.put ⟨o.vol, s.giv + o.giv, s.spl + o.spl, s.sho + o.sho, o.vol⟩
            unfold put6 at HE9
            go_wp2_with fail
            go_roundw
            case rel => exact ⟨0 + 1, by omega, by go_num, HE9, HP1⟩
            case measure => simp [intOf]; omega
          · have hi0 : ((i : Int) == 0) = false := by simp; omega
            have hi1 : (i == 0) = false := by simp; omega
            go_wp2_with fail
            refine (addStep_any ⟨s.vol, s.giv, s.spl, s.sho, s.wor, 0⟩ ⟨o.vol, o.giv, o.spl, o.sho, 0, 0⟩ _ (by dsimp only; omega) (by dsimp only; omega) (by dsimp only; omega) (by dsimp only; omega) (by dsimp only; omega) (by dsimp only; omega)).mono ?_
            rintro e W6 ⟨rfl, hG6⟩
            have HN6 := Lib.hid (HRZ.out.1.below hG6.bel)
            obtain ⟨mn, hmn⟩ : ∃ mn, mn = min s.wor o.vol := ⟨_, rfl⟩
            rw [← hmn]
            have HMN := Lib.hid hmn
            clear hmn hG6 o0 o1 o2 o3 o4 o5 z0 z1 z2 z3 z4 z5 x0 x1 x2 x3 x4 x5 hob sm
            obtain ⟨⟨o0, o1, o2, o3, o4, o5⟩, z0, z1, z2, z3, z4, z5⟩ := row6_cells HN6.out.out
            have HE9 : Hid (RnI w (put6 W6 W1.heap.size (.int .i64 o.vol) (.int .i64 (s.giv + o.giv)) (.int .i64 (s.spl + o.spl)) (.int .i64 (s.sho + o.sho)) (.int .i64 mn) (.int .i64 0)) W1.heap.size W3.heap.size f rn r g cap bs fs (St.runS rn r f v ins wants (i + 1))) := by
              show RnI _ _ _ _ _ _ _ _ _ _ _ _
              rw [HNO.out]
              unfold St.addS
              rw [if_neg h0, ← HMN.out]
              exact HN6.out.put ⟨o.vol, s.giv + o.giv, s.spl + o.spl, s.sho + o.sho, mn⟩
            unfold put6 at HE9
            go_wp2_with fail
            go_roundw
            case rel => exact ⟨i + 1, by omega, by go_num, HE9, HP1⟩
            case measure => simp [intOf]; omega
        · have HNE : Hid (¬ (St.FlowsOk n ins ∧ St.FlowsOk n wants)) := fun h => hno ⟨h.1 i hlt, h.2 i hlt⟩
          clear hno
          go_wp2_with fail
          refine hK.out _ _ (hHeld.below hG5.bel) (fun hHeld2 => ?_)
          clear hK hHeld
          have hHeld := hHeld2
          clear hHeld2
          clear hG5
          refine take_do (i := 12) (v := (.tuple #[zOut, errV se 1])) rfl (by kernel_rfl) (by kernel_rfl) (by kernel_rfl) (fun _ _ _ h => h) (by rfl) ?_ (by assumption) ?_
          · intro w hSw
            obtain ⟨hr, hci, hcw⟩ := hSw; obtain ⟨⟨o0, o1, o2, o3, o4, o5⟩, _⟩ := row6_cells hr.out; obtain ⟨⟨d0, d1⟩, _⟩ := row2_cells hr.bas
            go_simp
          simp only [Act.put, List.setIfInBounds_toArray, List.set_cons_zero, List.set_cons_succ]
          refine take_do (i := 13) (v := zOut) rfl (by kernel_rfl) (by kernel_rfl) (by kernel_rfl) (fun _ _ _ h => h) (by rfl) ?_ (by assumption) ?_
          · intro w hSw
            obtain ⟨hr, hci, hcw⟩ := hSw; obtain ⟨⟨o0, o1, o2, o3, o4, o5⟩, _⟩ := row6_cells hr.out; obtain ⟨⟨d0, d1⟩, _⟩ := row2_cells hr.bas
            go_simp
          simp only [Act.put, List.setIfInBounds_toArray, List.set_cons_zero, List.set_cons_succ]
          refine take_do (i := 14) (v := (errV se 1)) rfl (by kernel_rfl) (by kernel_rfl) (by kernel_rfl) (fun _ _ _ h => h) (by rfl) ?_ (by assumption) ?_
          · intro w hSw
            obtain ⟨hr, hci, hcw⟩ := hSw; obtain ⟨⟨o0, o1, o2, o3, o4, o5⟩, _⟩ := row6_cells hr.out; obtain ⟨⟨d0, d1⟩, _⟩ := row2_cells hr.bas
            go_simp
          simp only [Act.put, List.setIfInBounds_toArray, List.set_cons_zero, List.set_cons_succ]
          refine take_call (i := 15) rfl (by kernel_rfl) (fun K2 hK => ?_)
          go_simp
          refine hK.out _ _ (hHeld.below ((Below.refl _ _).alloc (Nat.le_refl _) _)) (fun hHeld2 => ?_)
          clear hK hHeld
          have hHeld := hHeld2
          clear hHeld2
          obtain ⟨W6, hW6⟩ : ∃ W6, W6 = W5.alloc zOutO := ⟨_, rfl⟩
          rw [← hW6] at hHeld ⊢
          have hb6 : Below W5.heap.size W5 W6 := by rw [hW6]; exact (Below.refl _ _).alloc (Nat.le_refl _) _
          have HX0 : Hid (W6.rowIs W5.heap.size 61 6 (r6 (.int .i64 0) (.int .i64 0) (.int .i64 0) (.int .i64 0) (.int .i64 0) (.int .i64 0))) := by show World.rowIs _ _ _ _ _; rw [hW6]; exact row6 W5 _ _ _ _ _ _ _
          have HRZ : Hid (RdR w W1.heap.size W3.heap.size f rn r g cap bs fs s bi bw i (ins i) (wants i) (put6 W6 W5.heap.size (.int .i64 0) (.int .i64 0) (.int .i64 0) (.int .i64 0) (.int .i64 0) (.int .i64 0))) := HR5.out.below (below_put6 hb6 (Nat.le_refl _) _ _ _ _ _ _)
          clear hW6 hb6
          obtain ⟨⟨o0, o1, o2, o3, o4, o5⟩, z0, z1, z2, z3, z4, z5⟩ := row6_cells HX0.out
          have HXZ : Hid ((put6 W6 W5.heap.size (.int .i64 0) (.int .i64 0) (.int .i64 0) (.int .i64 0) (.int .i64 0) (.int .i64 0)).rowIs W5.heap.size 61 6 (r6 (.int .i64 0) (.int .i64 0) (.int .i64 0) (.int .i64 0) (.int .i64 0) (.int .i64 0))) := row6_put HX0.out _ _ _ _ _ _
          obtain ⟨WZ, hWZ⟩ : ∃ WZ, WZ = put6 W6 W5.heap.size (.int .i64 0) (.int .i64 0) (.int .i64 0) (.int .i64 0) (.int .i64 0) (.int .i64 0) := ⟨_, rfl⟩
          refine take_call (i := 16) rfl (by kernel_rfl) (fun K2 hK => ?_)
          go_simp
          refine hK.out _ _ HRZ.out (fun hHeld2 => ?_)
          clear hK hHeld o0 o1 o2 o3 o4 o5 z0 z1 z2 z3 z4 z5
          have hHeld := hHeld2
          clear hHeld2
          refine take_do (i := 17) (v := (errV se 1)) rfl (by kernel_rfl) (by kernel_rfl) (by kernel_rfl) (fun _ _ _ h => h) (by rfl) ?_ (by assumption) ?_
          · intro w hSw
            obtain ⟨hr, hci, hcw⟩ := hSw; obtain ⟨⟨o0, o1, o2, o3, o4, o5⟩, _⟩ := row6_cells hr.out; obtain ⟨⟨d0, d1⟩, _⟩ := row2_cells hr.bas
            go_simp
          simp only [Act.put, List.setIfInBounds_toArray, List.set_cons_zero, List.set_cons_succ]
          clear hHeld
          refine wpAnyH_done (by kernel_rfl) ?_ _
          rw [← hWZ] at HRZ HXZ
          unfold put6 at hWZ
          rw [← hWZ]
          clear hWZ
          obtain ⟨⟨x0, x1, x2, x3, x4, x5⟩, _⟩ := row6_cells HXZ.out
          go_wp2_with fail
          refine (itoaS_any i (by omega) _ (tab_below HT.out HRZ.out.1.bel)).mono ?_
          rintro e W7 ⟨⟨sx, rfl, hsx⟩, hb7⟩
          have HN7 := Lib.hid (HRZ.out.1.below hb7)
          clear hb7 x0 x1 x2 x3 x4 x5
          obtain ⟨⟨o0, o1, o2, o3, o4, o5⟩, z0, z1, z2, z3, z4, z5⟩ := row6_cells HN7.out.res
          go_wp2_with fail
          refine bodyPost_ret (v := .tuple #[zOut, .iface 101 (.agg #[.string (⟨#[115, 116, 101, 112, 32]⟩ ++ sx), errV se 1])]) ?_ rfl ⟨Or.inr ⟨(fun h => HNE.out h.2.2), _, rfl, errIs_two _ _ _⟩, below_put6 HN7.out.bel HLE.out _ _ _ _ _ _⟩
          obtain ⟨⟨x0, x1, x2, x3, x4, x5⟩, _⟩ := row6_cells (row6_put HN7.out.res (.int .i64 0) (.int .i64 0) (.int .i64 0) (.int .i64 0) (.int .i64 0) (.int .i64 0))
          simp only [results, Tryd.results80]
          simp [go_sem, x0, x1, x2, x3, x4, x5]
      · go_simp
        refine hK.out _ _ (hHeld.below ((Below.refl _ _).alloc (Nat.le_refl _) _)) (fun hHeld2 => ?_)
        clear hK hHeld
        have hHeld := hHeld2
        clear hHeld2
        have HRB : Hid (RdR w W1.heap.size W3.heap.size f rn r g cap bs fs s bi bw i (ins i) (wants i) (wr.drew.alloc zOutO)) := hHeld
        refine take_call (i := 11) rfl (by kernel_rfl) (fun K2 hK => ?_)
        go_simp
        refine (stepBasin_any f rn r bs fs s.vol (ins i) (wants i) cap g _ HRB.out.1.rul HSO.out.2.1 (by omega) fb1 HSM.out.1.1.1 (by have := HSM.out.1.1.2; omega)).mono ?_
        rintro e W5 ⟨hend, hG5⟩
        have HR5 : Hid (RdR w W1.heap.size W3.heap.size f rn r g cap bs fs s bi bw i (ins i) (wants i) W5) := HRB.out.below hG5.bel
        have HG5 := Lib.hid hG5
        have HX0 : Hid (W5.rowIs wr.heap.size 61 6 (r6 (.int .i64 0) (.int .i64 0) (.int .i64 0) (.int .i64 0) (.int .i64 0) (.int .i64 0))) := brow_gr (row6 wr.drew _ _ _ _ _ _ _) hG5
        rcases hend with ⟨hok, rfl⟩ | ⟨hno, se, rfl⟩
        · obtain ⟨o, ho⟩ : ∃ o, o = St.stepOf f (St.giveOf rn r f (s.vol + ins i)) (s.vol + ins i) (wants i) := ⟨_, rfl⟩
          have HOB : Hid (((0 ≤ o.giv ∧ o.giv ≤ 1000000) ∧ (0 ≤ o.spl ∧ o.spl ≤ 1001000000)) ∧ (0 ≤ o.sho ∧ o.sho ≤ 1000000)) := by
            have hy := hok.1
            have hx := hok.2
            unfold St.FlowOk at hy hx
            have sm := HSM.out
            have hgb := St.giveOf_bounds HSO.out.2.1 (f := f) (x := s.vol + ins i) (by omega) (by omega)
            have hst := St.step_bounds (f := f) (g := St.giveOf rn r f (s.vol + ins i)) (x := s.vol + ins i) (want := wants i) (by omega) hgb.1 hgb.2 (by omega) (by omega)
            rw [← ho] at hst
            show _ ∧ _
            omega
          have HNO : Hid (St.runS rn r f v ins wants (i + 1) = St.addS i s o) := HNX'.out o ho
          have HP1 : Hid (St.FlowsOk (i + 1) ins ∧ St.FlowsOk (i + 1) wants) := ⟨fun j hj => by
              by_cases e : j = i
              · subst e; exact hok.1
              · exact hP.out.1 j (by omega), fun j hj => by
              by_cases e : j = i
              · subst e; exact hok.2
              · exact hP.out.2 j (by omega)⟩
          rw [← ho]
          clear ho hok
          go_wp2_with fail
          refine hK.out _ _ (hHeld.below hG5.bel) (fun hHeld2 => ?_)
          clear hK hHeld
          have hHeld := hHeld2
          clear hHeld2
          clear hG5
          refine take_do (i := 12) (v := (.tuple #[outV o, .nilIface])) rfl (by kernel_rfl) (by kernel_rfl) (by kernel_rfl) (fun _ _ _ h => h) (by rfl) ?_ (by assumption) ?_
          · intro w hSw
            obtain ⟨hr, hci, hcw⟩ := hSw; obtain ⟨⟨o0, o1, o2, o3, o4, o5⟩, _⟩ := row6_cells hr.out; obtain ⟨⟨d0, d1⟩, _⟩ := row2_cells hr.bas
            go_simp
          simp only [Act.put, List.setIfInBounds_toArray, List.set_cons_zero, List.set_cons_succ]
          refine take_do (i := 13) (v := (outV o)) rfl (by kernel_rfl) (by kernel_rfl) (by kernel_rfl) (fun _ _ _ h => h) (by rfl) ?_ (by assumption) ?_
          · intro w hSw
            obtain ⟨hr, hci, hcw⟩ := hSw; obtain ⟨⟨o0, o1, o2, o3, o4, o5⟩, _⟩ := row6_cells hr.out; obtain ⟨⟨d0, d1⟩, _⟩ := row2_cells hr.bas
            go_simp
          simp only [Act.put, List.setIfInBounds_toArray, List.set_cons_zero, List.set_cons_succ]
          refine take_do (i := 14) (v := .nilIface) rfl (by kernel_rfl) (by kernel_rfl) (by kernel_rfl) (fun _ _ _ h => h) (by rfl) ?_ (by assumption) ?_
          · intro w hSw
            obtain ⟨hr, hci, hcw⟩ := hSw; obtain ⟨⟨o0, o1, o2, o3, o4, o5⟩, _⟩ := row6_cells hr.out; obtain ⟨⟨d0, d1⟩, _⟩ := row2_cells hr.bas
            go_simp
          simp only [Act.put, List.setIfInBounds_toArray, List.set_cons_zero, List.set_cons_succ]
          have HRZ : Hid (RdR w W1.heap.size W3.heap.size f rn r g cap bs fs s bi bw i (ins i) (wants i) (put6 W5 wr.heap.size (.int .i64 o.vol) (.int .i64 o.giv) (.int .i64 o.spl) (.int .i64 o.sho) (.int .i64 0) (.int .i64 0))) := HR0.out.below (below_put6 (((Below.refl _ _).alloc (Nat.le_refl _) _).trans (HG5.out.bel.mono (by simp))) (Nat.le_refl _) _ _ _ _ _ _)
          obtain ⟨⟨o0, o1, o2, o3, o4, o5⟩, z0, z1, z2, z3, z4, z5⟩ := row6_cells HX0.out
          have HXZ : Hid ((put6 W5 wr.heap.size (.int .i64 o.vol) (.int .i64 o.giv) (.int .i64 o.spl) (.int .i64 o.sho) (.int .i64 0) (.int .i64 0)).rowIs wr.heap.size 61 6 (r6 (.int .i64 o.vol) (.int .i64 o.giv) (.int .i64 o.spl) (.int .i64 o.sho) (.int .i64 0) (.int .i64 0))) := row6_put HX0.out _ _ _ _ _ _
          obtain ⟨WZ, hWZ⟩ : ∃ WZ, WZ = put6 W5 wr.heap.size (.int .i64 o.vol) (.int .i64 o.giv) (.int .i64 o.spl) (.int .i64 o.sho) (.int .i64 0) (.int .i64 0) := ⟨_, rfl⟩
          refine take_call (i := 16) rfl (by kernel_rfl) (fun K2 hK => ?_)
          go_simp
          refine hK.out _ _ HRZ.out (fun hHeld2 => ?_)
          clear hK hHeld o0 o1 o2 o3 o4 o5 z0 z1 z2 z3 z4 z5
          have hHeld := hHeld2
          clear hHeld2
          refine take_do (i := 17) (v := .nilIface) rfl (by kernel_rfl) (by kernel_rfl) (by kernel_rfl) (fun _ _ _ h => h) (by rfl) ?_ (by assumption) ?_
          · intro w hSw
            obtain ⟨hr, hci, hcw⟩ := hSw; obtain ⟨⟨o0, o1, o2, o3, o4, o5⟩, _⟩ := row6_cells hr.out; obtain ⟨⟨d0, d1⟩, _⟩ := row2_cells hr.bas
            go_simp
          simp only [Act.put, List.setIfInBounds_toArray, List.set_cons_zero, List.set_cons_succ]
          clear hHeld
          refine wpAnyH_done (by kernel_rfl) ?_ _
          rw [← hWZ] at HRZ HXZ
          unfold put6 at hWZ
          rw [← hWZ]
          clear hWZ
          obtain ⟨⟨x0, x1, x2, x3, x4, x5⟩, _⟩ := row6_cells HXZ.out
          have hlx : W1.heap.size < wr.heap.size := HR0.out.1.out.lt
          have hnx1 : ¬ wr.heap.size = W1.heap.size := by omega
          have hnx2 : ¬ W1.heap.size = wr.heap.size := by omega
          obtain ⟨⟨o0, o1, o2, o3, o4, o5⟩, z0, z1, z2, z3, z4, z5⟩ := row6_cells HRZ.out.1.out
          have hob := HOB.out
          have sm := HSM.out
          by_cases h0 : i = 0
          · subst h0
            have HNI : Hid (RnI w (WZ.setCell ⟨W1.heap.size, 4, none⟩ (.int .i64 o.vol)) W1.heap.size W3.heap.size f rn r g cap bs fs ⟨s.vol, s.giv, s.spl, s.sho, o.vol⟩) := HRZ.out.1.wors o.vol
            go_wp2_with fail
            refine (addStep_any ⟨s.vol, s.giv, s.spl, s.sho, o.vol, 0⟩ ⟨o.vol, o.giv, o.spl, o.sho, 0, 0⟩ _ (by dsimp only; omega) (by dsimp only; omega) (by dsimp only; omega) (by dsimp only; omega) (by dsimp only; omega) (by dsimp only; omega)).mono ?_
            rintro e W6 ⟨rfl, hG6⟩
            have HN6 := Lib.hid (HNI.out.below hG6.bel)
            have e9 : min o.vol o.vol = o.vol := by omega
            rw [e9]
            clear e9 hG6 o0 o1 o2 o3 o4 o5 z0 z1 z2 z3 z4 z5 x0 x1 x2 x3 x4 x5 hob sm
            obtain ⟨⟨o0, o1, o2, o3, o4, o5⟩, z0, z1, z2, z3, z4, z5⟩ := row6_cells HN6.out.out
            have HE9 : Hid (RnI w (put6 W6 W1.heap.size (.int .i64 o.vol) (.int .i64 (s.giv + o.giv)) (.int .i64 (s.spl + o.spl)) (.int .i64 (s.sho + o.sho)) (.int .i64 o.vol) (.int .i64 0)) W1.heap.size W3.heap.size f rn r g cap bs fs (St.runS rn r f v ins wants (0 + 1))) := by
              show RnI _ _ _ _ _ _ _ _ _ _ _ _
              rw [HNO.out]
              exact HN6.out.put ⟨o.vol, s.giv + o.giv, s.spl + o.spl, s.sho + o.sho, o.vol⟩
            unfold put6 at HE9
            go_wp2_with fail
            go_roundw
            case rel => exact ⟨0 + 1, by omega, by go_num, HE9, HP1⟩
            case measure => simp [intOf]; omega
          · have hi0 : ((i : Int) == 0) = false := by simp; omega
            have hi1 : (i == 0) = false := by simp; omega
            go_wp2_with fail
            refine (addStep_any ⟨s.vol, s.giv, s.spl, s.sho, s.wor, 0⟩ ⟨o.vol, o.giv, o.spl, o.sho, 0, 0⟩ _ (by dsimp only; omega) (by dsimp only; omega) (by dsimp only; omega) (by dsimp only; omega) (by dsimp only; omega) (by dsimp only; omega)).mono ?_
            rintro e W6 ⟨rfl, hG6⟩
            have HN6 := Lib.hid (HRZ.out.1.below hG6.bel)
            obtain ⟨mn, hmn⟩ : ∃ mn, mn = min s.wor o.vol := ⟨_, rfl⟩
            rw [← hmn]
            have HMN := Lib.hid hmn
            clear hmn hG6 o0 o1 o2 o3 o4 o5 z0 z1 z2 z3 z4 z5 x0 x1 x2 x3 x4 x5 hob sm
            obtain ⟨⟨o0, o1, o2, o3, o4, o5⟩, z0, z1, z2, z3, z4, z5⟩ := row6_cells HN6.out.out
            have HE9 : Hid (RnI w (put6 W6 W1.heap.size (.int .i64 o.vol) (.int .i64 (s.giv + o.giv)) (.int .i64 (s.spl + o.spl)) (.int .i64 (s.sho + o.sho)) (.int .i64 mn) (.int .i64 0)) W1.heap.size W3.heap.size f rn r g cap bs fs (St.runS rn r f v ins wants (i + 1))) := by
              show RnI _ _ _ _ _ _ _ _ _ _ _ _
              rw [HNO.out]
              unfold St.addS
              rw [if_neg h0, ← HMN.out]
              exact HN6.out.put ⟨o.vol, s.giv + o.giv, s.spl + o.spl, s.sho + o.sho, mn⟩
            unfold put6 at HE9
            go_wp2_with fail
            go_roundw
            case rel => exact ⟨i + 1, by omega, by go_num, HE9, HP1⟩
            case measure => simp [intOf]; omega
        · have HNE : Hid (¬ (St.FlowsOk n ins ∧ St.FlowsOk n wants)) := fun h => hno ⟨h.1 i hlt, h.2 i hlt⟩
          clear hno
          go_wp2_with fail
          refine hK.out _ _ (hHeld.below hG5.bel) (fun hHeld2 => ?_)
          clear hK hHeld
          have hHeld := hHeld2
          clear hHeld2
          clear hG5
          refine take_do (i := 12) (v := (.tuple #[zOut, errV se 1])) rfl (by kernel_rfl) (by kernel_rfl) (by kernel_rfl) (fun _ _ _ h => h) (by rfl) ?_ (by assumption) ?_
          · intro w hSw
            obtain ⟨hr, hci, hcw⟩ := hSw; obtain ⟨⟨o0, o1, o2, o3, o4, o5⟩, _⟩ := row6_cells hr.out; obtain ⟨⟨d0, d1⟩, _⟩ := row2_cells hr.bas
            go_simp
          simp only [Act.put, List.setIfInBounds_toArray, List.set_cons_zero, List.set_cons_succ]
          refine take_do (i := 13) (v := zOut) rfl (by kernel_rfl) (by kernel_rfl) (by kernel_rfl) (fun _ _ _ h => h) (by rfl) ?_ (by assumption) ?_
          · intro w hSw
            obtain ⟨hr, hci, hcw⟩ := hSw; obtain ⟨⟨o0, o1, o2, o3, o4, o5⟩, _⟩ := row6_cells hr.out; obtain ⟨⟨d0, d1⟩, _⟩ := row2_cells hr.bas
            go_simp
          simp only [Act.put, List.setIfInBounds_toArray, List.set_cons_zero, List.set_cons_succ]
          refine take_do (i := 14) (v := (errV se 1)) rfl (by kernel_rfl) (by kernel_rfl) (by kernel_rfl) (fun _ _ _ h => h) (by rfl) ?_ (by assumption) ?_
          · intro w hSw
            obtain ⟨hr, hci, hcw⟩ := hSw; obtain ⟨⟨o0, o1, o2, o3, o4, o5⟩, _⟩ := row6_cells hr.out; obtain ⟨⟨d0, d1⟩, _⟩ := row2_cells hr.bas
            go_simp
          simp only [Act.put, List.setIfInBounds_toArray, List.set_cons_zero, List.set_cons_succ]
          have HRZ : Hid (RdR w W1.heap.size W3.heap.size f rn r g cap bs fs s bi bw i (ins i) (wants i) (put6 W5 wr.heap.size (.int .i64 0) (.int .i64 0) (.int .i64 0) (.int .i64 0) (.int .i64 0) (.int .i64 0))) := HR0.out.below (below_put6 (((Below.refl _ _).alloc (Nat.le_refl _) _).trans (HG5.out.bel.mono (by simp))) (Nat.le_refl _) _ _ _ _ _ _)
          obtain ⟨⟨o0, o1, o2, o3, o4, o5⟩, z0, z1, z2, z3, z4, z5⟩ := row6_cells HX0.out
          have HXZ : Hid ((put6 W5 wr.heap.size (.int .i64 0) (.int .i64 0) (.int .i64 0) (.int .i64 0) (.int .i64 0) (.int .i64 0)).rowIs wr.heap.size 61 6 (r6 (.int .i64 0) (.int .i64 0) (.int .i64 0) (.int .i64 0) (.int .i64 0) (.int .i64 0))) := row6_put HX0.out _ _ _ _ _ _
          obtain ⟨WZ, hWZ⟩ : ∃ WZ, WZ = put6 W5 wr.heap.size (.int .i64 0) (.int .i64 0) (.int .i64 0) (.int .i64 0) (.int .i64 0) (.int .i64 0) := ⟨_, rfl⟩
          refine take_call (i := 16) rfl (by kernel_rfl) (fun K2 hK => ?_)
          go_simp
          refine hK.out _ _ HRZ.out (fun hHeld2 => ?_)
          clear hK hHeld o0 o1 o2 o3 o4 o5 z0 z1 z2 z3 z4 z5
          have hHeld := hHeld2
          clear hHeld2
          refine take_do (i := 17) (v := (errV se 1)) rfl (by kernel_rfl) (by kernel_rfl) (by kernel_rfl) (fun _ _ _ h => h) (by rfl) ?_ (by assumption) ?_
          · intro w hSw
            obtain ⟨hr, hci, hcw⟩ := hSw; obtain ⟨⟨o0, o1, o2, o3, o4, o5⟩, _⟩ := row6_cells hr.out; obtain ⟨⟨d0, d1⟩, _⟩ := row2_cells hr.bas
            go_simp
          simp only [Act.put, List.setIfInBounds_toArray, List.set_cons_zero, List.set_cons_succ]
          clear hHeld
          refine wpAnyH_done (by kernel_rfl) ?_ _
          rw [← hWZ] at HRZ HXZ
          unfold put6 at hWZ
          rw [← hWZ]
          clear hWZ
          obtain ⟨⟨x0, x1, x2, x3, x4, x5⟩, _⟩ := row6_cells HXZ.out
          go_wp2_with fail
          refine (itoaS_any i (by omega) _ (tab_below HT.out HRZ.out.1.bel)).mono ?_
          rintro e W7 ⟨⟨sx, rfl, hsx⟩, hb7⟩
          have HN7 := Lib.hid (HRZ.out.1.below hb7)
          clear hb7 x0 x1 x2 x3 x4 x5
          obtain ⟨⟨o0, o1, o2, o3, o4, o5⟩, z0, z1, z2, z3, z4, z5⟩ := row6_cells HN7.out.res
          go_wp2_with fail
          refine bodyPost_ret (v := .tuple #[zOut, .iface 101 (.agg #[.string (⟨#[115, 116, 101, 112, 32]⟩ ++ sx), errV se 1])]) ?_ rfl ⟨Or.inr ⟨(fun h => HNE.out h.2.2), _, rfl, errIs_two _ _ _⟩, below_put6 HN7.out.bel HLE.out _ _ _ _ _ _⟩
          obtain ⟨⟨x0, x1, x2, x3, x4, x5⟩, _⟩ := row6_cells (row6_put HN7.out.res (.int .i64 0) (.int .i64 0) (.int .i64 0) (.int .i64 0) (.int .i64 0) (.int .i64 0))
          simp only [results, Tryd.results80]
          simp [go_sem, x0, x1, x2, x3, x4, x5]
    · obtain rfl : i = n := by omega
      obtain ⟨⟨o0, o1, o2, o3, o4, o5⟩, _⟩ := row6_cells hN.out.out
      obtain ⟨⟨y0, y1, y2, y3, y4, y5⟩, z0, z1, z2, z3, z4, z5⟩ := row6_cells hN.out.res
      have HRF := Lib.hid hN.out.res
      have HBF := Lib.hid hN.out.bel
      have HND : Hid (RsEnd cn c rn r v i ins i wants (.returned (.tuple #[ansV ⟨(St.runS rn r f v ins wants i).vol, (St.runS rn r f v ins wants i).giv, (St.runS rn r f v ins wants i).spl, (St.runS rn r f v ins wants i).sho, (St.runS rn r f v ins wants i).wor, 0⟩, .nilIface]))) := Or.inl ⟨⟨HSO.out, rfl, hP.out⟩, by rw [HF.out]⟩
      generalize St.runS rn r f v ins wants i = s at *
      clear hN
      go_wp2_with fail
      refine bodyPost_ret (v := .tuple #[ansV ⟨s.vol, s.giv, s.spl, s.sho, s.wor, 0⟩, .nilIface]) ?_ rfl ⟨HND.out, below_put6 HBF.out HLE.out _ _ _ _ _ _⟩
      obtain ⟨⟨x0, x1, x2, x3, x4, x5⟩, _⟩ := row6_cells (row6_put HRF.out (.int .i64 s.vol) (.int .i64 s.giv) (.int .i64 s.spl) (.int .i64 s.sho) (.int .i64 s.wor) (.int .i64 0))
      simp only [results, Tryd.results80]
      simp [go_sem, x0, x1, x2, x3, x4, x5]
end Go.Proofs.YtdpghhmcibiplaaDoor
