/-
  The contracts of the program's StoreStep and what it calls.
-/
import Derived.Test.YtdpghhmcibiplaaDoorStB4
import Derived.Test.YtdpghhmcibiplaaDoorAsC
import Derived.Test.YtdpghhmcibiplaaDoorEt
namespace Go.Proofs.YtdpghhmcibiplaaDoor
open Go.RowKit Go.Deep

/-- An answer. -/
structure Ans where
  a : Int
  b : Int
  c : Int
  d : Int
  e : Int
  k : Int
abbrev ansV (x : Ans) : Value := .agg #[.int .i64 x.a, .int .i64 x.b, .int .i64 x.c, .int .i64 x.d, .int .i64 x.e, .int .i64 x.k]
/-- What a step tells. -/
def StepIs (cn : Nat) (c : Nat → St.Pr) (rn : Nat) (r : Nat → St.Pr) (v y x : Int) (z : Ans) : Prop :=
  ((St.StoreOk cn c rn r v ∧ St.FlowOk y ∧ St.FlowOk x) → z = ⟨(St.stepOf (St.full cn c) (St.giveOf rn r (St.full cn c) (v + y)) (v + y) x).vol, (St.stepOf (St.full cn c) (St.giveOf rn r (St.full cn c) (v + y)) (v + y) x).giv, (St.stepOf (St.full cn c) (St.giveOf rn r (St.full cn c) (v + y)) (v + y) x).spl, (St.stepOf (St.full cn c) (St.giveOf rn r (St.full cn c) (v + y)) (v + y) x).sho, 0, 0⟩) ∧
  (¬ (St.StoreOk cn c rn r v ∧ St.FlowOk y ∧ St.FlowOk x) → z = ⟨0, 0, 0, 0, 0, 1⟩)
theorem StepIs.one {cn : Nat} {c : Nat → St.Pr} {rn : Nat} {r : Nat → St.Pr} {v y x : Int} {z1 z2 : Ans} (h1 : StepIs cn c rn r v y x z1) (h2 : StepIs cn c rn r v y x z2) : z1 = z2 := by
  by_cases h : St.StoreOk cn c rn r v ∧ St.FlowOk y ∧ St.FlowOk x
  · rw [h1.1 h, h2.1 h]
  · rw [h1.2 h, h2.2 h]
/-- An error that bears a code. -/
def ErrIs (v : Value) (k : Int) : Prop := ∃ y, v = .iface 101 y ∧ AsFinds y k
theorem errIs_one (s : ByteArray) (k : Int) : ErrIs (errV s k) k := ⟨_, rfl, finds_one s k⟩
theorem errIs_two (s0 s : ByteArray) (k : Int) : ErrIs (.iface 101 (.agg #[.string s0, errV s k])) k := ⟨_, rfl, finds_two s0 s k⟩

theorem below_put6 {a w : World} (h : Below a.heap.size a w) {g : Nat} (hg : a.heap.size ≤ g) (x0 x1 x2 x3 x4 x5 : Value) : Below a.heap.size a (put6 w g x0 x1 x2 x3 x4 x5) :=
  (((((h.setCell (p := ⟨g, 0, none⟩) hg _).setCell (p := ⟨g, 1, none⟩) hg _).setCell (p := ⟨g, 2, none⟩) hg _).setCell (p := ⟨g, 3, none⟩) hg _).setCell (p := ⟨g, 4, none⟩) hg _).setCell (p := ⟨g, 5, none⟩) hg _
theorem put6_far (w : World) {g k : Nat} (hk : k ≠ g) (x0 x1 x2 x3 x4 x5 : Value) : (put6 w g x0 x1 x2 x3 x4 x5).heap[k]? = w.heap[k]? :=
  (Below.heap_setCell _ ⟨g, 5, none⟩ _ _ hk).trans ((Below.heap_setCell _ ⟨g, 4, none⟩ _ _ hk).trans ((Below.heap_setCell _ ⟨g, 3, none⟩ _ _ hk).trans ((Below.heap_setCell _ ⟨g, 2, none⟩ _ _ hk).trans ((Below.heap_setCell _ ⟨g, 1, none⟩ _ _ hk).trans (Below.heap_setCell _ ⟨g, 0, none⟩ _ _ hk)))))
theorem srow_below {w w' : World} {g : Nat} {t : TypeId} {m : Nat} {F : Nat → Value} (h : w.rowIs g t m F) (hb : Below w.heap.size w w') : w'.rowIs g t m F := h.of_block (hb.block _ h.lt)

set_option maxRecDepth 100000 in
set_option maxHeartbeats 2000000 in
theorem tellS_bad (x : Ans) (v : Value) (k : Int) (w : World) (hv : ErrIs v k) (hg : Et w) :
    Calls Tryd.prog 79 #[ansV x, v] w fun e w' => e = .returned (ansV ⟨0, 0, 0, 0, 0, k⟩) ∧ Below w.heap.size w w' := by
  obtain ⟨y, rfl, hy⟩ := hv
  obtain ⟨W, hW⟩ : ∃ W, W = (w.alloc (.cells #[.int .i64 x.a, .int .i64 x.b, .int .i64 x.c, .int .i64 x.d, .int .i64 x.e, .int .i64 x.k] 61)).alloc zOutO := ⟨_, rfl⟩
  have hB : Below w.heap.size w W := by rw [hW]; exact ((Below.refl _ _).alloc (Nat.le_refl _) _).alloc (by simp) _
  have RO : W.rowIs (w.heap.size + 1) 61 6 (r6 (.int .i64 0) (.int .i64 0) (.int .i64 0) (.int .i64 0) (.int .i64 0) (.int .i64 0)) := by
    rw [hW]
    have := row6 (w.alloc (.cells #[.int .i64 x.a, .int .i64 x.b, .int .i64 x.c, .int .i64 x.d, .int .i64 x.e, .int .i64 x.k] 61)) (.int .i64 0) (.int .i64 0) (.int .i64 0) (.int .i64 0) (.int .i64 0) (.int .i64 0) 61
    rwa [World.size_alloc] at this
  have HY := Lib.hid hy
  have HG : Hid (Et W) := hg.below hB
  have HW := Lib.hid hW
  have HB := Lib.hid hB
  have HRO := Lib.hid RO
  clear hy hg hW hB RO
  go_enter Tryd.func79, Tryd.ntmps79
  go_wp2_with fail
  rw [← HW.out]
  refine (codeOf_any y k HY.out _ HG.out).mono ?_
  rintro e w1 ⟨rfl, hb⟩
  have HB1 : Hid (Below w.heap.size w w1) := HB.out.trans (hb.mono HB.out.size)
  have HR1 := Lib.hid (srow_below HRO.out hb)
  obtain ⟨⟨o0, o1, o2, o3, o4, o5⟩, z0, z1, z2, z3, z4, z5⟩ := row6_cells HR1.out
  clear hb
  have hle : w.heap.size ≤ w.heap.size + 1 := by omega
  go_wp2_with fail
  refine bodyPost_ret (v := ansV ⟨0, 0, 0, 0, 0, k⟩) ?_ rfl ⟨rfl, below_put6 HB1.out hle _ _ _ _ _ _⟩
  obtain ⟨⟨x0, x1, x2, x3, x4, x5⟩, _⟩ := row6_cells (row6_put HR1.out (.int .i64 0) (.int .i64 0) (.int .i64 0) (.int .i64 0) (.int .i64 0) (.int .i64 k))
  simp only [results, Tryd.results79]
  simp [go_sem, x0, x1, x2, x3, x4, x5]
set_option maxRecDepth 100000 in
set_option maxHeartbeats 2000000 in
theorem tellS_ok (x : Ans) (w : World) :
    Calls Tryd.prog 79 #[ansV x, .nilIface] w fun e w' => e = .returned (ansV x) ∧ Below w.heap.size w w' := by
  go_enter Tryd.func79, Tryd.ntmps79
  go_wp2_with fail
  exact bodyPost_ret (v := ansV x) (by simp [results, Tryd.results79, go_sem]) rfl ⟨rfl, ((Below.refl _ _).alloc (Nat.le_refl _) _).alloc (by simp) _⟩
/-- How a basin's step ends: an answer and no error, or an error. -/
def BsEnd (f : Int) (m : Nat) (r : Nat → St.Pr) (v y x : Int) (e : Ending) : Prop :=
  ((St.FlowOk y ∧ St.FlowOk x) ∧ e = .returned (.tuple #[outV (St.stepOf f (St.giveOf m r f (v + y)) (v + y) x), .nilIface])) ∨
  (¬ (St.FlowOk y ∧ St.FlowOk x) ∧ ∃ s, e = .returned (.tuple #[zOut, errV s 1]))
set_option maxRecDepth 100000 in
set_option maxHeartbeats 4000000 in
theorem stepBasin_any (f : Int) (m : Nat) (r : Nat → St.Pr) (bs fs : Nat → Nat) (v y x : Int) (cap g : Nat) (w : World) (hB : BasR f m r g bs fs w) (hr : St.RulesOk m r) (f0 : 0 ≤ f) (f1 : f ≤ 1000000000) (v0 : 0 ≤ v) (v1 : v ≤ 1000000000) :
    Calls Tryd.prog 110 #[baV f g m cap, .int .i64 v, .int .i64 y, .int .i64 x] w fun e w' => BsEnd f m r v y x e ∧ Gr w w' := by
  obtain ⟨b1, h1⟩ := bool_of (0 ≤ y ∧ y ≤ 1000000)
  obtain ⟨b2, h2⟩ := bool_of (0 ≤ x ∧ x ≤ 1000000)
  obtain ⟨W, hW⟩ : ∃ W, W = (w.alloc (.cells #[.int .i64 f, .slice (some ⟨g, 0, none⟩) m cap] 138)).alloc zOutO := ⟨_, rfl⟩
  have hGW : Gr w W := by rw [hW]; exact ((Gr.refl _).alloc _).alloc _
  have c0 : W.cell? ⟨w.heap.size, 0, none⟩ = some (.int .i64 f) ∧ W.cell? ⟨w.heap.size, 1, none⟩ = some (.slice (some ⟨g, 0, none⟩) m cap) := by
    rw [hW]; exact ⟨bcell_up _ (bbox2 w _ _ _).1, bcell_up _ (bbox2 w _ _ _).2⟩
  have RO : W.rowIs (w.heap.size + 1) 61 6 (r6 (.int .i64 0) (.int .i64 0) (.int .i64 0) (.int .i64 0) (.int .i64 0) (.int .i64 0)) := by
    rw [hW]
    have := row6 (w.alloc (.cells #[.int .i64 f, .slice (some ⟨g, 0, none⟩) m cap] 138)) (.int .i64 0) (.int .i64 0) (.int .i64 0) (.int .i64 0) (.int .i64 0) (.int .i64 0) 61
    rwa [World.size_alloc] at this
  have HGW := Lib.hid hGW
  have HW := Lib.hid hW
  have HB := Lib.hid (hB.gr hGW)
  have HR := Lib.hid hr
  have K1 := Lib.hid h1
  have K2 := Lib.hid h2
  have HRO := Lib.hid RO
  obtain ⟨c00, c01⟩ := c0
  obtain ⟨⟨o0, o1, o2, o3, o4, o5⟩, z0, z1, z2, z3, z4, z5⟩ := row6_cells RO
  have hle : w.heap.size ≤ w.heap.size + 1 := by omega
  have HLE := Lib.hid hle
  clear hGW hW hB hr h1 h2 RO hle
  go_enter Tryd.func110, Tryd.ntmps110
  go_wp2_with fail
  rw [← HW.out]
  refine (within_any _ _ b1 K1.out _).mono ?_
  rintro e w1 ⟨rfl, rfl⟩
  cases b1 with
  | false =>
    go_wp2_with fail
    refine bodyPost_ret (v := .tuple #[zOut, errV ⟨#[119, 104, 97, 116, 32, 99, 111, 109, 101, 115, 32, 105, 110]⟩ 1]) ?_ rfl ⟨Or.inr ⟨(fun h => by have := K1.out.2 h.1; cases this), _, rfl⟩, gr_put6 HGW.out HLE.out _ _ _ _ _ _⟩
    obtain ⟨⟨x0, x1, x2, x3, x4, x5⟩, _⟩ := row6_cells (row6_put HRO.out (.int .i64 0) (.int .i64 0) (.int .i64 0) (.int .i64 0) (.int .i64 0) (.int .i64 0))
    simp only [results, Tryd.results110]
    simp [go_sem, x0, x1, x2, x3, x4, x5]
  | true =>
  go_wp2_with fail
  refine (within_any _ _ b2 K2.out _).mono ?_
  rintro e w1 ⟨rfl, rfl⟩
  cases b2 with
  | false =>
    go_wp2_with fail
    refine bodyPost_ret (v := .tuple #[zOut, errV ⟨#[119, 104, 97, 116, 32, 105, 115, 32, 119, 97, 110, 116, 101, 100]⟩ 1]) ?_ rfl ⟨Or.inr ⟨(fun h => by have := K2.out.2 h.2; cases this), _, rfl⟩, gr_put6 HGW.out HLE.out _ _ _ _ _ _⟩
    obtain ⟨⟨x0, x1, x2, x3, x4, x5⟩, _⟩ := row6_cells (row6_put HRO.out (.int .i64 0) (.int .i64 0) (.int .i64 0) (.int .i64 0) (.int .i64 0) (.int .i64 0))
    simp only [results, Tryd.results110]
    simp [go_sem, x0, x1, x2, x3, x4, x5]
  | true =>
  have hy : 0 ≤ y ∧ y ≤ 1000000 := by have := K1.out; simpa using this
  have hx : 0 ≤ x ∧ x ≤ 1000000 := by have := K2.out; simpa using this
  have HYX := Lib.hid (And.intro hy hx)
  clear hy hx
  go_wp2_with fail
  refine (stepR f m r bs fs v y x cap g _ HB.out HR.out f0 f1 v0 v1 HYX.out.1.1 HYX.out.1.2 HYX.out.2.1 HYX.out.2.2).mono ?_
  rintro e W2 ⟨rfl, hG⟩
  have HG2 : Hid (Gr w W2) := HGW.out.trans hG
  have HR2 := Lib.hid (brow_gr HRO.out hG)
  clear o0 o1 o2 o3 o4 o5 z0 z1 z2 z3 z4 z5 c00 c01
  obtain ⟨⟨o0, o1, o2, o3, o4, o5⟩, z0, z1, z2, z3, z4, z5⟩ := row6_cells HR2.out
  obtain ⟨o, ho⟩ : ∃ o, o = St.stepOf f (St.giveOf m r f (v + y)) (v + y) x := ⟨_, rfl⟩
  rw [← ho]
  have HO := Lib.hid ho
  clear hG ho
  go_wp2_with fail
  refine bodyPost_ret (v := .tuple #[outV o, .nilIface]) ?_ rfl ⟨Or.inl ⟨HYX.out, by rw [HO.out]⟩, gr_put6 HG2.out HLE.out _ _ _ _ _ _⟩
  obtain ⟨⟨x0, x1, x2, x3, x4, x5⟩, _⟩ := row6_cells (row6_put HR2.out (.int .i64 o.vol) (.int .i64 o.giv) (.int .i64 o.spl) (.int .i64 o.sho) (.int .i64 0) (.int .i64 0))
  simp only [results, Tryd.results110]
  simp [go_sem, x0, x1, x2, x3, x4, x5]
/-- What the last region reads. -/
def BxS (bx : Nat) (A : Nat → Value) (W : World) : Prop := W.rowIs bx 66 3 A
theorem BxS.below {bx : Nat} {A : Nat → Value} {W W' : World} (h : BxS bx A W) (hb : Below W.heap.size W W') : BxS bx A W' := srow_below h hb
def sr3 (a b c : Value) : Nat → Value := fun i => if i = 0 then a else if i = 1 then b else c
theorem srow3 (w : World) (a b c : Value) (t : TypeId) : (w.alloc (.cells #[a, b, c] t)).rowIs w.heap.size t 3 (sr3 a b c) := by
  refine ⟨_, blk_alloc_new _ _, rfl, fun i hi => ?_⟩
  have h3 : i = 0 ∨ i = 1 ∨ i = 2 := by omega
  rcases h3 with rfl | rfl | rfl <;> rfl
theorem srow3_cells {w : World} {g : Nat} {t : TypeId} {a b c : Value} (h : w.rowIs g t 3 (sr3 a b c)) : w.cell? ⟨g, 0, none⟩ = some a ∧ w.cell? ⟨g, 1, none⟩ = some b ∧ w.cell? ⟨g, 2, none⟩ = some c :=
  ⟨h.cell (i := 0) (by omega), h.cell (i := 1) (by omega), h.cell (i := 2) (by omega)⟩
end Go.Proofs.YtdpghhmcibiplaaDoor
