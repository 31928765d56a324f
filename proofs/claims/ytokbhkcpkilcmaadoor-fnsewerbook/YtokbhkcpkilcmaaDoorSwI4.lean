/-
  The contracts of the program's limits, of what goes on, of the sharing of a sewer's water, and of a small number's text.
-/
import Derived.Test.YtokbhkcpkilcmaaDoorSwI1
import Derived.Stop.Asserts
import Derived.Shelf.Abstract
namespace Go.Proofs.YtokbhkcpkilcmaaDoor
open Go.RowKit Go.Deep

abbrev mostN : String := "loop.example/g00068/impl.most"
theorem ret1 {a b : Int} (h : a = b) : Ending.returned (.int .i64 a) = .returned (.int .i64 b) := by rw [h]

set_option maxRecDepth 100000 in
set_option maxHeartbeats 2000000 in
theorem most_free (r : Sw.Rc) (x : Int) (w : World) (hr : Sw.Amounts r) (x0 : 0 ≤ x) (x1 : x ≤ 100000000) :
    Calls Tryd.prog 115 #[rcV r, .int .i64 x] w fun e w' => e = .returned (.int .i64 (r.fw)) ∧ Below w.heap.size w w' := by
  have hp := Sw.prod_bounds hr x0 x1
  have hs0 := Sw.share_nonneg hr x0
  have hs1 := Sw.share_le hr x0 x1
  obtain ⟨⟨k0, k1⟩, ⟨a0, a1⟩, ⟨b0, b1⟩, ⟨l0, l1⟩, ⟨s0, s1⟩⟩ := hr
  obtain ⟨hp0, hp1⟩ := hp
  have hB := Lib.hid ((Below.refl w.heap.size w).alloc (Nat.le_refl _) (.cells #[.int .i64 r.kd, .int .i64 r.st, .int .i64 r.rm, .int .i64 r.fw, .int .i64 r.lp, .int .i64 r.dn] 112))
  go_enter Tryd.func115, Tryd.ntmps115
  go_wp2_with fail
  all_goals
    refine bodyPost_ret (v := .int .i64 (r.fw)) ?_ rfl ⟨rfl, hB.out⟩
    simp only [results, Tryd.results115]
    simp [go_sem]

theorem meth_free (j : Nat) (v0 v1 v2 v3 v4 v5 : Value) (w : World) : (Go.method (j + 4) 112 (.agg #[v0, v1, v2, v3, v4, v5]) mostN).run Tryd.prog w = .ok (115, .agg #[v0, v1, v2, v3, v4, v5]) w := by kernel_rfl
set_option maxRecDepth 100000 in
set_option maxHeartbeats 2000000 in
theorem let_free (r : Sw.Rc) (x : Int) (w : World) (hr : Sw.Amounts r) (x0 : 0 ≤ x) (x1 : x ≤ 100000000) :
    Calls Tryd.prog 73 #[rcV r, .int .i64 x] w fun e w' => e = .returned (.int .i64 (min x (r.fw))) ∧ Below w.heap.size w w' := by
  have hm := meth_free
  have eD := enters_of Tryd.func115 (by kernel_rfl) rfl
  have HR := Lib.hid hr
  clear hr
  go_enter Tryd.func73, Tryd.ntmps73
  go_wp2_with fail
  refine (most_free r x _ HR.out x0 x1).mono ?_
  rintro e w1 ⟨rfl, hb⟩
  have HB := Lib.hid (((Below.refl w.heap.size w).alloc (Nat.le_refl _) (.cells #[.int .i64 r.kd, .int .i64 r.st, .int .i64 r.rm, .int .i64 r.fw, .int .i64 r.lp, .int .i64 r.dn] 112)).trans (hb.mono (by simp)))
  clear hb hm eD
  go_wp2_with fail
  all_goals
    refine bodyPost_ret (v := .int .i64 (min x (r.fw))) ?_ rfl ⟨rfl, HB.out⟩
    simp only [results, Tryd.results73]
    simp [go_sem]
    try omega

set_option maxRecDepth 100000 in
set_option maxHeartbeats 2000000 in
theorem most_full (r : Sw.Rc) (x : Int) (w : World) (hr : Sw.Amounts r) (x0 : 0 ≤ x) (x1 : x ≤ 100000000) :
    Calls Tryd.prog 116 #[rcV r, .int .i64 x] w fun e w' => e = .returned (.int .i64 (min (Sw.share r x) r.fw)) ∧ Below w.heap.size w w' := by
  have hp := Sw.prod_bounds hr x0 x1
  have hs0 := Sw.share_nonneg hr x0
  have hs1 := Sw.share_le hr x0 x1
  obtain ⟨⟨k0, k1⟩, ⟨a0, a1⟩, ⟨b0, b1⟩, ⟨l0, l1⟩, ⟨s0, s1⟩⟩ := hr
  obtain ⟨hp0, hp1⟩ := hp
  have hB := Lib.hid ((Below.refl w.heap.size w).alloc (Nat.le_refl _) (.cells #[.int .i64 r.kd, .int .i64 r.st, .int .i64 r.rm, .int .i64 r.fw, .int .i64 r.lp, .int .i64 r.dn] 114))
  have hnz : ¬ r.rm + 1 = 0 := by omega
  have hnz2 : (r.rm + 1 == 0) = false := by simp; omega
  have hq : (r.fw * x).tdiv (r.rm + 1) = Sw.share r x := by unfold Sw.share; exact Int.tdiv_eq_ediv_of_nonneg hp0
  have hzw : w.heap.size < (w.alloc (.cells #[.int .i64 r.kd, .int .i64 r.st, .int .i64 r.rm, .int .i64 r.fw, .int .i64 r.lp, .int .i64 r.dn] 114)).heap.size := by simp
  go_enter Tryd.func116, Tryd.ntmps116
  go_wp2_with fail
  go_region
  all_goals go_wp2_with fail
  all_goals
    refine bodyPost_ret (v := .int .i64 (min (Sw.share r x) r.fw)) ?_ rfl ⟨rfl, hB.out.drew⟩
    simp only [results, Tryd.results116]
    simp [go_sem]
    try omega

theorem meth_full (j : Nat) (v0 v1 v2 v3 v4 v5 : Value) (w : World) : (Go.method (j + 4) 114 (.agg #[v0, v1, v2, v3, v4, v5]) mostN).run Tryd.prog w = .ok (116, .agg #[v0, v1, v2, v3, v4, v5]) w := by kernel_rfl
set_option maxRecDepth 100000 in
set_option maxHeartbeats 2000000 in
theorem let_full (r : Sw.Rc) (x : Int) (w : World) (hr : Sw.Amounts r) (x0 : 0 ≤ x) (x1 : x ≤ 100000000) :
    Calls Tryd.prog 74 #[rcV r, .int .i64 x] w fun e w' => e = .returned (.int .i64 (min x (min (Sw.share r x) r.fw))) ∧ Below w.heap.size w w' := by
  have hm := meth_full
  have eD := enters_of Tryd.func116 (by kernel_rfl) rfl
  have HR := Lib.hid hr
  clear hr
  go_enter Tryd.func74, Tryd.ntmps74
  go_wp2_with fail
  refine (most_full r x _ HR.out x0 x1).mono ?_
  rintro e w1 ⟨rfl, hb⟩
  have HB := Lib.hid (((Below.refl w.heap.size w).alloc (Nat.le_refl _) (.cells #[.int .i64 r.kd, .int .i64 r.st, .int .i64 r.rm, .int .i64 r.fw, .int .i64 r.lp, .int .i64 r.dn] 114)).trans (hb.mono (by simp)))
  clear hb hm eD
  go_wp2_with fail
  all_goals
    refine bodyPost_ret (v := .int .i64 (min x (min (Sw.share r x) r.fw))) ?_ rfl ⟨rfl, HB.out⟩
    simp only [results, Tryd.results74]
    simp [go_sem]
    try omega

set_option maxRecDepth 100000 in
set_option maxHeartbeats 2000000 in
theorem most_dip (r : Sw.Rc) (x : Int) (w : World) (hr : Sw.Amounts r) (x0 : 0 ≤ x) (x1 : x ≤ 100000000) :
    Calls Tryd.prog 114 #[rcV r, .int .i64 x] w fun e w' => e = .returned (.int .i64 (max (x - r.lp) 0)) ∧ Below w.heap.size w w' := by
  have hp := Sw.prod_bounds hr x0 x1
  have hs0 := Sw.share_nonneg hr x0
  have hs1 := Sw.share_le hr x0 x1
  obtain ⟨⟨k0, k1⟩, ⟨a0, a1⟩, ⟨b0, b1⟩, ⟨l0, l1⟩, ⟨s0, s1⟩⟩ := hr
  obtain ⟨hp0, hp1⟩ := hp
  have hB := Lib.hid ((Below.refl w.heap.size w).alloc (Nat.le_refl _) (.cells #[.int .i64 r.kd, .int .i64 r.st, .int .i64 r.rm, .int .i64 r.fw, .int .i64 r.lp, .int .i64 r.dn] 110))
  go_enter Tryd.func114, Tryd.ntmps114
  go_wp2_with fail
  all_goals
    refine bodyPost_ret (v := .int .i64 (max (x - r.lp) 0)) ?_ rfl ⟨rfl, hB.out⟩
    simp only [results, Tryd.results114]
    simp [go_sem]
    try omega

theorem meth_dip (j : Nat) (v0 v1 v2 v3 v4 v5 : Value) (w : World) : (Go.method (j + 4) 110 (.agg #[v0, v1, v2, v3, v4, v5]) mostN).run Tryd.prog w = .ok (114, .agg #[v0, v1, v2, v3, v4, v5]) w := by kernel_rfl
set_option maxRecDepth 100000 in
set_option maxHeartbeats 2000000 in
theorem let_dip (r : Sw.Rc) (x : Int) (w : World) (hr : Sw.Amounts r) (x0 : 0 ≤ x) (x1 : x ≤ 100000000) :
    Calls Tryd.prog 72 #[rcV r, .int .i64 x] w fun e w' => e = .returned (.int .i64 (min x (max (x - r.lp) 0))) ∧ Below w.heap.size w w' := by
  have hm := meth_dip
  have eD := enters_of Tryd.func114 (by kernel_rfl) rfl
  have HR := Lib.hid hr
  clear hr
  go_enter Tryd.func72, Tryd.ntmps72
  go_wp2_with fail
  refine (most_dip r x _ HR.out x0 x1).mono ?_
  rintro e w1 ⟨rfl, hb⟩
  have HB := Lib.hid (((Below.refl w.heap.size w).alloc (Nat.le_refl _) (.cells #[.int .i64 r.kd, .int .i64 r.st, .int .i64 r.rm, .int .i64 r.fw, .int .i64 r.lp, .int .i64 r.dn] 110)).trans (hb.mono (by simp)))
  clear hb hm eD
  go_wp2_with fail
  all_goals
    refine bodyPost_ret (v := .int .i64 (min x (max (x - r.lp) 0))) ?_ rfl ⟨rfl, HB.out⟩
    simp only [results, Tryd.results72]
    simp [go_sem]
    try omega

set_option maxRecDepth 100000 in
set_option maxHeartbeats 2000000 in
theorem goesOn_free (st rm fw lp dn : Int) (x : Int) (w : World) (hr : Sw.Amounts ⟨1, st, rm, fw, lp, dn⟩) (x0 : 0 ≤ x) (x1 : x ≤ 100000000) :
    Calls Tryd.prog 65 #[rcV ⟨1, st, rm, fw, lp, dn⟩, .int .i64 x] w fun e w' => e = .returned (.int .i64 (min x fw)) ∧ Below w.heap.size w w' := by
  have HR := Lib.hid hr
  have hb0 : Below w.heap.size w (w.alloc (.cells #[.int .i64 1, .int .i64 st, .int .i64 rm, .int .i64 fw, .int .i64 lp, .int .i64 dn] 55)) := (Below.refl w.heap.size w).alloc (Nat.le_refl _) _
  have HB0 := Lib.hid hb0
  clear hr hb0
  go_enter Tryd.func65, Tryd.ntmps65
  go_wp2_with fail
  refine (let_free ⟨1, st, rm, fw, lp, dn⟩ x _ HR.out x0 x1).mono ?_
  rintro e w1 ⟨rfl, hb⟩
  have HB := Lib.hid (HB0.out.trans (hb.mono (by simp)))
  clear hb
  go_wp2_with fail
  go_ret
  exact ⟨rfl, HB.out⟩
set_option maxRecDepth 100000 in
set_option maxHeartbeats 2000000 in
theorem goesOn_full (st rm fw lp dn : Int) (x : Int) (w : World) (hr : Sw.Amounts ⟨2, st, rm, fw, lp, dn⟩) (x0 : 0 ≤ x) (x1 : x ≤ 100000000) :
    Calls Tryd.prog 65 #[rcV ⟨2, st, rm, fw, lp, dn⟩, .int .i64 x] w fun e w' => e = .returned (.int .i64 (min x (min (Sw.share ⟨2, st, rm, fw, lp, dn⟩ x) fw))) ∧ Below w.heap.size w w' := by
  have HR := Lib.hid hr
  have hb0 : Below w.heap.size w (w.alloc (.cells #[.int .i64 2, .int .i64 st, .int .i64 rm, .int .i64 fw, .int .i64 lp, .int .i64 dn] 55)) := (Below.refl w.heap.size w).alloc (Nat.le_refl _) _
  have HB0 := Lib.hid hb0
  clear hr hb0
  go_enter Tryd.func65, Tryd.ntmps65
  go_wp2_with fail
  refine (let_full ⟨2, st, rm, fw, lp, dn⟩ x _ HR.out x0 x1).mono ?_
  rintro e w1 ⟨rfl, hb⟩
  have HB := Lib.hid (HB0.out.trans (hb.mono (by simp)))
  clear hb
  go_wp2_with fail
  go_ret
  exact ⟨rfl, HB.out⟩
set_option maxRecDepth 100000 in
set_option maxHeartbeats 2000000 in
theorem goesOn_dip (st rm fw lp dn : Int) (x : Int) (w : World) (hr : Sw.Amounts ⟨3, st, rm, fw, lp, dn⟩) (x0 : 0 ≤ x) (x1 : x ≤ 100000000) :
    Calls Tryd.prog 65 #[rcV ⟨3, st, rm, fw, lp, dn⟩, .int .i64 x] w fun e w' => e = .returned (.int .i64 (min (min x (max (x - lp) 0)) fw)) ∧ Below w.heap.size w w' := by
  have HR := Lib.hid hr
  have hb0 : Below w.heap.size w (w.alloc (.cells #[.int .i64 3, .int .i64 st, .int .i64 rm, .int .i64 fw, .int .i64 lp, .int .i64 dn] 55)) := (Below.refl w.heap.size w).alloc (Nat.le_refl _) _
  have HB0 := Lib.hid hb0
  have HW : Hid (RcCells w.heap.size 0 ⟨3, st, rm, fw, lp, dn⟩ (w.alloc (.cells #[.int .i64 3, .int .i64 st, .int .i64 rm, .int .i64 fw, .int .i64 lp, .int .i64 dn] 55))) := ⟨by simp [go_sem], by simp [go_sem], by simp [go_sem], by simp [go_sem], by simp [go_sem], by simp [go_sem]⟩
  clear hr hb0
  go_enter Tryd.func65, Tryd.ntmps65
  go_wp2_with fail
  refine (let_dip ⟨3, st, rm, fw, lp, dn⟩ x _ HR.out x0 x1).mono ?_
  rintro e w1 ⟨rfl, hb⟩
  obtain ⟨c0, c1, c2, c3, c4, c5⟩ := HW.out.block (hb.block _ HW.out.lt)
  have HB := Lib.hid (HB0.out.trans (hb.mono (by simp)))
  have y0 : 0 ≤ min x (max (x - lp) 0) := by omega
  have y1 : min x (max (x - lp) 0) ≤ 100000000 := by omega
  clear hb
  simp only at c0 c1 c2 c3 c4 c5
  generalize hy : min x (max (x - lp) 0) = y at *
  have HY := Lib.hid hy
  clear hy
  go_wp2_with fail
  refine (let_free ⟨3, st, rm, fw, lp, dn⟩ y _ HR.out y0 y1).mono ?_
  rintro e w2 ⟨rfl, hb⟩
  have HB2 := Lib.hid (HB.out.trans (hb.mono HB.out.size))
  clear hb c0 c1 c2 c3 c4 c5
  go_wp2_with fail
  go_ret
  exact ⟨by rw [HY.out]; rfl, HB2.out⟩
theorem goesOn_any (r : Sw.Rc) (x : Int) (w : World) (hr : Sw.Amounts r) (x0 : 0 ≤ x) (x1 : x ≤ 100000000) :
    Calls Tryd.prog 65 #[rcV r, .int .i64 x] w fun e w' => e = .returned (.int .i64 (Sw.goes r x)) ∧ Below w.heap.size w w' := by
  obtain ⟨kd, st, rm, fw, lp, dn⟩ := r
  have l0 : 0 ≤ lp := hr.2.2.2.1.1
  have k1 : 1 ≤ kd ∧ kd ≤ 3 := hr.1
  have k123 : kd = 1 ∨ kd = 2 ∨ kd = 3 := by omega
  rcases k123 with rfl | rfl | rfl
  · refine (goesOn_free st rm fw lp dn x w hr x0 x1).mono ?_
    rintro e w' ⟨rfl, hb⟩
    exact ⟨rfl, hb⟩
  · refine (goesOn_full st rm fw lp dn x w hr x0 x1).mono ?_
    rintro e w' ⟨rfl, hb⟩
    refine ⟨ret1 ?_, hb⟩
    show _ = min (min x fw) (Sw.share ⟨2, st, rm, fw, lp, dn⟩ x)
    omega
  · refine (goesOn_dip st rm fw lp dn x w hr x0 x1).mono ?_
    rintro e w' ⟨rfl, hb⟩
    refine ⟨ret1 ?_, hb⟩
    show _ = min (max 0 (x - lp)) fw
    omega

theorem ret3 {a b c a' b' c' : Int} (h1 : a = a') (h2 : b = b') (h3 : c = c') : Ending.returned (.tuple #[.int .i64 a, .int .i64 b, .int .i64 c]) = .returned (.tuple #[.int .i64 a', .int .i64 b', .int .i64 c']) := by rw [h1, h2, h3]
set_option maxRecDepth 100000 in
set_option maxHeartbeats 2000000 in
theorem share_any (r : Sw.Rc) (c : Int) (w : World) (hr : Sw.Amounts r) (c0 : 0 ≤ c) (c1 : c ≤ 80000000) :
    Calls Tryd.prog 57 #[rcV r, .int .i64 c] w fun e w' => e = .returned (.tuple #[.int .i64 (Sw.flows r c), .int .i64 (Sw.taken r c), .int .i64 (Sw.stays r c)]) ∧ Below w.heap.size w w' := by
  have HR := Lib.hid hr
  have hb0 : Below w.heap.size w (w.alloc (.cells #[.int .i64 r.kd, .int .i64 r.st, .int .i64 r.rm, .int .i64 r.fw, .int .i64 r.lp, .int .i64 r.dn] 55)) := (Below.refl w.heap.size w).alloc (Nat.le_refl _) _
  have HB0 := Lib.hid hb0
  have HW : Hid (RcCells w.heap.size 0 r (w.alloc (.cells #[.int .i64 r.kd, .int .i64 r.st, .int .i64 r.rm, .int .i64 r.fw, .int .i64 r.lp, .int .i64 r.dn] 55))) := ⟨by simp [go_sem], by simp [go_sem], by simp [go_sem], by simp [go_sem], by simp [go_sem], by simp [go_sem]⟩
  have hgb := Sw.goes_bounds hr (x := r.st + c) (by have := hr.2.2.2.2.1; omega)
  obtain ⟨g0, g1, g2⟩ := hgb
  obtain ⟨_, ⟨a0, a1⟩, ⟨b0, b1⟩, ⟨l0, l1⟩, ⟨s0, s1⟩⟩ := hr
  have x0 : 0 ≤ r.st + c := by omega
  have x1 : r.st + c ≤ 100000000 := by omega
  clear hb0
  go_enter Tryd.func57, Tryd.ntmps57
  go_wp2_with fail
  refine (goesOn_any r (r.st + c) _ HR.out x0 x1).mono ?_
  rintro e w1 ⟨rfl, hb⟩
  obtain ⟨c0', c1', c2', c3', c4', c5'⟩ := HW.out.block (hb.block _ HW.out.lt)
  have HB := Lib.hid (HB0.out.trans (hb.mono (by simp)))
  clear hb
  go_wp2_with fail
  all_goals
    refine bodyPost_ret (v := .tuple #[.int .i64 (Sw.flows r c), .int .i64 (Sw.taken r c), .int .i64 (Sw.stays r c)]) ?_ rfl ⟨rfl, HB.out⟩
    simp only [results, Tryd.results57]
    simp [go_sem]
    unfold Sw.taken Sw.stays Sw.left Sw.flows
    generalize Sw.goes r (r.st + c) = y at *
    try omega
set_option maxRecDepth 100000 in
set_option maxHeartbeats 2000000 in
theorem small_any (k : Nat) (hk : k < 100) (w : World) :
    Calls Tryd.prog 79 #[.int .i64 k] w fun e w' => (∃ s, e = .returned (.string s) ∧ s.size ≤ 200) ∧ w' = w := by
  by_cases h : k < 10
  · have hz : (k : Int) < 10 := by omega
    go_enter Tryd.func79, Tryd.ntmps79
    go_wp2_with fail
    go_ret
    refine ⟨⟨_, rfl, ?_⟩, rfl⟩
    simp [ByteArray.size_extract]
    omega
  · have hz : ¬ (k : Int) < 10 := by omega
    have hz2 : (k : Int) < 100 := by omega
    go_enter Tryd.func79, Tryd.ntmps79
    go_wp2_with fail
    go_ret
    refine ⟨⟨_, rfl, ?_⟩, rfl⟩
    simp [ByteArray.size_extract]
    omega
set_option maxRecDepth 100000 in
set_option maxHeartbeats 2000000 in
theorem format_any (k : Nat) (hk : k < 100) (w : World) :
    Calls Tryd.prog 75 #[.int .i64 k, .int .i64 10] w fun e w' => (∃ s, e = .returned (.string s) ∧ s.size ≤ 200) ∧ w' = w := by
  have hz : (k : Int) < 100 := by omega
  go_enter Tryd.func75, Tryd.ntmps75
  go_wp2_with fail
  refine (small_any k hk _).mono ?_
  rintro e w1 ⟨⟨s, rfl, hs⟩, rfl⟩
  go_wp2_with fail
  go_ret
  exact ⟨⟨_, rfl, hs⟩, rfl⟩
set_option maxRecDepth 100000 in
set_option maxHeartbeats 2000000 in
theorem itoa_any (k : Nat) (hk : k < 100) (w : World) :
    Calls Tryd.prog 58 #[.int .i64 k] w fun e w' => (∃ s, e = .returned (.string s) ∧ s.size ≤ 200) ∧ w' = w := by
  have H2 : Calls Tryd.prog 66 #[.int .i64 k] w fun e w' => (∃ s, e = .returned (.string s) ∧ s.size ≤ 200) ∧ w' = w := by
    go_enter Tryd.func66, Tryd.ntmps66
    go_wp2_with fail
    refine (format_any k hk _).mono ?_
    rintro e w1 ⟨⟨s, rfl, hs⟩, rfl⟩
    go_wp2_with fail
    go_ret
    exact ⟨⟨_, rfl, hs⟩, rfl⟩
  go_enter Tryd.func58, Tryd.ntmps58
  go_wp2_with fail
  refine H2.mono ?_
  rintro e w1 ⟨⟨s, rfl, hs⟩, rfl⟩
  go_wp2_with fail
  go_ret
  exact ⟨⟨_, rfl, hs⟩, rfl⟩
end Go.Proofs.YtokbhkcpkilcmaaDoor
