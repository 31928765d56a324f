/-
  The contracts of the program's rulings, of the one that holds, and of a basin's step.
-/
import Derived.Test.YtdpghhmcibiplaaDoorStI1
import Derived.Test.YtdpghhmcibiplaaDoorSearchSh
import Derived.Laws.EntriesVeiled
namespace Go.Proofs.YtdpghhmcibiplaaDoor
open Go.RowKit Go.Deep

theorem bwrap_id {x : Int} (h1 : -9223372036854775808 ≤ x) (h2 : x ≤ 9223372036854775807) : IntKind.i64.wrap x = x := by simp [IntKind.wrap, IntKind.bits, IntKind.signed]; omega
theorem bbox1 (w : World) (a : Value) (t : TypeId) : (w.alloc (.cells #[a] t)).cell? ⟨w.heap.size, 0, none⟩ = some a := by
  simp only [World.cell?, blk_alloc_new]; rfl
theorem bbox2 (w : World) (a b : Value) (t : TypeId) : (w.alloc (.cells #[a, b] t)).cell? ⟨w.heap.size, 0, none⟩ = some a ∧ (w.alloc (.cells #[a, b] t)).cell? ⟨w.heap.size, 1, none⟩ = some b := by
  refine ⟨?_, ?_⟩ <;> (simp only [World.cell?, blk_alloc_new]; rfl)
theorem bcell_up {w : World} {p : Addr} {v : Value} (o : Obj) (h : w.cell? p = some v) : (w.alloc o).cell? p = some v := (((Below.refl w.heap.size w).alloc (Nat.le_refl _) o).cell (World.block_lt_of_cell? _ _ h)).trans h
theorem bcell_gr {w w' : World} {p : Addr} {v : Value} (hg : Gr w w') (h : w.cell? p = some v) : w'.cell? p = some v := (hg.bel.cell (World.block_lt_of_cell? _ _ h)).trans h
/-- The row of two cells. -/
def r2 (a b : Value) : Nat → Value := fun i => if i = 0 then a else b
theorem row2 (w : World) (a b : Value) (t : TypeId) : (w.alloc (.cells #[a, b] t)).rowIs w.heap.size t 2 (r2 a b) := by
  refine ⟨_, blk_alloc_new _ _, rfl, fun i hi => ?_⟩
  have h3 : i = 0 ∨ i = 1 := by omega
  rcases h3 with rfl | rfl <;> rfl
theorem row2_cells {w : World} {g : Nat} {t : TypeId} {a b : Value} (h : w.rowIs g t 2 (r2 a b)) : (w.cell? ⟨g, 0, none⟩ = some a ∧ w.cell? ⟨g, 1, none⟩ = some b) ∧ (w.frozen? ⟨g, 0, none⟩ = false ∧ w.frozen? ⟨g, 1, none⟩ = false) :=
  ⟨⟨h.cell (i := 0) (by omega), h.cell (i := 1) (by omega)⟩, h.frozen 0, h.frozen 1⟩
theorem row2_put {w : World} {g : Nat} {t : TypeId} {a b : Value} (h : w.rowIs g t 2 (r2 a b)) (x y : Value) : ((w.setCell ⟨g, 0, none⟩ x).setCell ⟨g, 1, none⟩ y).rowIs g t 2 (r2 x y) := by
  obtain ⟨cur, h1, h2, h3⟩ := (h.set 0 x).set 1 y
  refine ⟨cur, h1, h2, fun i hi => ?_⟩
  rw [h3 i hi]
  have : i = 0 ∨ i = 1 := by omega
  rcases this with rfl | rfl <;> rfl
theorem brow_gr {w w' : World} {g : Nat} {t : TypeId} {m : Nat} {F : Nat → Value} (h : w.rowIs g t m F) (hb : Gr w w') : w'.rowIs g t m F := h.of_block (hb.bel.block _ h.lt)
/-- A basin as a value. -/
abbrev baV (f : Int) (g m cap : Nat) : Value := .agg #[.int .i64 f, .slice (some ⟨g, 0, none⟩) m cap]
/-- A step's answer as a value. -/
abbrev outV (o : St.Out) : Value := .agg #[.int .i64 o.vol, .int .i64 o.giv, .int .i64 o.spl, .int .i64 o.sho, .int .i64 0, .int .i64 0]

abbrev hvR (B F : Nat) : Value := .func (.func 132) #[] #[.pointer (some ⟨B, 0, none⟩), .pointer (some ⟨F, 0, none⟩)]
abbrev gvR (B : Nat) : Value := .func (.func 133) #[] #[.pointer (some ⟨B, 0, none⟩)]
/-- A basin's rulings in memory. -/
def BasR (f : Int) (m : Nat) (r : Nat → St.Pr) (g : Nat) (bs fs : Nat → Nat) (W : World) : Prop := ∀ j, j < m → (W.cell? ⟨g, j * 2, none⟩ = some (hvR (bs j) (fs j)) ∧ W.cell? ⟨g, j * 2 + 1, none⟩ = some (gvR (bs j))) ∧ PrCells (bs j) 0 (r j) W ∧ W.cell? ⟨fs j, 0, none⟩ = some (.int .i64 f)
theorem BasR.gr {f : Int} {m : Nat} {r : Nat → St.Pr} {g : Nat} {bs fs : Nat → Nat} {W W' : World} (h : BasR f m r g bs fs W) (hg : Gr W W') : BasR f m r g bs fs W' := fun j hj =>
  ⟨⟨bcell_gr hg (h j hj).1.1, bcell_gr hg (h j hj).1.2⟩, (h j hj).2.1.block (hg.bel.block _ (h j hj).2.1.lt), bcell_gr hg (h j hj).2.2⟩
set_option maxRecDepth 100000 in
set_option maxHeartbeats 1000000 in
theorem hR_any (p : St.Pr) (f x : Int) (B F : Nat) (W : World) (hp : PrCells B 0 p W) (hf : W.cell? ⟨F, 0, none⟩ = some (.int .i64 f)) (hok : St.RuleOk p) (f0 : 0 ≤ f) (f1 : f ≤ 1000000000) (x0 : 0 ≤ x) (x1 : x ≤ 2000000000) :
    Calls Tryd.prog 132 #[.int .i64 x, .pointer (some ⟨B, 0, none⟩), .pointer (some ⟨F, 0, none⟩)] W fun e w' => e = .returned (.bool (decide (p.a * f ≤ 100 * x))) ∧ Gr W w' := by
  obtain ⟨c0, c1⟩ := hp
  obtain ⟨⟨a0, a1⟩, _⟩ := hok
  have h0 : 0 ≤ p.a * f := Int.mul_nonneg a0 f0
  have h1 : p.a * f ≤ 100 * 1000000000 := Int.mul_le_mul a1 f1 f0 (by omega)
  have h2 : p.a * f ≤ 100000000000 := by omega
  clear h1
  go_enter Tryd.func132, Tryd.ntmps132
  go_wp2_with fail
  go_ret
  exact ⟨rfl, Gr.refl _⟩
set_option maxRecDepth 100000 in
set_option maxHeartbeats 1000000 in
theorem gR_any (p : St.Pr) (x : Int) (B : Nat) (W : World) (hp : PrCells B 0 p W) (hok : St.RuleOk p) (x0 : 0 ≤ x) (x1 : x ≤ 1000000) :
    Calls Tryd.prog 133 #[.int .i64 x, .pointer (some ⟨B, 0, none⟩)] W fun e w' => e = .returned (.int .i64 (x * p.b / 1000)) ∧ Gr W w' := by
  obtain ⟨c0, c1⟩ := hp
  obtain ⟨_, b0, b1⟩ := hok
  have h0 : 0 ≤ x * p.b := Int.mul_nonneg x0 b0
  have h1 : x * p.b ≤ 1000000 * 1000 := Int.mul_le_mul x1 b1 b0 (by omega)
  have h2 : x * p.b ≤ 1000000000 := by omega
  have h3 : 0 ≤ x * p.b / 1000 := by omega
  have h4 : x * p.b / 1000 ≤ 1000000000 := by omega
  clear h1
  go_enter Tryd.func133, Tryd.ntmps133
  go_wp2_with fail
  go_ret
  exact ⟨rfl, Gr.refl _⟩
set_option maxRecDepth 100000 in
set_option maxHeartbeats 2000000 in
theorem clR (f x : Int) (m cap : Nat) (r : Nat → St.Pr) (g : Nat) (bs fs : Nat → Nat) (bb bw i : Nat) (W : World) (hi : i < m) (hb : W.cell? ⟨bb, 1, none⟩ = some (.slice (some ⟨g, 0, none⟩) m cap)) (hw : W.cell? ⟨bw, 0, none⟩ = some (.int .i64 x)) (hB : BasR f m r g bs fs W) (hr : St.RulesOk m r) (f0 : 0 ≤ f) (f1 : f ≤ 1000000000) (x0 : 0 ≤ x) (x1 : x ≤ 2000000000) :
    Calls Tryd.prog 134 (#[.int .i64 i] ++ #[.pointer (some ⟨bb, 0, none⟩), .pointer (some ⟨bw, 0, none⟩)]) W fun e w' => e = .returned (.bool (decide (100 * x < (r i).a * f))) ∧ Gr W w' := by
  have q0 := cell_grown (World.block_lt_of_cell? _ _ hb) hb
  have q1 := cell_grown (World.block_lt_of_cell? _ _ hw) hw
  obtain ⟨⟨h0, h1⟩, h2, h3⟩ := hB i hi
  have q2 := cell_grown (World.block_lt_of_cell? _ _ h0) h0
  have hiz : (i : Int) < (m : Int) := by omega
  have kn : ∀ n os, Calls Tryd.prog 132 #[.int .i64 x, .pointer (some ⟨bs i, 0, none⟩), .pointer (some ⟨fs i, 0, none⟩)] (Go.Sort.grow (W.drewN n) os) fun e w'' => e = .returned (.bool (decide ((r i).a * f ≤ 100 * x))) ∧ ∃ p : GrownBy, w'' = Go.Sort.grow (W.drewN p.n) p.os := fun n os =>
    grown_of_gr (hR_any (r i) f x (bs i) (fs i) _ (h2.block ((gr_of n os).bel.block _ h2.lt)) (bcell_gr (gr_of n os) h3) (hr.2.2 i hi).1 f0 f1 x0 x1)
  have KN := Lib.hid kn
  have he : (!decide ((r i).a * f ≤ 100 * x)) = decide (100 * x < (r i).a * f) := by
    by_cases h : (r i).a * f ≤ 100 * x
    · have : ¬ 100 * x < (r i).a * f := by omega
      simp [h, this]
    · have : 100 * x < (r i).a * f := by omega
      simp [h, this]
  rw [← he]
  clear hb hw h0 h1 h2 h3 hB kn hr he
  go_enter Tryd.func134, Tryd.ntmps134
  go_wp2_with fail
  have hmix : Tryd.prog.follows Departure.mixedOrders = true := by kernel_rfl
  go_quiet_grown (first | (go_at_call 132; exact KN.out _ _))
  go_wp2_with fail
  go_ret
  exact ⟨rfl, gr_of _ _⟩

set_option maxRecDepth 100000 in
set_option maxHeartbeats 4000000 in
theorem rulingR (f : Int) (m : Nat) (r : Nat → St.Pr) (bs fs : Nat → Nat) (x : Int) (cap : Nat) (g : Nat) (w : World) (hB : BasR f m r g bs fs w) (hr : St.RulesOk m r) (f0 : 0 ≤ f) (f1 : f ≤ 1000000000) (x0 : 0 ≤ x) (x1 : x ≤ 2000000000) :
    Calls Tryd.prog 126 #[baV f g m cap, .int .i64 x] w fun e w' => e = .returned (.agg #[hvR (bs (St.holdsN m r f x - 1)) (fs (St.holdsN m r f x - 1)), gvR (bs (St.holdsN m r f x - 1))]) ∧ Gr w w' := by
  obtain ⟨W, hW⟩ : ∃ W, W = ((w.alloc (.cells #[.int .i64 f, .slice (some ⟨g, 0, none⟩) m cap] 138)).alloc (.cells #[.int .i64 x] 2)).alloc (.cells #[.nilFunc, .nilFunc] 134) := ⟨_, rfl⟩
  have hGW : Gr w W := by rw [hW]; exact (((Gr.refl _).alloc _).alloc _).alloc _
  have c0 : W.cell? ⟨w.heap.size, 0, none⟩ = some (.int .i64 f) ∧ W.cell? ⟨w.heap.size, 1, none⟩ = some (.slice (some ⟨g, 0, none⟩) m cap) := by
    rw [hW]; exact ⟨bcell_up _ (bcell_up _ (bbox2 w _ _ _).1), bcell_up _ (bcell_up _ (bbox2 w _ _ _).2)⟩
  have c1 : W.cell? ⟨w.heap.size + 1, 0, none⟩ = some (.int .i64 x) := by
    rw [hW]; refine bcell_up _ ?_
    have := bbox1 (w.alloc (.cells #[.int .i64 f, .slice (some ⟨g, 0, none⟩) m cap] 138)) (.int .i64 x) 2
    rwa [World.size_alloc] at this
  have RO : W.rowIs (w.heap.size + 1 + 1) 134 2 (r2 .nilFunc .nilFunc) := by
    rw [hW]
    have := row2 ((w.alloc (.cells #[.int .i64 f, .slice (some ⟨g, 0, none⟩) m cap] 138)).alloc (.cells #[.int .i64 x] 2)) .nilFunc .nilFunc 134
    rwa [World.size_alloc, World.size_alloc] at this
  have hB1 := hB.gr hGW
  have eg : ∀ args w, (callFunc 134 args).run Tryd.prog w = .ok (.enter 134 args) w := enters_of Tryd.func134 (by kernel_rfl) rfl
  have hS := Any.sort_Search Tryd.searchL 134 #[.pointer (some ⟨w.heap.size, 0, none⟩), .pointer (some ⟨w.heap.size + 1, 0, none⟩)] m (fun i => decide (100 * x < (r i).a * f)) W eg (by have := hr.1; omega)
    (fun n os i hi => (clR f x m cap r g bs fs w.heap.size (w.heap.size + 1) i _ hi (bcell_gr (gr_of n os) c0.2) (bcell_gr (gr_of n os) c1) (hB1.gr (gr_of n os)) hr f0 f1 x0 x1).mono fun _ _ ⟨he, hq⟩ => ⟨he, hq.eq⟩) (St.holds_mono hr f0)
  change Calls Tryd.prog 92 _ _ _ at hS
  have hk := St.holdsN_facts hr f0 x0 (x := x)
  have hcnt : ((List.range m).countP (fun i => !decide (100 * x < (r i).a * f))) = St.holdsN m r f x := rfl
  rw [hcnt] at hS
  clear hcnt
  generalize St.holdsN m r f x = k at hS hk ⊢
  have hm := hr.1
  have hz1 : ((k : Int) - 1).toNat = k - 1 := by omega
  have hz3 : ¬ (k : Int) - 1 < 0 := by omega
  have hz4 : (k : Int) - 1 < (m : Int) := by omega
  have hz5 : (k : Int) ≤ 20 := by omega
  have hkm : k - 1 < m := by omega
  clear hk
  have HS := Lib.hid hS
  have HGW := Lib.hid hGW
  have HW := Lib.hid hW
  have HB := Lib.hid hB1
  have HRO := Lib.hid RO
  have HC0 := Lib.hid c0
  have hmf : ∀ (fn : Fn) (first cap : Array Value) (w : World), (Instr.makeFunc fn first cap).run Tryd.prog w = .ok (.func fn first cap) w := fun _ _ _ _ => rfl
  clear hS hGW hW hB1 RO hB eg c0 c1
  go_enter Tryd.func126, Tryd.ntmps126
  go_wp2_with fail
  rw [← HW.out]
  refine HS.out.mono ?_
  rintro e W1 ⟨rfl, q, os, hW1⟩
  have hG1 : Gr W W1 := by rw [hW1]; exact gr_of q os
  clear hW1 hmf
  have HG1 : Hid (Gr w W1) := HGW.out.trans hG1
  obtain ⟨d0, d1⟩ := And.intro (bcell_gr hG1 HC0.out.1) (bcell_gr hG1 HC0.out.2)
  have R1 := brow_gr HRO.out hG1
  obtain ⟨⟨o0, o1⟩, z0, z1⟩ := row2_cells R1
  have HR1 := Lib.hid R1
  obtain ⟨⟨e0, e1⟩, _⟩ := (HB.out.gr hG1) (k - 1) hkm
  clear hG1 R1
  go_wp2_with fail
  refine bodyPost_ret (v := .agg #[hvR (bs (k - 1)) (fs (k - 1)), gvR (bs (k - 1))]) ?_ rfl ⟨rfl, ?_⟩
  · obtain ⟨⟨x0, x1⟩, _⟩ := row2_cells (row2_put HR1.out (hvR (bs (k - 1)) (fs (k - 1))) (gvR (bs (k - 1))))
    simp only [results, Tryd.results126]
    simp [go_sem, x0, x1]
  · exact (HG1.out.set (p := ⟨w.heap.size + 1 + 1, 0, none⟩) (by show w.heap.size ≤ w.heap.size + 1 + 1; omega) _).set (p := ⟨w.heap.size + 1 + 1, 1, none⟩) (by show w.heap.size ≤ w.heap.size + 1 + 1; omega) _

abbrev hvA : Value := .func (.func 119) #[] #[]
abbrev gvA : Value := .func (.func 120) #[] #[]
/-- The ruling that gives all, in memory. -/
def BasA (g : Nat) (W : World) : Prop := W.cell? ⟨g, 0, none⟩ = some hvA ∧ W.cell? ⟨g, 1, none⟩ = some gvA
theorem BasA.gr {g : Nat} {W W' : World} (h : BasA g W) (hg : Gr W W') : BasA g W' := ⟨bcell_gr hg h.1, bcell_gr hg h.2⟩
set_option maxRecDepth 100000 in
set_option maxHeartbeats 1000000 in
theorem hA_any (x : Int) (W : World) :
    Calls Tryd.prog 119 #[.int .i64 x] W fun e w' => e = .returned (.bool true) ∧ Gr W w' := by
  go_enter Tryd.func119, Tryd.ntmps119
  go_wp2_with fail
  go_ret
  exact ⟨rfl, Gr.refl _⟩
set_option maxRecDepth 100000 in
set_option maxHeartbeats 1000000 in
theorem gA_any (x : Int) (W : World) :
    Calls Tryd.prog 120 #[.int .i64 x] W fun e w' => e = .returned (.int .i64 x) ∧ Gr W w' := by
  go_enter Tryd.func120, Tryd.ntmps120
  go_wp2_with fail
  go_ret
  exact ⟨rfl, Gr.refl _⟩
set_option maxRecDepth 100000 in
set_option maxHeartbeats 2000000 in
theorem clA (x : Int) (cap : Nat) (g : Nat) (bb bw i : Nat) (W : World) (hi : i < 1) (hb : W.cell? ⟨bb, 1, none⟩ = some (.slice (some ⟨g, 0, none⟩) 1 cap)) (hw : W.cell? ⟨bw, 0, none⟩ = some (.int .i64 x)) (hB : BasA g W) :
    Calls Tryd.prog 134 (#[.int .i64 i] ++ #[.pointer (some ⟨bb, 0, none⟩), .pointer (some ⟨bw, 0, none⟩)]) W fun e w' => e = .returned (.bool false) ∧ Gr W w' := by
  obtain rfl : i = 0 := by omega
  have q0 := cell_grown (World.block_lt_of_cell? _ _ hb) hb
  have q1 := cell_grown (World.block_lt_of_cell? _ _ hw) hw
  have q2 := cell_grown (World.block_lt_of_cell? _ _ hB.1) hB.1
  have kn : ∀ n os, Calls Tryd.prog 119 #[.int .i64 x] (Go.Sort.grow (W.drewN n) os) fun e w'' => e = .returned (.bool true) ∧ ∃ p : GrownBy, w'' = Go.Sort.grow (W.drewN p.n) p.os := fun n os => grown_of_gr (hA_any x _)
  have KN := Lib.hid kn
  clear hb hw hB kn
  go_enter Tryd.func134, Tryd.ntmps134
  go_wp2_with fail
  have hmix : Tryd.prog.follows Departure.mixedOrders = true := by kernel_rfl
  go_quiet_grown (first | (go_at_call 119; exact KN.out _ _))
  go_wp2_with fail
  go_ret
  exact ⟨rfl, gr_of _ _⟩

set_option maxRecDepth 100000 in
set_option maxHeartbeats 4000000 in
theorem rulingA (f : Int) (x : Int) (cap : Nat) (g : Nat) (w : World) (hB : BasA g w) :
    Calls Tryd.prog 126 #[baV f g 1 cap, .int .i64 x] w fun e w' => e = .returned (.agg #[hvA, gvA]) ∧ Gr w w' := by
  obtain ⟨W, hW⟩ : ∃ W, W = ((w.alloc (.cells #[.int .i64 f, .slice (some ⟨g, 0, none⟩) 1 cap] 138)).alloc (.cells #[.int .i64 x] 2)).alloc (.cells #[.nilFunc, .nilFunc] 134) := ⟨_, rfl⟩
  have hGW : Gr w W := by rw [hW]; exact (((Gr.refl _).alloc _).alloc _).alloc _
  have c0 : W.cell? ⟨w.heap.size, 0, none⟩ = some (.int .i64 f) ∧ W.cell? ⟨w.heap.size, 1, none⟩ = some (.slice (some ⟨g, 0, none⟩) 1 cap) := by
    rw [hW]; exact ⟨bcell_up _ (bcell_up _ (bbox2 w _ _ _).1), bcell_up _ (bcell_up _ (bbox2 w _ _ _).2)⟩
  have c1 : W.cell? ⟨w.heap.size + 1, 0, none⟩ = some (.int .i64 x) := by
    rw [hW]; refine bcell_up _ ?_
    have := bbox1 (w.alloc (.cells #[.int .i64 f, .slice (some ⟨g, 0, none⟩) 1 cap] 138)) (.int .i64 x) 2
    rwa [World.size_alloc] at this
  have RO : W.rowIs (w.heap.size + 1 + 1) 134 2 (r2 .nilFunc .nilFunc) := by
    rw [hW]
    have := row2 ((w.alloc (.cells #[.int .i64 f, .slice (some ⟨g, 0, none⟩) 1 cap] 138)).alloc (.cells #[.int .i64 x] 2)) .nilFunc .nilFunc 134
    rwa [World.size_alloc, World.size_alloc] at this
  have hB1 := hB.gr hGW
  have eg : ∀ args w, (callFunc 134 args).run Tryd.prog w = .ok (.enter 134 args) w := enters_of Tryd.func134 (by kernel_rfl) rfl
  have hS := Any.sort_Search Tryd.searchL 134 #[.pointer (some ⟨w.heap.size, 0, none⟩), .pointer (some ⟨w.heap.size + 1, 0, none⟩)] 1 (fun _ => false) W eg (by omega)
    (fun n os i hi => (clA x cap g w.heap.size (w.heap.size + 1) i _ hi (bcell_gr (gr_of n os) c0.2) (bcell_gr (gr_of n os) c1) (hB1.gr (gr_of n os))).mono fun _ _ ⟨he, hq⟩ => ⟨he, hq.eq⟩) (fun _ _ _ _ h => by cases h)
  change Calls Tryd.prog 92 _ _ _ at hS
  have hcnt : ((List.range 1).countP (fun _ : Nat => !false)) = 1 := rfl
  rw [hcnt] at hS
  clear hcnt
  have HS := Lib.hid hS
  have HGW := Lib.hid hGW
  have HW := Lib.hid hW
  have HB := Lib.hid hB1
  have HRO := Lib.hid RO
  have HC0 := Lib.hid c0
  have hmf : ∀ (fn : Fn) (first cap : Array Value) (w : World), (Instr.makeFunc fn first cap).run Tryd.prog w = .ok (.func fn first cap) w := fun _ _ _ _ => rfl
  clear hS hGW hW hB1 RO hB eg c0 c1
  go_enter Tryd.func126, Tryd.ntmps126
  go_wp2_with fail
  rw [← HW.out]
  refine HS.out.mono ?_
  rintro e W1 ⟨rfl, q, os, hW1⟩
  have hG1 : Gr W W1 := by rw [hW1]; exact gr_of q os
  clear hW1 hmf
  have HG1 : Hid (Gr w W1) := HGW.out.trans hG1
  obtain ⟨d0, d1⟩ := And.intro (bcell_gr hG1 HC0.out.1) (bcell_gr hG1 HC0.out.2)
  have R1 := brow_gr HRO.out hG1
  obtain ⟨⟨o0, o1⟩, z0, z1⟩ := row2_cells R1
  have HR1 := Lib.hid R1
  obtain ⟨e0, e1⟩ := HB.out.gr hG1
  clear hG1 R1
  go_wp2_with fail
  refine bodyPost_ret (v := .agg #[hvA, gvA]) ?_ rfl ⟨rfl, ?_⟩
  · obtain ⟨⟨x0, x1⟩, _⟩ := row2_cells (row2_put HR1.out hvA gvA)
    simp only [results, Tryd.results126]
    simp [go_sem, x0, x1]
  · exact (HG1.out.set (p := ⟨w.heap.size + 1 + 1, 0, none⟩) (by show w.heap.size ≤ w.heap.size + 1 + 1; omega) _).set (p := ⟨w.heap.size + 1 + 1, 1, none⟩) (by show w.heap.size ≤ w.heap.size + 1 + 1; omega) _
end Go.Proofs.YtdpghhmcibiplaaDoor
