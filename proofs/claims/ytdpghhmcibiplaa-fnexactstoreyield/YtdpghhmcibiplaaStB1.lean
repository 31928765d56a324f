/-
  The contracts of the program's rulings, of the one that holds, and of a basin's step.
-/
import Derived.Test.YtdpghhmcibiplaaStI1
import Derived.Test.YtdpghhmcibiplaaSearchSh
import Derived.Laws.EntriesVeiled
namespace Go.Proofs.Ytdpghhmcibiplaa
open Go.RowKit Go.Deep

theorem bwrap_id {x : Int} (h1 : -9223372036854775808 ≤ x) (h2 : x ≤ 9223372036854775807) : IntKind.i64.wrap x = x := by simp [IntKind.wrap, IntKind.bits, IntKind.signed]; omega
theorem bbox1 (w : World) (a : Value) (t : TypeId) : (w.alloc (.cells #[a] t)).cell? ⟨w.heap.size, 0, none⟩ = some a := by
  simp only [World.cell?, blk_alloc_new]; rfl
theorem bbox2 (w : World) (a b : Value) (t : TypeId) : (w.alloc (.cells #[a, b] t)).cell? ⟨w.heap.size, 0, none⟩ = some a ∧ (w.alloc (.cells #[a, b] t)).cell? ⟨w.heap.size, 1, none⟩ = some b := by
  refine ⟨?_, ?_⟩ <;> (simp only [World.cell?, blk_alloc_new]; rfl)
theorem bcell_up {w : World} {p : Addr} {v : Value} (o : Obj) (h : w.cell? p = some v) : (w.alloc o).cell? p = some v := (((Below.refl w.heap.size w).alloc (Nat.le_refl _) o).cell (World.block_lt_of_cell? _ _ h)).trans h
theorem bcell_gr {w w' : World} {p : Addr} {v : Value} (hg : Gr w w') (h : w.cell? p = some v) : w'.cell? p = some v := (hg.bel.cell (World.block_lt_of_cell? _ _ h)).trans h
/-- The row of two cells. -/
def r2 (a b : Value) : Nat → Value := fun i => if i = 0 then a else b
theorem row2 (w : World) (a b : Value) (t : TypeId) : (w.alloc (.cells #[a, b] t)).rowIs w.heap.size t 2 (r2 a b) := by
  refine ⟨_, blk_alloc_new _ _, rfl, fun i hi => ?_⟩
  have h3 : i = 0 ∨ i = 1 := by omega
  rcases h3 with rfl | rfl <;> rfl
theorem row2_cells {w : World} {g : Nat} {t : TypeId} {a b : Value} (h : w.rowIs g t 2 (r2 a b)) : (w.cell? ⟨g, 0, none⟩ = some a ∧ w.cell? ⟨g, 1, none⟩ = some b) ∧ (w.frozen? ⟨g, 0, none⟩ = false ∧ w.frozen? ⟨g, 1, none⟩ = false) :=
  ⟨⟨h.cell (i := 0) (by omega), h.cell (i := 1) (by omega)⟩, h.frozen 0, h.frozen 1⟩
theorem row2_put {w : World} {g : Nat} {t : TypeId} {a b : Value} (h : w.rowIs g t 2 (r2 a b)) (x y : Value) : ((w.setCell ⟨g, 0, none⟩ x).setCell ⟨g, 1, none⟩ y).rowIs g t 2 (r2 x y) := by
  obtain ⟨cur, h1, h2, h3⟩ := (h.set 0 x).set 1 y
  refine ⟨cur, h1, h2, fun i hi => ?_⟩
  rw [h3 i hi]
  have : i = 0 ∨ i = 1 := by omega
  rcases this with rfl | rfl <;> rfl
theorem brow_gr {w w' : World} {g : Nat} {t : TypeId} {m : Nat} {F : Nat → Value} (h : w.rowIs g t m F) (hb : Gr w w') : w'.rowIs g t m F := h.of_block (hb.bel.block _ h.lt)
/-- A basin as a value. -/
abbrev baV (f : Int) (g m cap : Nat) : Value := .agg #[.int .i64 f, .slice (some ⟨g, 0, none⟩) m cap]
/-- A step's answer as a value. -/
abbrev outV (o : St.Out) : Value := .agg #[.int .i64 o.vol, .int .i64 o.giv, .int .i64 o.spl, .int .i64 o.sho, .int .i64 0, .int .i64 0]



abbrev hvA : Value := .func (.func 36) #[] #[]
abbrev gvA : Value := .func (.func 37) #[] #[]
/-- The ruling that gives all, in memory. -/
def BasA (g : Nat) (W : World) : Prop := W.cell? ⟨g, 0, none⟩ = some hvA ∧ W.cell? ⟨g, 1, none⟩ = some gvA
theorem BasA.gr {g : Nat} {W W' : World} (h : BasA g W) (hg : Gr W W') : BasA g W' := ⟨bcell_gr hg h.1, bcell_gr hg h.2⟩
set_option maxRecDepth 100000 in
set_option maxHeartbeats 1000000 in
theorem hA_any (x : Int) (W : World) :
    Calls Try.prog 36 #[.int .i64 x] W fun e w' => e = .returned (.bool true) ∧ Gr W w' := by
  go_enter Try.func36, Try.ntmps36
  go_wp2_with fail
  go_ret
  exact ⟨rfl, Gr.refl _⟩
set_option maxRecDepth 100000 in
set_option maxHeartbeats 1000000 in
theorem gA_any (x : Int) (W : World) :
    Calls Try.prog 37 #[.int .i64 x] W fun e w' => e = .returned (.int .i64 x) ∧ Gr W w' := by
  go_enter Try.func37, Try.ntmps37
  go_wp2_with fail
  go_ret
  exact ⟨rfl, Gr.refl _⟩
set_option maxRecDepth 100000 in
set_option maxHeartbeats 2000000 in
theorem clA (x : Int) (cap : Nat) (g : Nat) (bb bw i : Nat) (W : World) (hi : i < 1) (hb : W.cell? ⟨bb, 1, none⟩ = some (.slice (some ⟨g, 0, none⟩) 1 cap)) (hw : W.cell? ⟨bw, 0, none⟩ = some (.int .i64 x)) (hB : BasA g W) :
    Calls Try.prog 42 (#[.int .i64 i] ++ #[.pointer (some ⟨bb, 0, none⟩), .pointer (some ⟨bw, 0, none⟩)]) W fun e w' => e = .returned (.bool false) ∧ Gr W w' := by
  obtain rfl : i = 0 := by omega
  have q0 := cell_grown (World.block_lt_of_cell? _ _ hb) hb
  have q1 := cell_grown (World.block_lt_of_cell? _ _ hw) hw
  have q2 := cell_grown (World.block_lt_of_cell? _ _ hB.1) hB.1
  have kn : ∀ n os, Calls Try.prog 36 #[.int .i64 x] (Go.Sort.grow (W.drewN n) os) fun e w'' => e = .returned (.bool true) ∧ ∃ p : GrownBy, w'' = Go.Sort.grow (W.drewN p.n) p.os := fun n os => grown_of_gr (hA_any x _)
  have KN := Lib.hid kn
  clear hb hw hB kn
  go_enter Try.func42, Try.ntmps42
  go_wp2_with fail
  have hmix : Try.prog.follows Departure.mixedOrders = true := by kernel_rfl
  go_quiet_grown (first | (go_at_call 36; exact KN.out _ _))
  go_wp2_with fail
  go_ret
  exact ⟨rfl, gr_of _ _⟩

set_option maxRecDepth 100000 in
set_option maxHeartbeats 4000000 in
theorem rulingA (f : Int) (x : Int) (cap : Nat) (g : Nat) (w : World) (hB : BasA g w) :
    Calls Try.prog 41 #[baV f g 1 cap, .int .i64 x] w fun e w' => e = .returned (.agg #[hvA, gvA]) ∧ Gr w w' := by
  obtain ⟨W, hW⟩ : ∃ W, W = ((w.alloc (.cells #[.int .i64 f, .slice (some ⟨g, 0, none⟩) 1 cap] 54)).alloc (.cells #[.int .i64 x] 2)).alloc (.cells #[.nilFunc, .nilFunc] 50) := ⟨_, rfl⟩
  have hGW : Gr w W := by rw [hW]; exact (((Gr.refl _).alloc _).alloc _).alloc _
  have c0 : W.cell? ⟨w.heap.size, 0, none⟩ = some (.int .i64 f) ∧ W.cell? ⟨w.heap.size, 1, none⟩ = some (.slice (some ⟨g, 0, none⟩) 1 cap) := by
    rw [hW]; exact ⟨bcell_up _ (bcell_up _ (bbox2 w _ _ _).1), bcell_up _ (bcell_up _ (bbox2 w _ _ _).2)⟩
  have c1 : W.cell? ⟨w.heap.size + 1, 0, none⟩ = some (.int .i64 x) := by
    rw [hW]; refine bcell_up _ ?_
    have := bbox1 (w.alloc (.cells #[.int .i64 f, .slice (some ⟨g, 0, none⟩) 1 cap] 54)) (.int .i64 x) 2
    rwa [World.size_alloc] at this
  have RO : W.rowIs (w.heap.size + 1 + 1) 50 2 (r2 .nilFunc .nilFunc) := by
    rw [hW]
    have := row2 ((w.alloc (.cells #[.int .i64 f, .slice (some ⟨g, 0, none⟩) 1 cap] 54)).alloc (.cells #[.int .i64 x] 2)) .nilFunc .nilFunc 50
    rwa [World.size_alloc, World.size_alloc] at this
  have hB1 := hB.gr hGW
  have eg : ∀ args w, (callFunc 42 args).run Try.prog w = .ok (.enter 42 args) w := enters_of Try.func42 (by kernel_rfl) rfl
  have hS := Any.sort_Search Try.searchL 42 #[.pointer (some ⟨w.heap.size, 0, none⟩), .pointer (some ⟨w.heap.size + 1, 0, none⟩)] 1 (fun _ => false) W eg (by omega)
    (fun n os i hi => (clA x cap g w.heap.size (w.heap.size + 1) i _ hi (bcell_gr (gr_of n os) c0.2) (bcell_gr (gr_of n os) c1) (hB1.gr (gr_of n os))).mono fun _ _ ⟨he, hq⟩ => ⟨he, hq.eq⟩) (fun _ _ _ _ h => by cases h)
  change Calls Try.prog 22 _ _ _ at hS
  have hcnt : ((List.range 1).countP (fun _ : Nat => !false)) = 1 := rfl
  rw [hcnt] at hS
  clear hcnt
  have HS := Lib.hid hS
  have HGW := Lib.hid hGW
  have HW := Lib.hid hW
  have HB := Lib.hid hB1
  have HRO := Lib.hid RO
  have HC0 := Lib.hid c0
  have hmf : ∀ (fn : Fn) (first cap : Array Value) (w : World), (Instr.makeFunc fn first cap).run Try.prog w = .ok (.func fn first cap) w := fun _ _ _ _ => rfl
  clear hS hGW hW hB1 RO hB eg c0 c1
  go_enter Try.func41, Try.ntmps41
  go_wp2_with fail
  rw [← HW.out]
  refine HS.out.mono ?_
  rintro e W1 ⟨rfl, q, os, hW1⟩
  have hG1 : Gr W W1 := by rw [hW1]; exact gr_of q os
  clear hW1 hmf
  have HG1 : Hid (Gr w W1) := HGW.out.trans hG1
  obtain ⟨d0, d1⟩ := And.intro (bcell_gr hG1 HC0.out.1) (bcell_gr hG1 HC0.out.2)
  have R1 := brow_gr HRO.out hG1
  obtain ⟨⟨o0, o1⟩, z0, z1⟩ := row2_cells R1
  have HR1 := Lib.hid R1
  obtain ⟨e0, e1⟩ := HB.out.gr hG1
  clear hG1 R1
  go_wp2_with fail
  refine bodyPost_ret (v := .agg #[hvA, gvA]) ?_ rfl ⟨rfl, ?_⟩
  · obtain ⟨⟨x0, x1⟩, _⟩ := row2_cells (row2_put HR1.out hvA gvA)
    simp only [results, Try.results41]
    simp [go_sem, x0, x1]
  · exact (HG1.out.set (p := ⟨w.heap.size + 1 + 1, 0, none⟩) (by show w.heap.size ≤ w.heap.size + 1 + 1; omega) _).set (p := ⟨w.heap.size + 1 + 1, 1, none⟩) (by show w.heap.size ≤ w.heap.size + 1 + 1; omega) _
end Go.Proofs.Ytdpghhmcibiplaa
