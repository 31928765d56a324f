/-
  The contract of a basin's step.
-/
import Derived.Test.YtdpghhmcibiplaaStB1
namespace Go.Proofs.Ytdpghhmcibiplaa
open Go.RowKit Go.Deep

/-- The row of six cells. -/
def r6 (a b c d e f : Value) : Nat → Value := fun i => if i = 0 then a else if i = 1 then b else if i = 2 then c else if i = 3 then d else if i = 4 then e else f
theorem six {i : Nat} (hi : i < 6) : i = 0 ∨ i = 1 ∨ i = 2 ∨ i = 3 ∨ i = 4 ∨ i = 5 := by omega
theorem row6 (w : World) (a b c d e f : Value) (t : TypeId) : (w.alloc (.cells #[a, b, c, d, e, f] t)).rowIs w.heap.size t 6 (r6 a b c d e f) := by
  refine ⟨_, blk_alloc_new _ _, rfl, fun i hi => ?_⟩
  rcases six hi with rfl | rfl | rfl | rfl | rfl | rfl <;> rfl
theorem row6_cells {w : World} {g : Nat} {t : TypeId} {a b c d e f : Value} (h : w.rowIs g t 6 (r6 a b c d e f)) : (w.cell? ⟨g, 0, none⟩ = some a ∧ w.cell? ⟨g, 1, none⟩ = some b ∧ w.cell? ⟨g, 2, none⟩ = some c ∧ w.cell? ⟨g, 3, none⟩ = some d ∧ w.cell? ⟨g, 4, none⟩ = some e ∧ w.cell? ⟨g, 5, none⟩ = some f) ∧ (w.frozen? ⟨g, 0, none⟩ = false ∧ w.frozen? ⟨g, 1, none⟩ = false ∧ w.frozen? ⟨g, 2, none⟩ = false ∧ w.frozen? ⟨g, 3, none⟩ = false ∧ w.frozen? ⟨g, 4, none⟩ = false ∧ w.frozen? ⟨g, 5, none⟩ = false) :=
  ⟨⟨h.cell (i := 0) (by omega), h.cell (i := 1) (by omega), h.cell (i := 2) (by omega), h.cell (i := 3) (by omega), h.cell (i := 4) (by omega), h.cell (i := 5) (by omega)⟩, h.frozen 0, h.frozen 1, h.frozen 2, h.frozen 3, h.frozen 4, h.frozen 5⟩
/-- Six cells written. -/
abbrev put6 (w : World) (g : Nat) (a b c d e f : Value) : World := (((((w.setCell ⟨g, 0, none⟩ a).setCell ⟨g, 1, none⟩ b).setCell ⟨g, 2, none⟩ c).setCell ⟨g, 3, none⟩ d).setCell ⟨g, 4, none⟩ e).setCell ⟨g, 5, none⟩ f
theorem row6_put {w : World} {g : Nat} {t : TypeId} {a b c d e f : Value} (h : w.rowIs g t 6 (r6 a b c d e f)) (x0 x1 x2 x3 x4 x5 : Value) : (put6 w g x0 x1 x2 x3 x4 x5).rowIs g t 6 (r6 x0 x1 x2 x3 x4 x5) := by
  obtain ⟨cur, h1, h2, h3⟩ := (((((h.set 0 x0).set 1 x1).set 2 x2).set 3 x3).set 4 x4).set 5 x5
  refine ⟨cur, h1, h2, fun i hi => ?_⟩
  rw [h3 i hi]
  rcases six hi with rfl | rfl | rfl | rfl | rfl | rfl <;> rfl
theorem gr_put6 {a w : World} (h : Gr a w) {g : Nat} (hg : a.heap.size ≤ g) (x0 x1 x2 x3 x4 x5 : Value) : Gr a (put6 w g x0 x1 x2 x3 x4 x5) :=
  (((((h.set (p := ⟨g, 0, none⟩) hg _).set (p := ⟨g, 1, none⟩) hg _).set (p := ⟨g, 2, none⟩) hg _).set (p := ⟨g, 3, none⟩) hg _).set (p := ⟨g, 4, none⟩) hg _).set (p := ⟨g, 5, none⟩) hg _
theorem gives_field (a b : Value) (w : World) : (Instr.field 50 (.agg #[a, b]) 1).run Try.prog w = .ok b w := by kernel_rfl
abbrev zOut : Value := .agg #[.int .i64 0, .int .i64 0, .int .i64 0, .int .i64 0, .int .i64 0, .int .i64 0]
abbrev zOutO : Obj := .cells #[.int .i64 0, .int .i64 0, .int .i64 0, .int .i64 0, .int .i64 0, .int .i64 0] 76


set_option maxRecDepth 100000 in
set_option maxHeartbeats 4000000 in
theorem stepA (f : Int) (v y x : Int) (cap : Nat) (g : Nat) (w : World) (hB : BasA g w) (f0 : 0 ≤ f) (f1 : f ≤ 1000000000) (v0 : 0 ≤ v) (v1 : v ≤ 1000000000) (y0 : 0 ≤ y) (y1 : y ≤ 1000000) (x0 : 0 ≤ x) (x1 : x ≤ 1000000) :
    Calls Try.prog 38 #[baV f g 1 cap, .int .i64 v, .int .i64 y, .int .i64 x] w fun e w' => e = .returned (outV (St.stepOf f 1000 (v + y) x)) ∧ Gr w w' := by
  obtain ⟨W, hW⟩ : ∃ W, W = (w.alloc (.cells #[.int .i64 f, .slice (some ⟨g, 0, none⟩) 1 cap] 54)).alloc zOutO := ⟨_, rfl⟩
  have hGW : Gr w W := by rw [hW]; exact ((Gr.refl _).alloc _).alloc _
  have c0 : W.cell? ⟨w.heap.size, 0, none⟩ = some (.int .i64 f) ∧ W.cell? ⟨w.heap.size, 1, none⟩ = some (.slice (some ⟨g, 0, none⟩) 1 cap) := by
    rw [hW]; exact ⟨bcell_up _ (bbox2 w _ _ _).1, bcell_up _ (bbox2 w _ _ _).2⟩
  have RO : W.rowIs (w.heap.size + 1) 76 6 (r6 (.int .i64 0) (.int .i64 0) (.int .i64 0) (.int .i64 0) (.int .i64 0) (.int .i64 0)) := by
    rw [hW]
    have := row6 (w.alloc (.cells #[.int .i64 f, .slice (some ⟨g, 0, none⟩) 1 cap] 54)) (.int .i64 0) (.int .i64 0) (.int .i64 0) (.int .i64 0) (.int .i64 0) (.int .i64 0) 76
    rwa [World.size_alloc] at this
  have HGW := Lib.hid hGW
  have HW := Lib.hid hW
  have HB := Lib.hid (hB.gr hGW)
  have HRO := Lib.hid RO
  have HC0 := Lib.hid c0
  have hxs0 : 0 ≤ v + y := by omega
  have hxs1 : v + y ≤ 1001000000 := by omega
  have hfd := gives_field hvA gvA
  obtain ⟨o, ho⟩ : ∃ o, o = St.stepOf f 1000 (v + y) x := ⟨_, rfl⟩
  rw [← ho]
  have HO := Lib.hid ho
  clear ho
  
  clear hGW hW RO hB c0
  go_enter Try.func38, Try.ntmps38
  go_wp2_with fail
  rw [← HW.out]
  refine (rulingA f (v + y) cap g _ HB.out).mono ?_
  rintro e W1 ⟨rfl, hG1⟩
  have HG1 : Hid (Gr w W1) := HGW.out.trans hG1
  have R1 := brow_gr HRO.out hG1
  have HR1 := Lib.hid R1
  have HC1 : Hid (W1.cell? ⟨w.heap.size, 0, none⟩ = some (.int .i64 f) ∧ W1.cell? ⟨w.heap.size, 1, none⟩ = some (.slice (some ⟨g, 0, none⟩) 1 cap)) := ⟨bcell_gr hG1 HC0.out.1, bcell_gr hG1 HC0.out.2⟩
  have HB1 := Lib.hid (HB.out.gr hG1)
  clear hG1 R1 HC0 HRO HB
  go_wp2_with fail
  refine (gA_any x _).mono ?_
  rintro e W2 ⟨rfl, hG2⟩
  have HG2 : Hid (Gr w W2) := HG1.out.trans hG2
  have R2 := brow_gr HR1.out hG2
  have HR2 := Lib.hid R2
  obtain ⟨d0, d1⟩ := And.intro (bcell_gr hG2 HC1.out.1) (bcell_gr hG2 HC1.out.2)
  obtain ⟨⟨o0, o1, o2, o3, o4, o5⟩, z0, z1, z2, z3, z4, z5⟩ := row6_cells R2
  clear hG2 R2 hfd
  have HGC : Hid (St.givenOf 1000 (v + y) x = min x (v + y)) := St.given_all
  have hle : w.heap.size ≤ w.heap.size + 1 := by omega
  have HLE := Lib.hid hle
  clear hle
  by_cases k1 : x ≤ v + y
  · have k4 : min x (v + y) = x := by omega
    by_cases k2 : v + y - x - f ≤ 0
    · have k3 : max (v + y - x - f) 0 = 0 := by omega
      have ho : o = ⟨v + y - x, x, 0, 0⟩ := by
        rw [HO.out]; unfold St.stepOf; rw [HGC.out]; simp only [St.Out.mk.injEq]; omega
      have HO2 := Lib.hid ho
      clear ho
      go_wp2_with fail
      refine bodyPost_ret (v := outV o) ?_ rfl ⟨rfl, gr_put6 HG2.out HLE.out _ _ _ _ _ _⟩
      obtain ⟨⟨x0, x1, x2, x3, x4, x5⟩, _⟩ := row6_cells (row6_put HR2.out (.int .i64 (v + y - x)) (.int .i64 (x)) (.int .i64 (0)) (.int .i64 (0)) (.int .i64 0) (.int .i64 0))
      rw [HO2.out]
      simp only [results, Try.results38]
      simp [go_sem, x0, x1, x2, x3, x4, x5]
    · have k3 : max (v + y - x - f) 0 = v + y - x - f := by omega
      have k5 : v + y - x - (v + y - x - f) = f := by omega
      have ho : o = ⟨f, x, v + y - x - f, 0⟩ := by
        rw [HO.out]; unfold St.stepOf; rw [HGC.out]; simp only [St.Out.mk.injEq]; omega
      have HO2 := Lib.hid ho
      clear ho
      go_wp2_with fail
      refine bodyPost_ret (v := outV o) ?_ rfl ⟨rfl, gr_put6 HG2.out HLE.out _ _ _ _ _ _⟩
      obtain ⟨⟨x0, x1, x2, x3, x4, x5⟩, _⟩ := row6_cells (row6_put HR2.out (.int .i64 (f)) (.int .i64 (x)) (.int .i64 (v + y - x - f)) (.int .i64 (0)) (.int .i64 0) (.int .i64 0))
      rw [HO2.out]
      simp only [results, Try.results38]
      simp [go_sem, x0, x1, x2, x3, x4, x5]
  · have k4 : min x (v + y) = v + y := by omega
    have k3 : max (0 - f) 0 = 0 := by omega
    have k6 : max (-f) 0 = 0 := by omega
    have ho : o = ⟨0, v + y, 0, x - (v + y)⟩ := by
      rw [HO.out]; unfold St.stepOf; rw [HGC.out]; simp only [St.Out.mk.injEq]; omega
    have HO2 := Lib.hid ho
    clear ho
    go_wp2_with fail
    refine bodyPost_ret (v := outV o) ?_ rfl ⟨rfl, gr_put6 HG2.out HLE.out _ _ _ _ _ _⟩
    obtain ⟨⟨x0, x1, x2, x3, x4, x5⟩, _⟩ := row6_cells (row6_put HR2.out (.int .i64 (0)) (.int .i64 (v + y)) (.int .i64 (0)) (.int .i64 (x - (v + y))) (.int .i64 0) (.int .i64 0))
    rw [HO2.out]
    simp only [results, Try.results38]
    simp [go_sem, x0, x1, x2, x3, x4, x5]
end Go.Proofs.Ytdpghhmcibiplaa
