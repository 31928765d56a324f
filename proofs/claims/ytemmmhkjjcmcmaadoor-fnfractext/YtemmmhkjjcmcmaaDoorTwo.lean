/-
  The contracts of the model's draw of two fractions.
-/
import Derived.Test.YtemmmhkjjcmcmaaDoorODraw
import Derived.Test.YtemmmhkjjcmcmaaDoorSource
import Derived.Deep.RegionWith
namespace Go.Proofs.YtemmmhkjjcmcmaaDoor
open Go.RowKit

def In64 (a : Int) : Prop := -9223372036854775808 ≤ a ∧ a ≤ 9223372036854775807

/-- Two slots of results, a source, and a variable of two numbers behind them. -/
def TV (w : World) (A : Nat) (a b : Int) (W : World) : Prop :=
  Src (w.heap.size + 2) W ∧ Below w.heap.size w W ∧ (w.heap.size + 2 < A ∧ A < W.heap.size) ∧
  (W.cell? ⟨A, 0, none⟩ = some (.int .i64 a) ∧ W.cell? ⟨A, 1, none⟩ = some (.int .i64 b)) ∧
  (W.cell? ⟨w.heap.size, 0, none⟩ = some (.int .i64 0) ∧ W.cell? ⟨w.heap.size, 1, none⟩ = some (.int .i64 0) ∧ W.frozen? ⟨w.heap.size, 0, none⟩ = false ∧ W.frozen? ⟨w.heap.size, 1, none⟩ = false) ∧
  (W.cell? ⟨w.heap.size + 1, 0, none⟩ = some (.int .i64 0) ∧ W.cell? ⟨w.heap.size + 1, 1, none⟩ = some (.int .i64 0) ∧ W.frozen? ⟨w.heap.size + 1, 0, none⟩ = false ∧ W.frozen? ⟨w.heap.size + 1, 1, none⟩ = false)

theorem TV.draw {w : World} {A : Nat} {a b : Int} {W W' : World} (h : TV w A a b W) (hd : Drew (w.heap.size + 2) W W') : TV w A a b W' := by
  obtain ⟨_, h2, ⟨h3, h4⟩, ⟨c0, c1⟩, ⟨d0, d1, e0, e1⟩, ⟨x0, x1, y0, y1⟩⟩ := h
  have hz := hd.2.size
  have k (p : Addr) (h1 : p.block < W.heap.size) (h2 : p.block ≠ w.heap.size + 2) := hd.2.cell (p := p) h1 h2
  have f (p : Addr) (h1 : p.block < W.heap.size) (h2 : p.block ≠ w.heap.size + 2) := hd.2.frozen (p := p) h1 h2
  refine ⟨hd.1, h2.trans (hd.2.below (by omega) (by omega)), ⟨h3, by omega⟩, ⟨(k ⟨A, 0, none⟩ h4 (by show A ≠ _; omega)).trans c0, (k ⟨A, 1, none⟩ h4 (by show A ≠ _; omega)).trans c1⟩, ?_, ?_⟩
  · have q1 : w.heap.size < W.heap.size := by omega
    have q2 : w.heap.size ≠ w.heap.size + 2 := by omega
    exact ⟨(k ⟨w.heap.size, 0, none⟩ q1 q2).trans d0, (k ⟨w.heap.size, 1, none⟩ q1 q2).trans d1, (f ⟨w.heap.size, 0, none⟩ q1 q2).trans e0, (f ⟨w.heap.size, 1, none⟩ q1 q2).trans e1⟩
  · have q1 : w.heap.size + 1 < W.heap.size := by omega
    have q2 : w.heap.size + 1 ≠ w.heap.size + 2 := by omega
    exact ⟨(k ⟨w.heap.size + 1, 0, none⟩ q1 q2).trans x0, (k ⟨w.heap.size + 1, 1, none⟩ q1 q2).trans x1, (f ⟨w.heap.size + 1, 0, none⟩ q1 q2).trans y0, (f ⟨w.heap.size + 1, 1, none⟩ q1 q2).trans y1⟩

theorem TV.drew {w : World} {A : Nat} {a b : Int} {W : World} (h : TV w A a b W) : TV w A a b W.drew := by
  obtain ⟨h1, h2, h3, h4, h5, h6⟩ := h
  exact ⟨h1.below (Below.refl _ _).drew, h2.drew, h3, h4, h5, h6⟩

theorem tv_first {w w1 w2 : World} {n1 d1 : Int} {t : TypeId} (hB : Below w.heap.size w ((w.alloc (.cells #[.int .i64 0, .int .i64 0] t)).alloc (.cells #[.int .i64 0, .int .i64 0] t))) (hS : Src (w.heap.size + 2) w1)
    (hB1 : Below (w.heap.size + 2) ((w.alloc (.cells #[.int .i64 0, .int .i64 0] t)).alloc (.cells #[.int .i64 0, .int .i64 0] t)) w1) (hD : Drew (w.heap.size + 2) w1 w2) :
    TV w w2.heap.size n1 d1 (w2.alloc (.cells #[.int .i64 n1, .int .i64 d1] t)) := by
  have hl := hS.lt
  have hz := hD.2.size
  have hC : Below (w.heap.size + 2) ((w.alloc (.cells #[.int .i64 0, .int .i64 0] t)).alloc (.cells #[.int .i64 0, .int .i64 0] t)) (w2.alloc (.cells #[.int .i64 n1, .int .i64 d1] t)) := (hB1.trans (hD.2.below (Nat.le_refl _) (by omega))).alloc (by omega) _
  refine ⟨hD.1.below ((Below.refl _ _).alloc (Nat.le_refl _) _), hB.trans (hC.mono (by omega)), ⟨by omega, by simp⟩, ⟨by simp, by simp⟩, ?_, ?_⟩
  · refine ⟨?_, ?_, ?_, ?_⟩
    · rw [hC.cell (by show w.heap.size < _; omega)]; simp [World.cell?_alloc_lt]
    · rw [hC.cell (by show w.heap.size < _; omega)]; simp [World.cell?_alloc_lt]
    · rw [hC.frozen (by show w.heap.size < _; omega)]; simp [World.frozen?_alloc_old]
    · rw [hC.frozen (by show w.heap.size < _; omega)]; simp [World.frozen?_alloc_old]
  · refine ⟨?_, ?_, ?_, ?_⟩
    · rw [hC.cell (by show w.heap.size + 1 < _; omega)]; simp
    · rw [hC.cell (by show w.heap.size + 1 < _; omega)]; simp
    · rw [hC.frozen (by show w.heap.size + 1 < _; omega)]; simp
    · rw [hC.frozen (by show w.heap.size + 1 < _; omega)]; simp

theorem slots_keep {w W : World} {t : TypeId} (hC : Below ((w.alloc (.cells #[.int .i64 0, .int .i64 0] t)).alloc (.cells #[.int .i64 0, .int .i64 0] t)).heap.size ((w.alloc (.cells #[.int .i64 0, .int .i64 0] t)).alloc (.cells #[.int .i64 0, .int .i64 0] t)) W) :
    (W.cell? ⟨w.heap.size, 0, none⟩ = some (.int .i64 0) ∧ W.cell? ⟨w.heap.size, 1, none⟩ = some (.int .i64 0) ∧ W.frozen? ⟨w.heap.size, 0, none⟩ = false ∧ W.frozen? ⟨w.heap.size, 1, none⟩ = false) ∧
    (W.cell? ⟨w.heap.size + 1, 0, none⟩ = some (.int .i64 0) ∧ W.cell? ⟨w.heap.size + 1, 1, none⟩ = some (.int .i64 0) ∧ W.frozen? ⟨w.heap.size + 1, 0, none⟩ = false ∧ W.frozen? ⟨w.heap.size + 1, 1, none⟩ = false) := by
  replace hC := hC.mono (show w.heap.size + 2 ≤ _ by simp)
  refine ⟨⟨?_, ?_, ?_, ?_⟩, ?_, ?_, ?_, ?_⟩
  · rw [hC.cell (by show w.heap.size < _; omega)]; simp [World.cell?_alloc_lt]
  · rw [hC.cell (by show w.heap.size < _; omega)]; simp [World.cell?_alloc_lt]
  · rw [hC.frozen (by show w.heap.size < _; omega)]; simp [World.frozen?_alloc_old]
  · rw [hC.frozen (by show w.heap.size < _; omega)]; simp [World.frozen?_alloc_old]
  · rw [hC.cell (by show w.heap.size + 1 < _; omega)]; simp
  · rw [hC.cell (by show w.heap.size + 1 < _; omega)]; simp
  · rw [hC.frozen (by show w.heap.size + 1 < _; omega)]; simp
  · rw [hC.frozen (by show w.heap.size + 1 < _; omega)]; simp

theorem four_set {W : World} {R S : Nat} {u0 u1 v0 v1 : Value} (p0 : W.cell? ⟨R, 0, none⟩ = some u0) (p1 : W.cell? ⟨R, 1, none⟩ = some u1) (q0 : W.cell? ⟨S, 0, none⟩ = some v0) (q1 : W.cell? ⟨S, 1, none⟩ = some v1) (hne : R ≠ S) (a b c d : Value) :
    ((((W.setCell ⟨R, 0, none⟩ a).setCell ⟨R, 1, none⟩ b).setCell ⟨S, 0, none⟩ c).setCell ⟨S, 1, none⟩ d).cell? ⟨R, 0, none⟩ = some a ∧
    ((((W.setCell ⟨R, 0, none⟩ a).setCell ⟨R, 1, none⟩ b).setCell ⟨S, 0, none⟩ c).setCell ⟨S, 1, none⟩ d).cell? ⟨R, 1, none⟩ = some b ∧
    ((((W.setCell ⟨R, 0, none⟩ a).setCell ⟨R, 1, none⟩ b).setCell ⟨S, 0, none⟩ c).setCell ⟨S, 1, none⟩ d).cell? ⟨S, 0, none⟩ = some c ∧
    ((((W.setCell ⟨R, 0, none⟩ a).setCell ⟨R, 1, none⟩ b).setCell ⟨S, 0, none⟩ c).setCell ⟨S, 1, none⟩ d).cell? ⟨S, 1, none⟩ = some d := by
  have h1 := set_cells p0 p1 a b
  have h2 := set_cells (W := (W.setCell ⟨R, 0, none⟩ a).setCell ⟨R, 1, none⟩ b) ((set_other a b (p := ⟨S, 0, none⟩) (by show S ≠ R; omega)).trans q0) ((set_other a b (p := ⟨S, 1, none⟩) (by show S ≠ R; omega)).trans q1) c d
  exact ⟨(set_other c d (p := ⟨R, 0, none⟩) hne).trans h1.1, (set_other c d (p := ⟨R, 1, none⟩) hne).trans h1.2, h2.1, h2.2⟩

theorem below_set' {B : Nat} {w W : World} (h : Below B w W) {b : Nat} (hb : B ≤ b) (o : Nat) (v : Value) : Below B w (W.setCell ⟨b, o, none⟩ v) :=
  ⟨h.os, h.tape, h.output, by simpa using h.size, fun k hk => (Below.heap_setCell _ _ _ _ (by show k ≠ b; omega)).trans (h.block k hk)⟩

set_option maxRecDepth 100000 in
set_option maxHeartbeats 4000000 in
theorem two_any (a : Option Addr) (len cap : Nat) (w : World) (h : Bytes a len w) (hl : len ≤ 1048576) :
    Calls Tryd.prog 20 #[.slice a len cap] w fun e w' => (∃ n1 d1 n2 d2, e = .returned (.tuple #[.agg #[.int .i64 n1, .int .i64 d1], .agg #[.int .i64 n2, .int .i64 d2]]) ∧ In64 n1 ∧ In64 d1 ∧ In64 n2 ∧ In64 d2) ∧ Below w.heap.size w w' := by
  have H : Hid (Bytes a len w) := h
  clear h
  go_enter Tryd.func20, Tryd.ntmps20
  go_wp2_with fail
  have hB : Below w.heap.size w ((w.alloc (.cells #[.int .i64 0, .int .i64 0] 24)).alloc (.cells #[.int .i64 0, .int .i64 0] 24)) := ((Below.refl _ _).alloc (Nat.le_refl _) _).alloc (by simp) _
  refine (source_any a len cap _ (H.out.below hB) hl).mono ?_
  rintro e w1 ⟨rfl, hS1, hB1⟩
  have e2 : ((w.alloc (.cells #[.int .i64 0, .int .i64 0] 24)).alloc (.cells #[.int .i64 0, .int .i64 0] 24)).heap.size = w.heap.size + 2 := by simp
  rw [e2] at hS1 hB1 ⊢
  have HW : Hid (Src (w.heap.size + 2) w1 ∧ Below (w.heap.size + 2) ((w.alloc (.cells #[.int .i64 0, .int .i64 0] 24)).alloc (.cells #[.int .i64 0, .int .i64 0] 24)) w1) := ⟨hS1, hB1⟩
  clear hS1 hB1 e2
  go_wp2_with fail
  refine (frac_any _ _ HW.out.1).mono ?_
  rintro e w2 ⟨⟨n1, d1, rfl, k1, k2, k3, k4⟩, hD2⟩
  have HT : Hid (TV w w2.heap.size n1 d1 (w2.alloc (.cells #[.int .i64 n1, .int .i64 d1] 24))) := tv_first hB HW.out.1 HW.out.2 hD2
  clear hD2 HW
  obtain ⟨hS2, _, ⟨hz1, hz2⟩, ⟨c0, c1⟩, ⟨r0, r1, s0, s1⟩, ⟨t0, t1, u0, u1⟩⟩ := HT.out
  clear hS2
  go_wp2_with fail
  have HT1 : Hid (TV w w2.heap.size n1 d1 (w2.alloc (.cells #[.int .i64 n1, .int .i64 d1] 24)).drew) := HT.out.drew
  have HT2 : Hid (TV w w2.heap.size n1 d1 (w2.alloc (.cells #[.int .i64 n1, .int .i64 d1] 24)).drew.drew) := HT.out.drew.drew
  go_region_with (go_at_call 33; (first | (refine (frac_any _ _ HT1.out.1).mono ?_; rintro e w3 ⟨⟨n2, d2, rfl, k5, k6, k7, k8⟩, hD3⟩; have HT3 := HT1.out.draw hD3) | (refine (frac_any _ _ HT2.out.1).mono ?_; rintro e w3 ⟨⟨n2, d2, rfl, k5, k6, k7, k8⟩, hD3⟩; have HT3 := HT2.out.draw hD3)); clear hD3; obtain ⟨hS3, hB3, hz3, ⟨g0, g1⟩, ⟨p0, p1, q0, q1⟩, ⟨l0, l1, m0, m1⟩⟩ := HT3)
  all_goals
    have hs := four_set p0 p1 l0 l1 (show w.heap.size ≠ w.heap.size + 1 by omega) (.int .i64 n1) (.int .i64 d1) (.int .i64 n2) (.int .i64 d2)
    go_wp2_with fail
    refine bodyPost_ret (v := .tuple #[.agg #[.int .i64 n1, .int .i64 d1], .agg #[.int .i64 n2, .int .i64 d2]]) (by simp [results, Tryd.results20, go_sem, hs.1, hs.2.1, hs.2.2.1, hs.2.2.2]) rfl ⟨⟨n1, d1, n2, d2, rfl, ⟨k1, k2⟩, ⟨k3, k4⟩, ⟨k5, k6⟩, ⟨k7, k8⟩⟩, ?_⟩
    exact below_set' (below_set' (below_set' (below_set' hB3 (Nat.le_refl _) _ _) (Nat.le_refl _) _ _) (by omega) _ _) (by omega) _ _

set_option maxRecDepth 100000 in
set_option maxHeartbeats 400000 in
theorem drawAdd_any (a : Option Addr) (len cap : Nat) (w : World) (h : Bytes a len w) (hl : len ≤ 1048576) :
    Calls Tryd.prog 5 #[.slice a len cap] w fun e w' => (∃ n1 d1 n2 d2, e = .returned (.tuple #[.agg #[.int .i64 n1, .int .i64 d1], .agg #[.int .i64 n2, .int .i64 d2]]) ∧ In64 n1 ∧ In64 d1 ∧ In64 n2 ∧ In64 d2) ∧ Below w.heap.size w w' := by
  have H : Hid (Bytes a len w) := h
  clear h
  go_enter Tryd.func5, Tryd.ntmps5
  go_wp2_with fail
  have hB : Below w.heap.size w ((w.alloc (.cells #[.int .i64 0, .int .i64 0] 24)).alloc (.cells #[.int .i64 0, .int .i64 0] 24)) := ((Below.refl _ _).alloc (Nat.le_refl _) _).alloc (by simp) _
  refine (two_any a len cap _ (H.out.below hB) hl).mono ?_
  rintro e w1 ⟨⟨n1, d1, n2, d2, rfl, k1, k2, k3, k4⟩, hB1⟩
  have hB3 := hB.trans (hB1.mono (by simp; omega))
  obtain ⟨⟨p0, p1, q0, q1⟩, ⟨l0, l1, m0, m1⟩⟩ := slots_keep hB1
  have HB3 : Hid (Below w.heap.size w w1) := hB3
  clear hB hB1 hB3
  have hs := four_set p0 p1 l0 l1 (show w.heap.size ≠ w.heap.size + 1 by omega) (.int .i64 n1) (.int .i64 d1) (.int .i64 n2) (.int .i64 d2)
  go_wp2_with fail
  refine bodyPost_ret (v := .tuple #[.agg #[.int .i64 n1, .int .i64 d1], .agg #[.int .i64 n2, .int .i64 d2]]) (by simp [results, Tryd.results5, go_sem, hs.1, hs.2.1, hs.2.2.1, hs.2.2.2]) rfl ⟨⟨n1, d1, n2, d2, rfl, k1, k2, k3, k4⟩, ?_⟩
  exact below_set' (below_set' (below_set' (below_set' HB3.out (Nat.le_refl _) _ _) (Nat.le_refl _) _ _) (by omega) _ _) (by omega) _ _
end Go.Proofs.YtemmmhkjjcmcmaaDoor
