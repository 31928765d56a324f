/-
  The contracts of both packages' quotients in lowest terms and of FracOf, and of the comparison of two answers.
-/
import Derived.Test.YtkaokfmaecdkiaaGreatDoorAsC
import Derived.Test.YtkaokfmaecdkiaaGreatDoorRight
namespace Go.Proofs.YtkaokfmaecdkiaaGreatDoor
open Go.RowKit

/-- A new block of three cells, still as it was in a later world. -/
theorem kept3 {w w1 : World} {t : TypeId} {x y z : Value} (hb : Below (w.heap.size + 1) (w.alloc (.cells #[x, y, z] t)) w1) :
    w1.cell? ⟨w.heap.size, 0, none⟩ = some x ∧ w1.cell? ⟨w.heap.size, 1, none⟩ = some y ∧ w1.cell? ⟨w.heap.size, 2, none⟩ = some z ∧ w1.frozen? ⟨w.heap.size, 0, none⟩ = false ∧ w1.frozen? ⟨w.heap.size, 1, none⟩ = false ∧ w1.frozen? ⟨w.heap.size, 2, none⟩ = false ∧ w.heap.size < w1.heap.size ∧ Hid (Below w.heap.size w w1) := by
  refine ⟨?_, ?_, ?_, ?_, ?_, ?_, ?_, ?_⟩
  · rw [hb.cell (by simp)]; simp
  · rw [hb.cell (by simp)]; simp
  · rw [hb.cell (by simp)]; simp
  · rw [hb.frozen (by simp)]; simp
  · rw [hb.frozen (by simp)]; simp
  · rw [hb.frozen (by simp)]; simp
  · have := hb.size; simp at this; omega
  · exact ((Below.refl _ _).alloc (Nat.le_refl _) _).trans (hb.mono (by omega))

theorem below_set3 {w w1 : World} {B b : Nat} (h : Below B w w1) (hp : B ≤ b) (x y z : Value) : Below B w (((w1.setCell ⟨b, 0, none⟩ x).setCell ⟨b, 1, none⟩ y).setCell ⟨b, 2, none⟩ z) :=
  ((h.setCell (p := ⟨b, 0, none⟩) hp x).setCell (p := ⟨b, 1, none⟩) hp y).setCell (p := ⟨b, 2, none⟩) hp z

set_option maxHeartbeats 1000000 in
theorem tell_ok (n d : Int) (w : World) :
    Calls Tryz.prog 94 #[.agg #[.int .i64 n, .int .i64 d], .nilIface] w fun e w' => e = .returned (.agg #[.int .i64 n, .int .i64 d, .int .i64 0]) ∧ Below w.heap.size w w' := by
  go_enter Tryz.func94, Tryz.ntmps94
  go_wp2
  exact bodyPost_ret (v := .agg #[.int .i64 n, .int .i64 d, .int .i64 0]) (by simp [results, Tryz.results94, go_sem]) rfl ⟨rfl, ((Below.refl _ _).alloc (Nat.le_refl _) _).alloc (by simp) _⟩

set_option maxHeartbeats 1000000 in
theorem tell_bad (n d : Int) (y : Value) (c : Int) (H : AsFinds y c) (w : World) (hg : w.cell? ⟨0, 0, none⟩ = some (.iface 153 (.agg #[.pointer (some ⟨1, 99, none⟩)]))) :
    Calls Tryz.prog 94 #[.agg #[.int .i64 n, .int .i64 d], .iface 105 y] w fun e w' => e = .returned (.agg #[.int .i64 0, .int .i64 0, .int .i64 c]) ∧ Below w.heap.size w w' := by
  have Hs : Hid (AsFinds y c) := H
  have hgl : 0 < w.heap.size := World.block_lt_of_cell? _ _ hg
  have Hg : Hid (∀ A B, ((w.alloc A).alloc B).cell? ⟨0, 0, none⟩ = some (.iface 153 (.agg #[.pointer (some ⟨1, 99, none⟩)]))) := fun A B => by
    rw [World.cell?_alloc_lt _ _ ⟨0, 0, none⟩ (by simp <;> omega), World.cell?_alloc_lt _ _ ⟨0, 0, none⟩ hgl]; exact hg
  clear H hg
  go_enter Tryz.func94, Tryz.ntmps94
  go_wp2_with fail
  refine (codeOf_any y c Hs.out _ (Hg.out _ _)).mono ?_
  rintro e w1 ⟨rfl, hb⟩
  obtain ⟨c0, c1, c2, f0, f1, f2, hz, hB⟩ := kept3 (hb.mono (by simp))
  simp only [World.size_alloc] at c0 c1 c2 f0 f1 f2 hz
  have HB : Hid (Below w.heap.size w w1) := ((Below.refl _ _).alloc (Nat.le_refl _) _).trans (hB.out.mono (by simp))
  clear hb hB
  go_wp2_with fail
  exact bodyPost_ret (v := .agg #[.int .i64 0, .int .i64 0, .int .i64 c]) (by simp [results, Tryz.results94, go_sem, c0, c1, c2]) rfl ⟨rfl, below_set3 HB.out (by omega) _ _ _⟩

set_option maxHeartbeats 1000000 in
theorem specLow_pos (n d : Int) (w : World) (h1 : -9223372036854775807 ≤ n) (h2 : n ≤ 9223372036854775807) (h3 : 0 < d) (h4 : d ≤ 9223372036854775807) :
    Calls Tryz.prog 57 #[.int .i64 n, .int .i64 d] w fun e w' => e = .returned (.agg #[.int .i64 (M.oN n d), .int .i64 (M.oD n d), .int .i64 (M.codeF n d)]) ∧ Below w.heap.size w w' := by
  have hr := M.right_low n d (by omega) (by omega) (by omega)
  have hcc : M.codeF n d = 0 ∨ M.codeF n d = 5 := by
    unfold M.codeF; rw [if_neg (by omega), if_neg (by omega)]; split <;> simp
  unfold M.oN M.oD
  have k3 : ¬ d < 0 := by omega
  have en : M.lowN n d = n.tdiv (Int.gcd n d) := by unfold M.lowN; rw [if_neg k3]
  have ed : M.lowD n d = d / (Int.gcd n d : Int) := by unfold M.lowD; rw [if_neg k3, Int.tdiv_eq_ediv_of_nonneg (by omega)]
  have Hn : Hid (M.lowN n d = n.tdiv (Int.gcd n d)) := en
  have Hd : Hid (M.lowD n d = d / (Int.gcd n d : Int)) := ed
  clear en ed
  have hg := M.gcd_pos n d (by omega)
  have hg2 := M.gcd_le n d h3
  have hg0 : (((Int.gcd n d : Nat) : Int) == 0) = false := by simp; omega
  cases hb : M.rightB (M.lowN n d) (M.lowD n d)
  · have hc : M.codeF n d = 5 := by
      rcases hcc with k | k
      · rw [hr.2 k] at hb; cases hb
      · exact k
    rw [hc]
    simp only [show ¬ ((5 : Int) = 0) by omega, if_false]
    clear hr hcc hc
    go_enter Tryz.func57, Tryz.ntmps57
    go_wp2_with fail
    refine (specAbs _ _ (by omega) (by omega)).mono ?_
    rintro e w' ⟨rfl, rfl⟩
    go_wp2_with fail
    refine (specGcd _ _ _ (by omega) (by omega) (by omega) (by omega)).mono ?_
    rintro e w' ⟨rfl, m, rfl⟩
    rw [M.gcd_natAbs]
    go_wp2_with fail
    go_region
    rw [← Hn.out, ← Hd.out]
    go_wp2_with fail
    refine (specRight_any _ _ _).mono ?_
    rintro e w2 ⟨rfl, hb2⟩
    rw [hb]
    have hb3 : Below (w.heap.size + 1) (w.alloc (.cells #[.int .i64 0, .int .i64 0, .int .i64 0] 65)) w2 := ((below_drewN (Below.refl _ _) (m + 1)).alloc (by simp) _).trans (hb2.mono (by simp))
    obtain ⟨c0, c1, c2, f0, f1, f2, hz, HB⟩ := kept3 hb3
    have e0 : w2.cell? ⟨w.heap.size + 1, 0, none⟩ = some (.int .i64 (M.lowN n d)) := by rw [hb2.cell (by simp), World.cell?_alloc_at _ _ _ _ (by simp)]; rfl
    have e1 : w2.cell? ⟨w.heap.size + 1, 1, none⟩ = some (.int .i64 (M.lowD n d)) := by rw [hb2.cell (by simp), World.cell?_alloc_at _ _ _ _ (by simp)]; rfl
    clear hb2 hb3
    go_wp2_with fail
    exact bodyPost_ret (v := .agg #[.int .i64 0, .int .i64 0, .int .i64 5]) (by simp [results, Tryz.results57, go_sem, c0, c1, c2]) rfl ⟨rfl, below_set3 HB.out (Nat.le_refl _) _ _ _⟩
  · have hc : M.codeF n d = 0 := hr.1 hb
    rw [hc]
    simp only [if_true]
    clear hr hcc hc
    go_enter Tryz.func57, Tryz.ntmps57
    go_wp2_with fail
    refine (specAbs _ _ (by omega) (by omega)).mono ?_
    rintro e w' ⟨rfl, rfl⟩
    go_wp2_with fail
    refine (specGcd _ _ _ (by omega) (by omega) (by omega) (by omega)).mono ?_
    rintro e w' ⟨rfl, m, rfl⟩
    rw [M.gcd_natAbs]
    go_wp2_with fail
    go_region
    rw [← Hn.out, ← Hd.out]
    go_wp2_with fail
    refine (specRight_any _ _ _).mono ?_
    rintro e w2 ⟨rfl, hb2⟩
    rw [hb]
    have hb3 : Below (w.heap.size + 1) (w.alloc (.cells #[.int .i64 0, .int .i64 0, .int .i64 0] 65)) w2 := ((below_drewN (Below.refl _ _) (m + 1)).alloc (by simp) _).trans (hb2.mono (by simp))
    obtain ⟨c0, c1, c2, f0, f1, f2, hz, HB⟩ := kept3 hb3
    have e0 : w2.cell? ⟨w.heap.size + 1, 0, none⟩ = some (.int .i64 (M.lowN n d)) := by rw [hb2.cell (by simp), World.cell?_alloc_at _ _ _ _ (by simp)]; rfl
    have e1 : w2.cell? ⟨w.heap.size + 1, 1, none⟩ = some (.int .i64 (M.lowD n d)) := by rw [hb2.cell (by simp), World.cell?_alloc_at _ _ _ _ (by simp)]; rfl
    clear hb2 hb3
    go_wp2_with fail
    exact bodyPost_ret (v := .agg #[.int .i64 (M.lowN n d), .int .i64 (M.lowD n d), .int .i64 0]) (by simp [results, Tryz.results57, go_sem, c0, c1, c2]) rfl ⟨rfl, below_set3 HB.out (Nat.le_refl _) _ _ _⟩

set_option maxHeartbeats 1000000 in
theorem specLow_neg (n d : Int) (w : World) (h1 : -9223372036854775807 ≤ n) (h2 : n ≤ 9223372036854775807) (h3 : -9223372036854775807 ≤ d) (h4 : d < 0) :
    Calls Tryz.prog 57 #[.int .i64 n, .int .i64 d] w fun e w' => e = .returned (.agg #[.int .i64 (M.oN n d), .int .i64 (M.oD n d), .int .i64 (M.codeF n d)]) ∧ Below w.heap.size w w' := by
  have hr := M.right_low n d (by omega) (by omega) (by omega)
  have hcc : M.codeF n d = 0 ∨ M.codeF n d = 5 := by
    unfold M.codeF; rw [if_neg (by omega), if_neg (by omega)]; split <;> simp
  unfold M.oN M.oD
  have en : M.lowN n d = (-n).tdiv (Int.gcd n d) := by unfold M.lowN; rw [if_pos h4]
  have ed : M.lowD n d = (-d) / (Int.gcd n d : Int) := by unfold M.lowD; rw [if_pos h4, Int.tdiv_eq_ediv_of_nonneg (by omega)]
  have hq : (M.lowN n d).natAbs ≤ n.natAbs := by rw [en]; have := M.tdiv_bd (-n) (Int.gcd n d); rwa [Int.natAbs_neg] at this
  have hqd := M.tdiv_bd (-d) (Int.gcd n d)
  have Hn : Hid (M.lowN n d = wrap64 (-(n.tdiv (Int.gcd n d)))) := by
    show M.lowN n d = _
    rw [← Int.neg_tdiv, ← en]; unfold wrap64; omega
  have Hd : Hid (M.lowD n d = wrap64 (-(d.tdiv (Int.gcd n d)))) := by
    show M.lowD n d = _
    rw [← Int.neg_tdiv, ed, ← Int.tdiv_eq_ediv_of_nonneg (by omega)]; unfold wrap64; omega
  clear en ed hqd hq
  have hg := M.gcd_pos n d (by omega)
  have hg2 := M.gcd_le n (-d) (by omega)
  rw [Int.gcd_neg] at hg2
  have hg0 : (((Int.gcd n d : Nat) : Int) == 0) = false := by simp; omega
  cases hb : M.rightB (M.lowN n d) (M.lowD n d)
  · have hc : M.codeF n d = 5 := by
      rcases hcc with k | k
      · rw [hr.2 k] at hb; cases hb
      · exact k
    rw [hc]
    simp only [show ¬ ((5 : Int) = 0) by omega, if_false]
    clear hr hcc hc
    go_enter Tryz.func57, Tryz.ntmps57
    go_wp2_with fail
    refine (specAbs _ _ (by omega) (by omega)).mono ?_
    rintro e w' ⟨rfl, rfl⟩
    go_wp2_with fail
    refine (specGcd _ _ _ (by omega) (by omega) (by omega) (by omega)).mono ?_
    rintro e w' ⟨rfl, m, rfl⟩
    rw [M.gcd_natAbs, Int.gcd_neg]
    go_wp2_with fail
    go_region
    rw [← Hn.out, ← Hd.out]
    go_wp2_with fail
    refine (specRight_any _ _ _).mono ?_
    rintro e w2 ⟨rfl, hb2⟩
    rw [hb]
    have hb3 : Below (w.heap.size + 1) (w.alloc (.cells #[.int .i64 0, .int .i64 0, .int .i64 0] 65)) w2 := ((below_drewN (Below.refl _ _) (m + 1)).alloc (by simp) _).trans (hb2.mono (by simp))
    obtain ⟨c0, c1, c2, f0, f1, f2, hz, HB⟩ := kept3 hb3
    have e0 : w2.cell? ⟨w.heap.size + 1, 0, none⟩ = some (.int .i64 (M.lowN n d)) := by rw [hb2.cell (by simp), World.cell?_alloc_at _ _ _ _ (by simp)]; rfl
    have e1 : w2.cell? ⟨w.heap.size + 1, 1, none⟩ = some (.int .i64 (M.lowD n d)) := by rw [hb2.cell (by simp), World.cell?_alloc_at _ _ _ _ (by simp)]; rfl
    clear hb2 hb3
    go_wp2_with fail
    exact bodyPost_ret (v := .agg #[.int .i64 0, .int .i64 0, .int .i64 5]) (by simp [results, Tryz.results57, go_sem, c0, c1, c2]) rfl ⟨rfl, below_set3 HB.out (Nat.le_refl _) _ _ _⟩
  · have hc : M.codeF n d = 0 := hr.1 hb
    rw [hc]
    simp only [if_true]
    clear hr hcc hc
    go_enter Tryz.func57, Tryz.ntmps57
    go_wp2_with fail
    refine (specAbs _ _ (by omega) (by omega)).mono ?_
    rintro e w' ⟨rfl, rfl⟩
    go_wp2_with fail
    refine (specGcd _ _ _ (by omega) (by omega) (by omega) (by omega)).mono ?_
    rintro e w' ⟨rfl, m, rfl⟩
    rw [M.gcd_natAbs, Int.gcd_neg]
    go_wp2_with fail
    go_region
    rw [← Hn.out, ← Hd.out]
    go_wp2_with fail
    refine (specRight_any _ _ _).mono ?_
    rintro e w2 ⟨rfl, hb2⟩
    rw [hb]
    have hb3 : Below (w.heap.size + 1) (w.alloc (.cells #[.int .i64 0, .int .i64 0, .int .i64 0] 65)) w2 := ((below_drewN (Below.refl _ _) (m + 1)).alloc (by simp) _).trans (hb2.mono (by simp))
    obtain ⟨c0, c1, c2, f0, f1, f2, hz, HB⟩ := kept3 hb3
    have e0 : w2.cell? ⟨w.heap.size + 1, 0, none⟩ = some (.int .i64 (M.lowN n d)) := by rw [hb2.cell (by simp), World.cell?_alloc_at _ _ _ _ (by simp)]; rfl
    have e1 : w2.cell? ⟨w.heap.size + 1, 1, none⟩ = some (.int .i64 (M.lowD n d)) := by rw [hb2.cell (by simp), World.cell?_alloc_at _ _ _ _ (by simp)]; rfl
    clear hb2 hb3
    go_wp2_with fail
    exact bodyPost_ret (v := .agg #[.int .i64 (M.lowN n d), .int .i64 (M.lowD n d), .int .i64 0]) (by simp [results, Tryz.results57, go_sem, c0, c1, c2]) rfl ⟨rfl, below_set3 HB.out (Nat.le_refl _) _ _ _⟩

theorem specLow_any (n d : Int) (w : World) (h1 : -9223372036854775807 ≤ n) (h2 : n ≤ 9223372036854775807) (h3 : -9223372036854775807 ≤ d) (h4 : d ≤ 9223372036854775807) (h0 : d ≠ 0) :
    Calls Tryz.prog 57 #[.int .i64 n, .int .i64 d] w fun e w' => e = .returned (.agg #[.int .i64 (M.oN n d), .int .i64 (M.oD n d), .int .i64 (M.codeF n d)]) ∧ Below w.heap.size w w' := by
  by_cases k : d < 0
  · exact specLow_neg n d w h1 h2 h3 k
  · exact specLow_pos n d w h1 h2 (by omega) h4

end Go.Proofs.YtkaokfmaecdkiaaGreatDoor
