/-
  The contracts of both packages' FracSub.
-/
import Derived.Test.YtkaokfmaecdkiaaGreatDoorOpCommon
import Derived.Test.YtkaokfmaecdkiaaGreatDoorOpAdd
namespace Go.Proofs.YtkaokfmaecdkiaaGreatDoor
open Go.RowKit

set_option maxHeartbeats 1000000 in
theorem partsSub (n1 d1 n2 d2 : Int) (w : World) (hr1 : M.rightB n1 d1 = true) (hr2 : M.rightB n2 d2 = true) :
    Calls Tryz.prog 96 #[.agg #[.int .i64 n1, .int .i64 d1], .agg #[.int .i64 n2, .int .i64 d2]] w fun e w' => e = .returned (.tuple #[.int .i64 (n1 * d2 - n2 * d1), .int .i64 (d1 * d2)]) ∧ Below w.heap.size w w' := by
  have r1 := (M.rightB_iff n1 d1).1 hr1
  have r2 := (M.rightB_iff n2 d2).1 hr2
  obtain ⟨p1a, p1b⟩ := M.prod_bd r1.2.2.1 r1.2.2.2.1 r2.1 r2.2.1
  obtain ⟨p2a, p2b⟩ := M.prod_bd r2.2.2.1 r2.2.2.2.1 r1.1 r1.2.1
  obtain ⟨p3a, p3b⟩ := M.prod_bd (a := d1) (b := d2) (by omega) r1.2.1 r2.1 r2.2.1
  have Hq : Hid (d1 * d2 ≠ 0) := M.pos_prod r1.1 r2.1
  have pl : -9223372036854775808 ≤ n1 * d2 - n2 * d1 := by omega
  have ph : n1 * d2 - n2 * d1 ≤ 9223372036854775807 := by omega
  have ql : -9223372036854775808 ≤ d1 * d2 := by omega
  have qh : d1 * d2 ≤ 9223372036854775807 := by omega
  clear r1 r2 hr1 hr2
  go_enter Tryz.func96, Tryz.ntmps96
  go_wp2_with fail
  go_quiet (fail)
  go_wp2_with fail
  go_ret2
  exact ⟨rfl, below_drewN (((Below.refl _ _).alloc (Nat.le_refl _) _).alloc (by simp) _) _⟩

set_option maxHeartbeats 1000000 in
theorem reckonSub_left (n1 d1 n2 d2 : Int) (fv : Value) (w : World) (h1 : -9223372036854775808 ≤ n1) (h2 : n1 ≤ 9223372036854775807) (h3 : -9223372036854775808 ≤ d1) (h4 : d1 ≤ 9223372036854775807) (hr1 : M.rightB n1 d1 = false) :
    Calls Tryz.prog 95 #[.string ⟨#[97, 32, 100, 105, 102, 102, 101, 114, 101, 110, 99, 101]⟩, .agg #[.int .i64 n1, .int .i64 d1], .agg #[.int .i64 n2, .int .i64 d2], fv] w fun e w' => e = .returned (.tuple #[.agg #[.int .i64 0, .int .i64 0], errV ((⟨#[97, 32, 100, 105, 102, 102, 101, 114, 101, 110, 99, 101]⟩ : ByteArray) ++ ⟨#[44, 32, 111, 110, 32, 116, 104, 101, 32, 108, 101, 102, 116]⟩) 1]) ∧ Below w.heap.size w w' := by
  go_enter Tryz.func95, Tryz.ntmps95
  go_wp2_with fail
  refine (implRight_any _ _ _ h1 h2 h3 h4).mono ?_
  rintro e w1 ⟨rfl, hb⟩
  rw [hr1]
  obtain ⟨⟨c1, c2, c3, c4, hz, hB⟩, s0, s1, f0, f1, hz2⟩ := three2_later (hb.mono (by simp))
  clear hb
  go_wp2_with fail
  exact bodyPost_ret (v := .tuple #[.agg #[.int .i64 0, .int .i64 0], errV ((⟨#[97, 32, 100, 105, 102, 102, 101, 114, 101, 110, 99, 101]⟩ : ByteArray) ++ ⟨#[44, 32, 111, 110, 32, 116, 104, 101, 32, 108, 101, 102, 116]⟩) 1]) (by simp [results, Tryz.results95, go_sem, s0, s1]) rfl ⟨rfl, below_set2 hB.out (by omega) _ _⟩

set_option maxHeartbeats 1000000 in
theorem reckonSub_right (n1 d1 n2 d2 : Int) (fv : Value) (w : World) (h1 : -9223372036854775808 ≤ n1) (h2 : n1 ≤ 9223372036854775807) (h3 : -9223372036854775808 ≤ d1) (h4 : d1 ≤ 9223372036854775807) (h5 : -9223372036854775808 ≤ n2) (h6 : n2 ≤ 9223372036854775807) (h7 : -9223372036854775808 ≤ d2) (h8 : d2 ≤ 9223372036854775807) (hr1 : M.rightB n1 d1 = true) (hr2 : M.rightB n2 d2 = false) :
    Calls Tryz.prog 95 #[.string ⟨#[97, 32, 100, 105, 102, 102, 101, 114, 101, 110, 99, 101]⟩, .agg #[.int .i64 n1, .int .i64 d1], .agg #[.int .i64 n2, .int .i64 d2], fv] w fun e w' => e = .returned (.tuple #[.agg #[.int .i64 0, .int .i64 0], errV ((⟨#[97, 32, 100, 105, 102, 102, 101, 114, 101, 110, 99, 101]⟩ : ByteArray) ++ ⟨#[44, 32, 111, 110, 32, 116, 104, 101, 32, 114, 105, 103, 104, 116]⟩) 1]) ∧ Below w.heap.size w w' := by
  go_enter Tryz.func95, Tryz.ntmps95
  go_wp2_with fail
  refine (implRight_any _ _ _ h1 h2 h3 h4).mono ?_
  rintro e w1 ⟨rfl, hb⟩
  rw [hr1]
  have t1 := three2_later (hb.mono (by simp))
  obtain ⟨⟨c1, c2, c3, c4, hz, hB⟩, s0, s1, f0, f1, hz2⟩ := t1
  go_wp2_with fail
  refine (implRight_any _ _ _ h5 h6 h7 h8).mono ?_
  rintro e w2 ⟨rfl, hb2⟩
  rw [hr2]
  have t2 := three2_later ((hb.mono (by simp)).trans (hb2.mono (by omega)))
  clear hb hb2 c1 c2 c3 c4 hz hB s0 s1 f0 f1 hz2
  obtain ⟨⟨c1, c2, c3, c4, hz, hB⟩, s0, s1, f0, f1, hz2⟩ := t2
  go_wp2_with fail
  exact bodyPost_ret (v := .tuple #[.agg #[.int .i64 0, .int .i64 0], errV ((⟨#[97, 32, 100, 105, 102, 102, 101, 114, 101, 110, 99, 101]⟩ : ByteArray) ++ ⟨#[44, 32, 111, 110, 32, 116, 104, 101, 32, 114, 105, 103, 104, 116]⟩) 1]) (by simp [results, Tryz.results95, go_sem, s0, s1]) rfl ⟨rfl, below_set2 hB.out (by omega) _ _⟩

set_option maxHeartbeats 2000000 in
theorem reckonSub_ok (n1 d1 n2 d2 : Int) (w : World) (h1 : -9223372036854775808 ≤ n1) (h2 : n1 ≤ 9223372036854775807) (h3 : -9223372036854775808 ≤ d1) (h4 : d1 ≤ 9223372036854775807) (h5 : -9223372036854775808 ≤ n2) (h6 : n2 ≤ 9223372036854775807) (h7 : -9223372036854775808 ≤ d2) (h8 : d2 ≤ 9223372036854775807) (hr1 : M.rightB n1 d1 = true) (hr2 : M.rightB n2 d2 = true) (hc : M.codeF (n1 * d2 - n2 * d1) (d1 * d2) = 0) :
    Calls Tryz.prog 95 #[.string ⟨#[97, 32, 100, 105, 102, 102, 101, 114, 101, 110, 99, 101]⟩, .agg #[.int .i64 n1, .int .i64 d1], .agg #[.int .i64 n2, .int .i64 d2], .func (.func 96) #[] #[]] w fun e w' => e = .returned (.tuple #[.agg #[.int .i64 (M.lowN (n1 * d2 - n2 * d1) (d1 * d2)), .int .i64 (M.lowD (n1 * d2 - n2 * d1) (d1 * d2))], .nilIface]) ∧ Below w.heap.size w w' := by
  have r1 := (M.rightB_iff n1 d1).1 hr1
  have r2 := (M.rightB_iff n2 d2).1 hr2
  obtain ⟨p1a, p1b⟩ := M.prod_bd r1.2.2.1 r1.2.2.2.1 r2.1 r2.2.1
  obtain ⟨p2a, p2b⟩ := M.prod_bd r2.2.2.1 r2.2.2.2.1 r1.1 r1.2.1
  obtain ⟨p3a, p3b⟩ := M.prod_bd (a := d1) (b := d2) (by omega) r1.2.1 r2.1 r2.2.1
  have Hq : Hid (d1 * d2 ≠ 0) := M.pos_prod r1.1 r2.1
  have pl : -9223372036854775808 ≤ n1 * d2 - n2 * d1 := by omega
  have ph : n1 * d2 - n2 * d1 ≤ 9223372036854775807 := by omega
  have ql : -9223372036854775808 ≤ d1 * d2 := by omega
  have qh : d1 * d2 ≤ 9223372036854775807 := by omega
  have Hr1 : Hid (M.rightB n1 d1 = true) := hr1
  have Hr2 : Hid (M.rightB n2 d2 = true) := hr2
  have Hc : Hid (M.codeF (n1 * d2 - n2 * d1) (d1 * d2) = 0) := hc
  clear r1 r2 hc
  go_enter Tryz.func95, Tryz.ntmps95
  go_wp2_with fail
  refine (implRight_any _ _ _ h1 h2 h3 h4).mono ?_
  rintro e w1 ⟨rfl, hb⟩
  rw [hr1]
  have t1 := three2_later (hb.mono (by simp))
  obtain ⟨⟨c1, c2, c3, c4, hz, hB⟩, s0, s1, f0, f1, hz2⟩ := t1
  go_wp2_with fail
  refine (implRight_any _ _ _ h5 h6 h7 h8).mono ?_
  rintro e w2 ⟨rfl, hb2⟩
  rw [hr2]
  have hb2' := (hb.mono (B' := w.heap.size + 3) (by simp)).trans (hb2.mono (by omega))
  have t2 := three2_later hb2'
  clear hb hb2 c1 c2 c3 c4 hz hB s0 s1 f0 f1 hz2
  obtain ⟨⟨c1, c2, c3, c4, hz, hB⟩, s0, s1, f0, f1, hz2⟩ := t2
  clear hr1 hr2
  go_wp2_with fail
  refine (partsSub _ _ _ _ _ Hr1.out Hr2.out).mono ?_
  rintro e w3 ⟨rfl, hb3⟩
  have hb3' := hb2'.trans (hb3.mono (by omega))
  clear hb2' hb3 c1 c2 c3 c4 hz hB s0 s1 f0 f1 hz2
  have z3 : w.heap.size + 3 ≤ w3.heap.size := by have := hb3'.size; simp at this; omega
  go_wp2_with fail
  refine (lowest_ok _ _ _ pl ph ql qh Hc.out).mono ?_
  rintro e w4 ⟨rfl, hb4⟩
  have t4 := three2_later (hb3'.trans (hb4.mono z3))
  clear hb3' hb4
  obtain ⟨⟨c1, c2, c3, c4, hz, hB⟩, s0, s1, f0, f1, hz2⟩ := t4
  have rd0 := fun x y o => (read_set2 s0 s1 x y o).1
  have rd1 := fun x y o => (read_set2 s0 s1 x y o).2
  go_wp2_with fail
  exact bodyPost_ret (v := .tuple #[.agg #[.int .i64 (M.lowN (n1 * d2 - n2 * d1) (d1 * d2)), .int .i64 (M.lowD (n1 * d2 - n2 * d1) (d1 * d2))], .nilIface]) (by simp [results, Tryz.results95, go_sem, rd0, rd1]) rfl ⟨rfl, (below_set2 hB.out (by omega) _ _).alloc (by simp; omega) _⟩

set_option maxHeartbeats 2000000 in
theorem reckonSub_bad (n1 d1 n2 d2 : Int) (w : World) (h1 : -9223372036854775808 ≤ n1) (h2 : n1 ≤ 9223372036854775807) (h3 : -9223372036854775808 ≤ d1) (h4 : d1 ≤ 9223372036854775807) (h5 : -9223372036854775808 ≤ n2) (h6 : n2 ≤ 9223372036854775807) (h7 : -9223372036854775808 ≤ d2) (h8 : d2 ≤ 9223372036854775807) (hr1 : M.rightB n1 d1 = true) (hr2 : M.rightB n2 d2 = true) (hc : M.codeF (n1 * d2 - n2 * d1) (d1 * d2) ≠ 0) :
    Calls Tryz.prog 95 #[.string ⟨#[97, 32, 100, 105, 102, 102, 101, 114, 101, 110, 99, 101]⟩, .agg #[.int .i64 n1, .int .i64 d1], .agg #[.int .i64 n2, .int .i64 d2], .func (.func 96) #[] #[]] w fun e w' => (∃ s, e = .returned (.tuple #[.agg #[.int .i64 0, .int .i64 0], .iface 105 (.agg #[.string ⟨#[97, 32, 100, 105, 102, 102, 101, 114, 101, 110, 99, 101]⟩, errV s (M.codeF (n1 * d2 - n2 * d1) (d1 * d2))])])) ∧ Below w.heap.size w w' := by
  have r1 := (M.rightB_iff n1 d1).1 hr1
  have r2 := (M.rightB_iff n2 d2).1 hr2
  obtain ⟨p1a, p1b⟩ := M.prod_bd r1.2.2.1 r1.2.2.2.1 r2.1 r2.2.1
  obtain ⟨p2a, p2b⟩ := M.prod_bd r2.2.2.1 r2.2.2.2.1 r1.1 r1.2.1
  obtain ⟨p3a, p3b⟩ := M.prod_bd (a := d1) (b := d2) (by omega) r1.2.1 r2.1 r2.2.1
  have Hq : Hid (d1 * d2 ≠ 0) := M.pos_prod r1.1 r2.1
  have pl : -9223372036854775808 ≤ n1 * d2 - n2 * d1 := by omega
  have ph : n1 * d2 - n2 * d1 ≤ 9223372036854775807 := by omega
  have ql : -9223372036854775808 ≤ d1 * d2 := by omega
  have qh : d1 * d2 ≤ 9223372036854775807 := by omega
  have Hr1 : Hid (M.rightB n1 d1 = true) := hr1
  have Hr2 : Hid (M.rightB n2 d2 = true) := hr2
  have Hc : Hid (M.codeF (n1 * d2 - n2 * d1) (d1 * d2) ≠ 0) := hc
  clear r1 r2 hc
  go_enter Tryz.func95, Tryz.ntmps95
  go_wp2_with fail
  refine (implRight_any _ _ _ h1 h2 h3 h4).mono ?_
  rintro e w1 ⟨rfl, hb⟩
  rw [hr1]
  have t1 := three2_later (hb.mono (by simp))
  obtain ⟨⟨c1, c2, c3, c4, hz, hB⟩, s0, s1, f0, f1, hz2⟩ := t1
  go_wp2_with fail
  refine (implRight_any _ _ _ h5 h6 h7 h8).mono ?_
  rintro e w2 ⟨rfl, hb2⟩
  rw [hr2]
  have hb2' := (hb.mono (B' := w.heap.size + 3) (by simp)).trans (hb2.mono (by omega))
  have t2 := three2_later hb2'
  clear hb hb2 c1 c2 c3 c4 hz hB s0 s1 f0 f1 hz2
  obtain ⟨⟨c1, c2, c3, c4, hz, hB⟩, s0, s1, f0, f1, hz2⟩ := t2
  clear hr1 hr2
  go_wp2_with fail
  refine (partsSub _ _ _ _ _ Hr1.out Hr2.out).mono ?_
  rintro e w3 ⟨rfl, hb3⟩
  have hb3' := hb2'.trans (hb3.mono (by omega))
  clear hb2' hb3 c1 c2 c3 c4 hz hB s0 s1 f0 f1 hz2
  have z3 : w.heap.size + 3 ≤ w3.heap.size := by have := hb3'.size; simp at this; omega
  go_wp2_with fail
  refine (lowest_bad _ _ _ pl ph ql qh Hc.out).mono ?_
  rintro e w4 ⟨⟨s, rfl⟩, hb4⟩
  have t4 := three2_later (hb3'.trans (hb4.mono z3))
  clear hb3' hb4
  obtain ⟨⟨c1, c2, c3, c4, hz, hB⟩, s0, s1, f0, f1, hz2⟩ := t4
  have rd0 := fun x y o => (read_set2 s0 s1 x y o).1
  have rd1 := fun x y o => (read_set2 s0 s1 x y o).2
  go_wp2_with fail
  exact bodyPost_ret (v := .tuple #[.agg #[.int .i64 0, .int .i64 0], .iface 105 (.agg #[.string ⟨#[97, 32, 100, 105, 102, 102, 101, 114, 101, 110, 99, 101]⟩, errV s (M.codeF (n1 * d2 - n2 * d1) (d1 * d2))])]) (by simp [results, Tryz.results95, go_sem, rd0, rd1]) rfl ⟨⟨s, rfl⟩, (below_set2 hB.out (by omega) _ _).alloc (by simp; omega) _⟩

set_option maxHeartbeats 2000000 in
theorem implSub_any (n1 d1 n2 d2 : Int) (w : World) (h1 : -9223372036854775808 ≤ n1) (h2 : n1 ≤ 9223372036854775807) (h3 : -9223372036854775808 ≤ d1) (h4 : d1 ≤ 9223372036854775807) (h5 : -9223372036854775808 ≤ n2) (h6 : n2 ≤ 9223372036854775807) (h7 : -9223372036854775808 ≤ d2) (h8 : d2 ≤ 9223372036854775807) (hg : w.cell? ⟨0, 0, none⟩ = some (.iface 153 (.agg #[.pointer (some ⟨1, 99, none⟩)]))) :
    Calls Tryz.prog 71 #[.agg #[.int .i64 n1, .int .i64 d1], .agg #[.int .i64 n2, .int .i64 d2]] w fun e w' => e = .returned (opV (M.rightB n1 d1 && M.rightB n2 d2) (n1 * d2 - n2 * d1) (d1 * d2)) ∧ Below w.heap.size w w' := by
  have hgl : 0 < w.heap.size := World.block_lt_of_cell? _ _ hg
  have Hg : Hid (w.cell? ⟨0, 0, none⟩ = some (.iface 153 (.agg #[.pointer (some ⟨1, 99, none⟩)]))) := hg
  clear hg
  cases hr1 : M.rightB n1 d1
  · rw [Bool.false_and, opV_no]
    have Hr1 : Hid (M.rightB n1 d1 = false) := hr1
    clear hr1
    go_enter Tryz.func71, Tryz.ntmps71
    go_wp2_with fail
    refine (reckonSub_left n1 d1 n2 d2 _ _ h1 h2 h3 h4 Hr1.out).mono ?_
    rintro e w1 ⟨rfl, hb⟩
    go_wp2_with fail
    refine (tell_bad _ _ _ _ (finds_one _ 1) _ ?_).mono ?_
    · rw [hb.cell (by simp <;> omega), World.cell?_alloc_lt _ _ ⟨0, 0, none⟩ (by simp <;> omega), World.cell?_alloc_lt _ _ ⟨0, 0, none⟩ (by simp <;> omega), World.cell?_alloc_lt _ _ ⟨0, 0, none⟩ hgl]; exact Hg.out
    rintro e w2 ⟨rfl, hb2⟩
    have t2 := three_later ((hb.mono (by simp)).trans (hb2.mono (by have := hb.size; simp at this; omega)))
    clear hb hb2
    obtain ⟨⟨c1, c2, c3, c4, hz, hB⟩, s0, s1, s2, f0, f1, f2, hz2⟩ := t2
    go_wp2_with fail
    exact bodyPost_ret (v := .agg #[.int .i64 0, .int .i64 0, .int .i64 1]) (by simp [results, Tryz.results71, go_sem, s0, s1, s2]) rfl ⟨rfl, below_set3 hB.out (by omega) _ _ _⟩
  cases hr2 : M.rightB n2 d2
  · rw [Bool.and_false, opV_no]
    have Hr1 : Hid (M.rightB n1 d1 = true) := hr1
    have Hr2 : Hid (M.rightB n2 d2 = false) := hr2
    clear hr1 hr2
    go_enter Tryz.func71, Tryz.ntmps71
    go_wp2_with fail
    refine (reckonSub_right n1 d1 n2 d2 _ _ h1 h2 h3 h4 h5 h6 h7 h8 Hr1.out Hr2.out).mono ?_
    rintro e w1 ⟨rfl, hb⟩
    go_wp2_with fail
    refine (tell_bad _ _ _ _ (finds_one _ 1) _ ?_).mono ?_
    · rw [hb.cell (by simp <;> omega), World.cell?_alloc_lt _ _ ⟨0, 0, none⟩ (by simp <;> omega), World.cell?_alloc_lt _ _ ⟨0, 0, none⟩ (by simp <;> omega), World.cell?_alloc_lt _ _ ⟨0, 0, none⟩ hgl]; exact Hg.out
    rintro e w2 ⟨rfl, hb2⟩
    have t2 := three_later ((hb.mono (by simp)).trans (hb2.mono (by have := hb.size; simp at this; omega)))
    clear hb hb2
    obtain ⟨⟨c1, c2, c3, c4, hz, hB⟩, s0, s1, s2, f0, f1, f2, hz2⟩ := t2
    go_wp2_with fail
    exact bodyPost_ret (v := .agg #[.int .i64 0, .int .i64 0, .int .i64 1]) (by simp [results, Tryz.results71, go_sem, s0, s1, s2]) rfl ⟨rfl, below_set3 hB.out (by omega) _ _ _⟩
  rw [Bool.and_true, opV_yes]
  unfold M.oN M.oD
  have Hr1 : Hid (M.rightB n1 d1 = true) := hr1
  have Hr2 : Hid (M.rightB n2 d2 = true) := hr2
  clear hr1 hr2
  by_cases hc : M.codeF (n1 * d2 - n2 * d1) (d1 * d2) = 0
  · simp only [if_pos hc]
    rw [hc]
    have Hc : Hid (M.codeF (n1 * d2 - n2 * d1) (d1 * d2) = 0) := hc
    clear hc
    go_enter Tryz.func71, Tryz.ntmps71
    go_wp2_with fail
    refine (reckonSub_ok n1 d1 n2 d2 _ h1 h2 h3 h4 h5 h6 h7 h8 Hr1.out Hr2.out Hc.out).mono ?_
    rintro e w1 ⟨rfl, hb⟩
    go_wp2_with fail
    refine (tell_ok _ _ _).mono ?_
    rintro e w2 ⟨rfl, hb2⟩
    have t2 := three_later ((hb.mono (by simp)).trans (hb2.mono (by have := hb.size; simp at this; omega)))
    clear hb hb2
    obtain ⟨⟨c1, c2, c3, c4, hz, hB⟩, s0, s1, s2, f0, f1, f2, hz2⟩ := t2
    go_wp2_with fail
    exact bodyPost_ret (v := .agg #[.int .i64 (M.lowN (n1 * d2 - n2 * d1) (d1 * d2)), .int .i64 (M.lowD (n1 * d2 - n2 * d1) (d1 * d2)), .int .i64 0]) (by simp [results, Tryz.results71, go_sem, s0, s1, s2]) rfl ⟨rfl, below_set3 hB.out (by omega) _ _ _⟩
  · simp only [if_neg hc]
    have Hc : Hid (M.codeF (n1 * d2 - n2 * d1) (d1 * d2) ≠ 0) := hc
    clear hc
    go_enter Tryz.func71, Tryz.ntmps71
    go_wp2_with fail
    refine (reckonSub_bad n1 d1 n2 d2 _ h1 h2 h3 h4 h5 h6 h7 h8 Hr1.out Hr2.out Hc.out).mono ?_
    rintro e w1 ⟨⟨s, rfl⟩, hb⟩
    go_wp2_with fail
    refine (tell_bad _ _ _ _ (finds_two _ s _) _ ?_).mono ?_
    · rw [hb.cell (by simp <;> omega), World.cell?_alloc_lt _ _ ⟨0, 0, none⟩ (by simp <;> omega), World.cell?_alloc_lt _ _ ⟨0, 0, none⟩ (by simp <;> omega), World.cell?_alloc_lt _ _ ⟨0, 0, none⟩ hgl]; exact Hg.out
    rintro e w2 ⟨rfl, hb2⟩
    have t2 := three_later ((hb.mono (by simp)).trans (hb2.mono (by have := hb.size; simp at this; omega)))
    clear hb hb2
    obtain ⟨⟨c1, c2, c3, c4, hz, hB⟩, s0, s1, s2, f0, f1, f2, hz2⟩ := t2
    go_wp2_with fail
    exact bodyPost_ret (v := .agg #[.int .i64 0, .int .i64 0, .int .i64 (M.codeF (n1 * d2 - n2 * d1) (d1 * d2))]) (by simp [results, Tryz.results71, go_sem, s0, s1, s2]) rfl ⟨rfl, below_set3 hB.out (by omega) _ _ _⟩


set_option maxHeartbeats 2000000 in
theorem specSub_any (n1 d1 n2 d2 : Int) (w : World) :
    Calls Tryz.prog 28 #[.agg #[.int .i64 n1, .int .i64 d1], .agg #[.int .i64 n2, .int .i64 d2]] w fun e w' => e = .returned (opV (M.rightB n1 d1 && M.rightB n2 d2) (n1 * d2 - n2 * d1) (d1 * d2)) ∧ Below w.heap.size w w' := by
  cases hr1 : M.rightB n1 d1
  · rw [Bool.false_and, opV_no]
    go_enter Tryz.func28, Tryz.ntmps28
    go_wp2_with fail
    refine (specRight_any _ _ _).mono ?_
    rintro e w1 ⟨rfl, hb1⟩
    rw [hr1]
    obtain ⟨⟨c1, c2, c3, c4, hz, hB⟩, s0, s1, s2, f0, f1, f2, hz2⟩ := three_later (hb1.mono (by simp))
    clear hb1
    go_wp2_with fail
    exact bodyPost_ret (v := .agg #[.int .i64 0, .int .i64 0, .int .i64 1]) (by simp [results, Tryz.results28, go_sem, s0, s1, s2]) rfl ⟨rfl, below_set3 hB.out (by omega) _ _ _⟩
  cases hr2 : M.rightB n2 d2
  · rw [Bool.and_false, opV_no]
    go_enter Tryz.func28, Tryz.ntmps28
    go_wp2_with fail
    refine (specRight_any _ _ _).mono ?_
    rintro e w1 ⟨rfl, hb1⟩
    rw [hr1]
    obtain ⟨⟨c1, c2, c3, c4, hz, hB⟩, s0, s1, s2, f0, f1, f2, hz2⟩ := three_later (hb1.mono (by simp))
    go_wp2_with fail
    refine (specRight_any _ _ _).mono ?_
    rintro e w2 ⟨rfl, hb2⟩
    rw [hr2]
    have t2 := three_later ((hb1.mono (by simp)).trans (hb2.mono (by omega)))
    clear hb1 hb2 c1 c2 c3 c4 hz hB s0 s1 s2 f0 f1 f2 hz2
    obtain ⟨⟨c1, c2, c3, c4, hz, hB⟩, s0, s1, s2, f0, f1, f2, hz2⟩ := t2
    go_wp2_with fail
    exact bodyPost_ret (v := .agg #[.int .i64 0, .int .i64 0, .int .i64 1]) (by simp [results, Tryz.results28, go_sem, s0, s1, s2]) rfl ⟨rfl, below_set3 hB.out (by omega) _ _ _⟩
  rw [Bool.and_true, opV_yes]
  have r1 := (M.rightB_iff n1 d1).1 hr1
  have r2 := (M.rightB_iff n2 d2).1 hr2
  obtain ⟨p1a, p1b⟩ := M.prod_bd r1.2.2.1 r1.2.2.2.1 r2.1 r2.2.1
  obtain ⟨p2a, p2b⟩ := M.prod_bd r2.2.2.1 r2.2.2.2.1 r1.1 r1.2.1
  obtain ⟨p3a, p3b⟩ := M.prod_bd (a := d1) (b := d2) (by omega) r1.2.1 r2.1 r2.2.1
  have Hq : Hid (d1 * d2 ≠ 0) := M.pos_prod r1.1 r2.1
  have pl : -9223372036854775808 ≤ n1 * d2 - n2 * d1 := by omega
  have ph : n1 * d2 - n2 * d1 ≤ 9223372036854775807 := by omega
  have ql : -9223372036854775808 ≤ d1 * d2 := by omega
  have qh : d1 * d2 ≤ 9223372036854775807 := by omega
  have n2l : -2147483647 ≤ n2 := r2.2.2.1
  have n2h : n2 ≤ 2147483647 := r2.2.2.2.1
  clear r1 r2
  have ep : n1 * d2 + -n2 * d1 = n1 * d2 - n2 * d1 := by rw [Int.neg_mul]; omega
  have hr3 : M.rightB (-n2) d2 = true := by rw [M.right_neg]; exact hr2
  have HA := fun wx => specAdd_any n1 d1 (-n2) d2 wx
  rw [ep, hr1, hr3, Bool.and_true, opV_yes] at HA
  have HAH : Hid (∀ wx, Calls Tryz.prog 26 #[.agg #[.int .i64 n1, .int .i64 d1], .agg #[.int .i64 (-n2), .int .i64 d2]] wx fun e w' => e = .returned (.agg #[.int .i64 (M.oN (n1 * d2 - n2 * d1) (d1 * d2)), .int .i64 (M.oD (n1 * d2 - n2 * d1) (d1 * d2)), .int .i64 (M.codeF (n1 * d2 - n2 * d1) (d1 * d2))]) ∧ Below wx.heap.size wx w') := HA
  clear HA ep hr3
  go_enter Tryz.func28, Tryz.ntmps28
  go_wp2_with fail
  refine (specRight_any _ _ _).mono ?_
  rintro e w1 ⟨rfl, hb1⟩
  rw [hr1]
  obtain ⟨⟨c1, c2, c3, c4, hz, hB⟩, s0, s1, s2, f0, f1, f2, hz2⟩ := three_later (hb1.mono (by simp))
  go_wp2_with fail
  refine (specRight_any _ _ _).mono ?_
  rintro e w2 ⟨rfl, hb2⟩
  rw [hr2]
  have hb2' := (hb1.mono (B' := w.heap.size + 3) (by simp)).trans (hb2.mono (by omega))
  have t2 := three_later hb2'
  clear hb1 hb2 c1 c2 c3 c4 hz hB s0 s1 s2 f0 f1 f2 hz2
  obtain ⟨⟨c1, c2, c3, c4, hz, hB⟩, s0, s1, s2, f0, f1, f2, hz2⟩ := t2
  go_wp2_with fail
  refine (HAH.out _).mono ?_
  rintro e w3 ⟨rfl, hb3⟩
  have t3 := three_later (hb2'.trans (hb3.mono (by omega)))
  clear hb2' hb3 c1 c2 c3 c4 hz hB s0 s1 s2 f0 f1 f2 hz2
  obtain ⟨⟨c1, c2, c3, c4, hz, hB⟩, s0, s1, s2, f0, f1, f2, hz2⟩ := t3
  go_wp2_with fail
  exact bodyPost_ret (v := .agg #[.int .i64 (M.oN (n1 * d2 - n2 * d1) (d1 * d2)), .int .i64 (M.oD (n1 * d2 - n2 * d1) (d1 * d2)), .int .i64 (M.codeF (n1 * d2 - n2 * d1) (d1 * d2))]) (by simp [results, Tryz.results28, go_sem, s0, s1, s2]) rfl ⟨rfl, below_set3 hB.out (by omega) _ _ _⟩

end Go.Proofs.YtkaokfmaecdkiaaGreatDoor
