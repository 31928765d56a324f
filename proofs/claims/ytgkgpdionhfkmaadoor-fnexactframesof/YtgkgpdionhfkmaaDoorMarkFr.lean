/-
  The laws' comparisons and marks of lists of frames.
-/
import Derived.Test.YtgkgpdionhfkmaaDoorFrScan
import Derived.Test.YtgkgpdionhfkmaaDoorEqFr
import Derived.Test.YtgkgpdionhfkmaaDoorMarkText
import Derived.Test.YtgkgpdionhfkmaaDoorReg
import Derived.BigRegion
namespace Go.Proofs.YtgkgpdionhfkmaaDoor
open Go.RowKit Go.Deep

theorem outs_at (xs : List Fr.Out) (i j : Nat) (o : Fr.Out) (h : xs[i]? = some o) (hj : j < 4) : (xs.flatMap outCells)[i * 4 + j]? = (outCells o)[j]? := by
  induction xs generalizing i with
  | nil => simp at h
  | cons g xs ih =>
    rw [List.flatMap_cons]
    cases i with
    | zero =>
      simp at h; subst h
      rw [Nat.zero_mul, Nat.zero_add, List.getElem?_append_left (by simp [outCells]; exact hj)]
    | succ i =>
      rw [List.getElem?_append_right (by simp [outCells]; omega)]
      have e : (i + 1) * 4 + j - (outCells g).length = i * 4 + j := by simp [outCells]; omega
      rw [e]
      exact ih i (by simpa using h)
theorem add_at2 (g j : Nat) : (⟨g, 0, none⟩ : Addr).add j = ⟨g, j, none⟩ := by
  by_cases h : j = 0
  · subst h; simp [Addr.add]
  · simp [Addr.add, h]
theorem row_out {B : Nat} {v : Value} {xs : List Fr.Out} {W : World} (h : W.ownsRow B 27 4 v xs.length (xs.flatMap outCells)) (i : Nat) (o : Fr.Out) (hf : xs[i]? = some o) : ∃ g cap, v = .slice (some ⟨g, 0, none⟩) xs.length cap ∧ W.cell? ⟨g, i * 4, none⟩ = some (.int .i64 o.u) ∧ W.cell? ⟨g, i * 4 + 1, none⟩ = some (.int .i64 o.k) ∧ W.cell? ⟨g, i * 4 + 2, none⟩ = some (.int .i64 o.s) ∧ W.cell? ⟨g, i * 4 + 3, none⟩ = some (.string ⟨o.b.toArray⟩) := by
  have hh := h
  obtain ⟨h1, h2⟩ := h
  rcases h2 with h2 | ⟨g, cap, cur, e1, e2, e3, _⟩
  · have : xs.length = 0 := h2.2
    rw [List.length_eq_zero_iff] at this
    subst this
    simp at hf
  · have hb : v.ownBlock = some g := by rw [e1]; rfl
    have cc : ∀ j x, j < 4 → (outCells o)[j]? = some x → W.cell? ⟨g, i * 4 + j, none⟩ = some x := fun j x hj hx => by
      have := hh.cells hb (i * 4 + j) x (by rw [outs_at xs i j o hf hj]; exact hx)
      rw [add_at2] at this
      exact this
    exact ⟨g, cap, e1, cc 0 _ (by omega) rfl, cc 1 _ (by omega) rfl, cc 2 _ (by omega) rfl, cc 3 _ (by omega) rfl⟩
theorem own_form {B : Nat} {v : Value} {xs : List Fr.Out} {W : World} (h : W.ownsRow B 27 4 v xs.length (xs.flatMap outCells)) : ∃ a cap, v = .slice a xs.length cap := by
  rcases h.2 with h2 | ⟨g, cap, cur, e1, _⟩
  · exact ⟨none, 0, by rw [h2.1, h2.2]⟩
  · exact ⟨_, _, e1⟩

theorem keepEight {w W W' : World} {g g' a : Nat} {y0 y1 y2 y3 z0 z1 z2 z3 : Value} (hb : Below W.heap.size W W') (h : W.cell? ⟨g, a, none⟩ = some y0 ∧ W.cell? ⟨g, a + 1, none⟩ = some y1 ∧ W.cell? ⟨g, a + 2, none⟩ = some y2 ∧ W.cell? ⟨g, a + 3, none⟩ = some y3 ∧ W.cell? ⟨g', a, none⟩ = some z0 ∧ W.cell? ⟨g', a + 1, none⟩ = some z1 ∧ W.cell? ⟨g', a + 2, none⟩ = some z2 ∧ W.cell? ⟨g', a + 3, none⟩ = some z3 ∧ Hid (Below w.heap.size w W)) :
    W'.cell? ⟨g, a, none⟩ = some y0 ∧ W'.cell? ⟨g, a + 1, none⟩ = some y1 ∧ W'.cell? ⟨g, a + 2, none⟩ = some y2 ∧ W'.cell? ⟨g, a + 3, none⟩ = some y3 ∧ W'.cell? ⟨g', a, none⟩ = some z0 ∧ W'.cell? ⟨g', a + 1, none⟩ = some z1 ∧ W'.cell? ⟨g', a + 2, none⟩ = some z2 ∧ W'.cell? ⟨g', a + 3, none⟩ = some z3 ∧ Hid (Below w.heap.size w W') := by
  obtain ⟨h1, h2, h3, h4, h5, h6, h7, h8, hB⟩ := h
  have k : ∀ {p : Addr} {v : Value}, W.cell? p = some v → W'.cell? p = some v := fun h => (hb.cell (World.block_lt_of_cell? _ _ h)).trans h
  exact ⟨k h1, k h2, k h3, k h4, k h5, k h6, k h7, k h8, hB.out.trans (hb.mono hB.out.size)⟩

set_option linter.unusedSimpArgs false in
set_option maxRecDepth 100000 in
set_option maxHeartbeats 2000000 in
theorem eqFrameS_same {B1 B2 : Nat} {v1 v2 : Value} (xs : List Fr.Out) (w : World) (h1 : w.ownsRow B1 27 4 v1 xs.length (xs.flatMap outCells)) (h2 : w.ownsRow B2 27 4 v2 xs.length (xs.flatMap outCells)) (hx : xs.length ≤ 1048576) :
    Calls Tryd.prog 29 #[v1, v2] w fun e w' => e = .returned (.bool true) ∧ Below w.heap.size w w' := by
  obtain ⟨a1, n1, rfl⟩ := own_form h1
  obtain ⟨a2, n2, rfl⟩ := own_form h2
  have H1 := Lib.hid h1
  have H2 := Lib.hid h2
  clear h1 h2
  go_enter Tryd.func29, Tryd.ntmps29
  go_wp2_with fail
  go_loopw [5] (fun iv wr => ∃ (i : Nat), i ≤ xs.length ∧ iv = .int .i64 i ∧ Hid (Below w.heap.size w wr)) (fun iv _ => xs.length - (intOf iv).toNat)
  case atStart => exact ⟨0, Nat.zero_le _, rfl, Below.refl _ _⟩
  case round =>
    obtain ⟨i, hi, rfl, hB⟩ := hrel
    by_cases hlt : i < xs.length
    · have hltz : (i : Int) < (xs.length : Int) := by omega
      obtain ⟨o, hf⟩ : ∃ f, xs[i]? = some f := ⟨_, List.getElem?_eq_getElem hlt⟩
      obtain ⟨g, cp, e1, c0, c1, c2, c3⟩ := row_out (ownsRow_block H1.out (fun k _ hk => hB.out.block k hk)) i o hf
      obtain ⟨rfl, rfl⟩ : a1 = some ⟨g, 0, none⟩ ∧ n1 = cp := by
        injection e1 with x1 x2 x3; exact ⟨x1, x3⟩
      obtain ⟨g', cp', e2, d0, d1, d2, d3⟩ := row_out (ownsRow_block H2.out (fun k _ hk => hB.out.block k hk)) i o hf
      obtain ⟨rfl, rfl⟩ : a2 = some ⟨g', 0, none⟩ ∧ n2 = cp' := by
        injection e2 with x1 x2 x3; exact ⟨x1, x3⟩
      clear e1 e2 hf
      go_wp2_with fail
      refine wp_region_held_drew (S := (fun w' => w'.cell? ⟨g, i * 4, none⟩ = some (.int .i64 o.u) ∧ w'.cell? ⟨g, i * 4 + 1, none⟩ = some (.int .i64 o.k) ∧ w'.cell? ⟨g, i * 4 + 2, none⟩ = some (.int .i64 o.s) ∧ w'.cell? ⟨g, i * 4 + 3, none⟩ = some (.string ⟨o.b.toArray⟩) ∧ w'.cell? ⟨g', i * 4, none⟩ = some (.int .i64 o.u) ∧ w'.cell? ⟨g', i * 4 + 1, none⟩ = some (.int .i64 o.k) ∧ w'.cell? ⟨g', i * 4 + 2, none⟩ = some (.int .i64 o.s) ∧ w'.cell? ⟨g', i * 4 + 3, none⟩ = some (.string ⟨o.b.toArray⟩) ∧ Hid (Below w.heap.size w w'))) (by kernel_rfl) (keepEight (Below.refl _ _).drew ⟨c0, c1, c2, c3, d0, d1, d2, d3, hB⟩) (fun hHeld => ?_)
      clear d0 d1 d2 d3 c0 c1 c2 c3 hB
      refine take_do (i := 0) (v := (.slice (some ⟨g, 0, none⟩) xs.length n1)) rfl (by kernel_rfl) (by kernel_rfl) (by kernel_rfl) (fun _ _ _ h => h) (by rfl) ?_ (by assumption) ?_
      · intro w hSw
        go_simp
      simp only [Act.put, List.setIfInBounds_toArray, List.set_cons_zero, List.set_cons_succ]
      refine take_do (i := 1) (v := (.int .i64 i)) rfl (by kernel_rfl) (by kernel_rfl) (by kernel_rfl) (fun _ _ _ h => h) (by rfl) ?_ (by assumption) ?_
      · intro w hSw
        go_simp
      simp only [Act.put, List.setIfInBounds_toArray, List.set_cons_zero, List.set_cons_succ]
      refine take_do (i := 2) (v := (.pointer (some ⟨g, i * 4, none⟩))) rfl (by kernel_rfl) (by kernel_rfl) (by kernel_rfl) (fun _ _ _ h => h) (by rfl) ?_ (by assumption) ?_
      · intro w hSw
        go_simp
      simp only [Act.put, List.setIfInBounds_toArray, List.set_cons_zero, List.set_cons_succ]
      refine take_do (i := 3) (v := (.agg #[.int .i64 o.u, .int .i64 o.k, .int .i64 o.s, .string ⟨o.b.toArray⟩])) rfl (by kernel_rfl) (by kernel_rfl) (by kernel_rfl) (fun _ _ _ h => h) (by rfl) ?_ (by assumption) ?_
      · intro w hSw
        go_simp
      simp only [Act.put, List.setIfInBounds_toArray, List.set_cons_zero, List.set_cons_succ]
      refine take_do (i := 4) (v := (.slice (some ⟨g', 0, none⟩) xs.length n2)) rfl (by kernel_rfl) (by kernel_rfl) (by kernel_rfl) (fun _ _ _ h => h) (by rfl) ?_ (by assumption) ?_
      · intro w hSw
        go_simp
      simp only [Act.put, List.setIfInBounds_toArray, List.set_cons_zero, List.set_cons_succ]
      refine take_do (i := 5) (v := (.int .i64 i)) rfl (by kernel_rfl) (by kernel_rfl) (by kernel_rfl) (fun _ _ _ h => h) (by rfl) ?_ (by assumption) ?_
      · intro w hSw
        go_simp
      simp only [Act.put, List.setIfInBounds_toArray, List.set_cons_zero, List.set_cons_succ]
      refine take_do (i := 6) (v := (.pointer (some ⟨g', i * 4, none⟩))) rfl (by kernel_rfl) (by kernel_rfl) (by kernel_rfl) (fun _ _ _ h => h) (by rfl) ?_ (by assumption) ?_
      · intro w hSw
        go_simp
      simp only [Act.put, List.setIfInBounds_toArray, List.set_cons_zero, List.set_cons_succ]
      refine take_do (i := 7) (v := (.agg #[.int .i64 o.u, .int .i64 o.k, .int .i64 o.s, .string ⟨o.b.toArray⟩])) rfl (by kernel_rfl) (by kernel_rfl) (by kernel_rfl) (fun _ _ _ h => h) (by rfl) ?_ (by assumption) ?_
      · intro w hSw
        go_simp
      simp only [Act.put, List.setIfInBounds_toArray, List.set_cons_zero, List.set_cons_succ]
      refine take_call (i := 8) rfl (by kernel_rfl) (fun K hK => ?_)
      go_simp
      refine (eqFrame_same o.u o.k o.s ⟨o.b.toArray⟩ _).mono ?_
      rintro e w' ⟨rfl, hb⟩
      go_wp2_with fail
      refine hK.out _ _ (keepEight hb hHeld) (fun hHeld2 => ?_)
      clear hK hHeld hb
      have hHeld := hHeld2
      clear hHeld2
      refine take_do (i := 9) (v := (.bool false)) rfl (by kernel_rfl) (by kernel_rfl) (by kernel_rfl) (fun _ _ _ h => h) (by rfl) ?_ (by assumption) ?_
      · intro w hSw
        go_simp
      simp only [Act.put, List.setIfInBounds_toArray, List.set_cons_zero, List.set_cons_succ]
      refine wpAnyH_done (by kernel_rfl) ?_ _
      go_wp2_with fail
      go_roundw
      case rel => exact ⟨i + 1, by omega, by go_num, hHeld.2.2.2.2.2.2.2.2⟩
      case measure => simp [intOf]; omega
    · obtain rfl : i = xs.length := by omega
      go_wp2_with fail
      go_ret
      exact ⟨rfl, hB.out⟩
end Go.Proofs.YtgkgpdionhfkmaaDoor
