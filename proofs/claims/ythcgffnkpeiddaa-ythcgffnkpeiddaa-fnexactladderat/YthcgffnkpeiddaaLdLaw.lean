/-
  The law FnExactLadderAt.
-/
import Derived.Test.YthcgffnkpeiddaaLdS2
namespace Go.Proofs.Ythcgffnkpeiddaa
open Go.RowKit Go.Deep

attribute [local go_sem] lrun_store_float lrun_store_complex
set_option maxHeartbeats 400000 in
theorem toRung_any (a b c : Nat) (w : World) :
    Calls Try.prog 29 #[rgV a b c] w fun e w' => e = .returned (rgV a b c) ∧ Below w.heap.size w w' := by
  go_enter Try.func29, Try.ntmps29
  go_wp2
  exact bodyPost_ret (v := rgV a b c) (by simp [results, Try.results29, go_sem]) rfl ⟨rfl, (((bel_alloc _ _).alloc (by simp) _).alloc (by simp; omega) _)⟩
set_option maxHeartbeats 400000 in
theorem eqRung_same (a b c : Nat) (w : World) :
    Calls Try.prog 34 #[rgV a b c, rgV a b c] w fun e w' => e = .returned (.bool true) ∧ Below w.heap.size w w' := by
  go_enter Try.func34, Try.ntmps34
  go_wp2_with (first | (go_at_call 11; refine (same_any _ _).mono ?_; rintro e w' ⟨rfl, rfl⟩))
  go_ret
  exact ⟨rfl, ((bel_alloc _ _).alloc (by simp) _)⟩
theorem linfo_rg : (Try.prog.info? 52).map (fun i => (i.zero, i.size, i.bytes)) = some (some (.agg #[.float .f64 0, .float .f64 0, .float .f64 0]), 3, 24) := by kernel_rfl
theorem mk_Rg (n : Nat) (hn : n ≤ 1048576) (w : World) : (Instr.makeSlice 35 (.int .i64 (n : Int)) (.int .i64 (n : Int))).run Try.prog w = .ok (.slice (some ⟨w.heap.size, 0, none⟩) n n) (w.alloc (.cells (madeCells #[.float .f64 0, .float .f64 0, .float .f64 0] (n * 3)) 52)) := by
  obtain ⟨i0, hi, hz0, hz1, hz2⟩ := info_parts linfo_rg
  have := run_make (P := Try.prog) w 35 52 i0 _ Try.underlying35 hi hz0 .i64 .i64 n n (by omega) (Int.le_refl _) (by rw [hz2]; omega) (by omega)
  rw [hz1] at this
  simp only [Int.toNat_natCast] at this
  exact this
theorem made_rg (w : World) (n : Nat) : (w.alloc (.cells (madeCells #[.float .f64 0, .float .f64 0, .float .f64 0] (n * 3)) 52)).rowIs w.heap.size 52 (n * 3) (fun _ => .float .f64 0) := by
  refine ⟨_, blk_alloc_new _ _, size_madeCells _ _, fun i hi => ?_⟩
  have h5 : i % 3 = 0 ∨ i % 3 = 1 ∨ i % 3 = 2 := by omega
  rcases h5 with e | e | e <;> simp [madeCells, hi, e]
/-- The first i are there. -/
def RgPart (g N i : Nat) (f : (Nat → Nat) × (Nat → Nat) × (Nat → Nat)) (w : World) : Prop := ∃ F, w.rowIs g 52 (N * 3) F ∧ ∀ j, j < i → F (j * 3) = .float .f64 (f.1 j) ∧ F (j * 3 + 1) = .float .f64 (f.2.1 j) ∧ F (j * 3 + 2) = .float .f64 (f.2.2 j)
theorem RgPart.put {g N i : Nat} {f : (Nat → Nat) × (Nat → Nat) × (Nat → Nat)} {w : World} (h : RgPart g N i f w) : RgPart g N (i + 1) f (((w.setCell ⟨g, i * 3, none⟩ (.float .f64 (f.1 i))).setCell ⟨g, i * 3 + 1, none⟩ (.float .f64 (f.2.1 i))).setCell ⟨g, i * 3 + 2, none⟩ (.float .f64 (f.2.2 i))) := by
  obtain ⟨F, h1, h2⟩ := h
  refine ⟨_, ((h1.set (i * 3) _).set (i * 3 + 1) _).set (i * 3 + 2) _, fun j hj => ?_⟩
  by_cases e : j = i
  · subst e
    simp
  · have a1 : ¬ j * 3 = i * 3 + 2 := by omega
    have a2 : ¬ j * 3 = i * 3 + 1 := by omega
    have a3 : ¬ j * 3 = i * 3 := by omega
    have a4 : ¬ j * 3 + 1 = i * 3 + 2 := by omega
    have a5 : ¬ j * 3 + 1 = i * 3 + 1 := by omega
    have a6 : ¬ j * 3 + 1 = i * 3 := by omega
    have a7 : ¬ j * 3 + 2 = i * 3 + 2 := by omega
    have a8 : ¬ j * 3 + 2 = i * 3 + 1 := by omega
    have a9 : ¬ j * 3 + 2 = i * 3 := by omega
    rw [if_neg a1, if_neg a2, if_neg a3, if_neg a4, if_neg a5, if_neg a6, if_neg a7, if_neg a8, if_neg a9]
    exact h2 j (by omega)
theorem RgPart.at_ {g N i : Nat} {f : (Nat → Nat) × (Nat → Nat) × (Nat → Nat)} {w : World} (h : RgPart g N i f w) (hi : i < N) : (∃ a b c, w.cell? ⟨g, i * 3, none⟩ = some a ∧ w.cell? ⟨g, i * 3 + 1, none⟩ = some b ∧ w.cell? ⟨g, i * 3 + 2, none⟩ = some c) ∧ (w.frozen? ⟨g, i * 3, none⟩ = false ∧ w.frozen? ⟨g, i * 3 + 1, none⟩ = false ∧ w.frozen? ⟨g, i * 3 + 2, none⟩ = false) ∧ g < w.heap.size := by
  obtain ⟨F, h1, _⟩ := h
  exact ⟨⟨_, _, _, h1.cell (by omega), h1.cell (by omega), h1.cell (by omega)⟩, ⟨h1.frozen _, h1.frozen _, h1.frozen _⟩, h1.lt⟩
theorem RgPart.below {g N i : Nat} {f : (Nat → Nat) × (Nat → Nat) × (Nat → Nat)} {w w' : World} (h : RgPart g N i f w) (hb : Below w.heap.size w w') : RgPart g N i f w' := by obtain ⟨F, h1, h2⟩ := h; exact ⟨F, wrow_below h1 hb, h2⟩
set_option maxRecDepth 100000 in
set_option maxHeartbeats 2000000 in
theorem toRgs_any (a : Option Addr) (n cap : Nat) (f : (Nat → Nat) × (Nat → Nat) × (Nat → Nat)) (w : World) (hh : RgIn a n f w) (hn : n ≤ 1048576) :
    Calls Try.prog 14 #[.slice a n cap] w fun e w' => e = .returned (.slice (some ⟨w.heap.size, 0, none⟩) n n) ∧ RgBlk w.heap.size n f w' ∧ Below w.heap.size w w' := by
  have hmk := mk_Rg n hn
  have H := Lib.hid hh
  have HST : Hid (RgPart w.heap.size n 0 f (w.alloc (.cells (madeCells #[.float .f64 0, .float .f64 0, .float .f64 0] (n * 3)) 52))) := ⟨_, made_rg w n, fun j hj => absurd hj (by omega)⟩
  clear hh
  go_enter Try.func14, Try.ntmps14
  go_wp2_with fail
  clear hmk
  go_loopw [4] (fun iv wr => ∃ (i : Nat), i ≤ n ∧ iv = .int .i64 i ∧ Hid (RgPart w.heap.size n i f wr) ∧ Hid (Below w.heap.size w wr)) (fun iv _ => n - (intOf iv).toNat)
  case atStart => exact ⟨0, Nat.zero_le _, rfl, HST, (Below.refl _ _).alloc (Nat.le_refl _) _⟩
  case round =>
    obtain ⟨i, hi, rfl, hP, hB⟩ := hrel
    clear HST
    by_cases hlt : i < n
    · have hltz : (i : Int) < (n : Int) := by omega
      have hi00 : (0 : Int) ≤ (i : Int) := by omega
      rcases H.out.below hB.out with h0 | ⟨b, o, rfl, hc⟩
      · omega
      obtain ⟨c0, c1, c2⟩ := hc i hlt
      clear hc
      go_wp2_with fail
      refine (toRung_any _ _ _ _).mono ?_
      rintro e w1 ⟨rfl, hb⟩
      have hP1 := hP.out.below hb
      have HB1 : Hid (Below w.heap.size w w1) := hB.out.trans (hb.mono hB.out.size)
      have HP2 := Lib.hid hP1.put
      obtain ⟨⟨x0, x1, x2, y0, y1, y2⟩, ⟨z0, z1, z2⟩, hz⟩ := hP1.at_ hlt
      clear hP1 hb hP hB c0 c1 c2
      go_wp2_with fail
      go_roundw
      case rel => exact ⟨i + 1, by omega, by go_num, HP2, ((HB1.out.setCell (p := ⟨w.heap.size, _, none⟩) (Nat.le_refl _) _).setCell (p := ⟨w.heap.size, _, none⟩) (Nat.le_refl _) _).setCell (p := ⟨w.heap.size, _, none⟩) (Nat.le_refl _) _⟩
      case measure => simp [intOf]; omega
    · obtain rfl : i = n := by omega
      go_wp2_with fail
      go_ret
      obtain ⟨F, q1, q2⟩ := hP.out
      exact ⟨rfl, ⟨_, F, Nat.le_refl _, q1, q2⟩, hB.out⟩
set_option maxRecDepth 100000 in
set_option maxHeartbeats 2000000 in
theorem eqRgs_same (g1 g2 n ca cb : Nat) (f : (Nat → Nat) × (Nat → Nat) × (Nat → Nat)) (w : World) (h1 : RgBlk g1 n f w) (h2 : RgBlk g2 n f w) (hn : n ≤ 1048576) :
    Calls Try.prog 17 #[.slice (some ⟨g1, 0, none⟩) n ca, .slice (some ⟨g2, 0, none⟩) n cb] w fun e w' => e = .returned (.bool true) ∧ Below w.heap.size w w' := by
  have hne : ((n : Int) != (n : Int)) = false := by simp
  have H1 := Lib.hid h1
  have H2 := Lib.hid h2
  clear h1 h2
  go_enter Try.func17, Try.ntmps17
  go_wp2_with fail
  go_loopw [5] (fun iv wr => ∃ (i : Nat), i ≤ n ∧ iv = .int .i64 i ∧ Hid (Below w.heap.size w wr)) (fun iv _ => n - (intOf iv).toNat)
  case atStart => exact ⟨0, Nat.zero_le _, rfl, Below.refl _ _⟩
  case round =>
    obtain ⟨i, hi, rfl, hB⟩ := hrel
    by_cases hlt : i < n
    · have hltz : (i : Int) < (n : Int) := by omega
      have hi00 : (0 : Int) ≤ (i : Int) := by omega
      have HK1 := Lib.hid ((H1.out.below hB.out).cell hlt)
      have HK2 := Lib.hid ((H2.out.below hB.out).cell hlt)
      go_wp2_with fail
      refine wp_region_held_drew (S := fun V => Below wr.heap.size wr V) (by kernel_rfl) (Below.refl _ _).drew (fun hHeld => ?_)
      refine take_do (i := 0) (v := (.slice (some ⟨g1, 0, none⟩) n ca)) rfl (by kernel_rfl) (by kernel_rfl) (by kernel_rfl) (fun _ _ _ h => h) (by rfl) ?_ (by assumption) ?_
      · intro w hSw
        skip
        go_simp
      simp only [Act.put, List.setIfInBounds_toArray, List.set_cons_zero, List.set_cons_succ]
      refine take_do (i := 1) (v := (.int .i64 i)) rfl (by kernel_rfl) (by kernel_rfl) (by kernel_rfl) (fun _ _ _ h => h) (by rfl) ?_ (by assumption) ?_
      · intro w hSw
        skip
        go_simp
      simp only [Act.put, List.setIfInBounds_toArray, List.set_cons_zero, List.set_cons_succ]
      refine take_do (i := 2) (v := (.pointer (some ⟨g1, i * 3, none⟩))) rfl (by kernel_rfl) (by kernel_rfl) (by kernel_rfl) (fun _ _ _ h => h) (by rfl) ?_ (by assumption) ?_
      · intro w hSw
        skip
        go_simp
      simp only [Act.put, List.setIfInBounds_toArray, List.set_cons_zero, List.set_cons_succ]
      refine take_do (i := 3) (v := (rgV (f.1 i) (f.2.1 i) (f.2.2 i))) rfl (by kernel_rfl) (by kernel_rfl) (by kernel_rfl) (fun _ _ _ h => h) (by rfl) ?_ (by assumption) ?_
      · intro w hSw
        have q0 := (hSw.cell (p := ⟨g1, i * 3, none⟩) (World.block_lt_of_cell? _ _ HK1.out.1)).trans HK1.out.1; have q1 := (hSw.cell (p := ⟨g1, i * 3 + 1, none⟩) (World.block_lt_of_cell? _ _ HK1.out.2.1)).trans HK1.out.2.1; have q2 := (hSw.cell (p := ⟨g1, i * 3 + 2, none⟩) (World.block_lt_of_cell? _ _ HK1.out.2.2)).trans HK1.out.2.2
        go_simp
      simp only [Act.put, List.setIfInBounds_toArray, List.set_cons_zero, List.set_cons_succ]
      refine take_do (i := 4) (v := (.slice (some ⟨g2, 0, none⟩) n cb)) rfl (by kernel_rfl) (by kernel_rfl) (by kernel_rfl) (fun _ _ _ h => h) (by rfl) ?_ (by assumption) ?_
      · intro w hSw
        skip
        go_simp
      simp only [Act.put, List.setIfInBounds_toArray, List.set_cons_zero, List.set_cons_succ]
      refine take_do (i := 5) (v := (.int .i64 i)) rfl (by kernel_rfl) (by kernel_rfl) (by kernel_rfl) (fun _ _ _ h => h) (by rfl) ?_ (by assumption) ?_
      · intro w hSw
        skip
        go_simp
      simp only [Act.put, List.setIfInBounds_toArray, List.set_cons_zero, List.set_cons_succ]
      refine take_do (i := 6) (v := (.pointer (some ⟨g2, i * 3, none⟩))) rfl (by kernel_rfl) (by kernel_rfl) (by kernel_rfl) (fun _ _ _ h => h) (by rfl) ?_ (by assumption) ?_
      · intro w hSw
        skip
        go_simp
      simp only [Act.put, List.setIfInBounds_toArray, List.set_cons_zero, List.set_cons_succ]
      refine take_do (i := 7) (v := (rgV (f.1 i) (f.2.1 i) (f.2.2 i))) rfl (by kernel_rfl) (by kernel_rfl) (by kernel_rfl) (fun _ _ _ h => h) (by rfl) ?_ (by assumption) ?_
      · intro w hSw
        have q0 := (hSw.cell (p := ⟨g2, i * 3, none⟩) (World.block_lt_of_cell? _ _ HK2.out.1)).trans HK2.out.1; have q1 := (hSw.cell (p := ⟨g2, i * 3 + 1, none⟩) (World.block_lt_of_cell? _ _ HK2.out.2.1)).trans HK2.out.2.1; have q2 := (hSw.cell (p := ⟨g2, i * 3 + 2, none⟩) (World.block_lt_of_cell? _ _ HK2.out.2.2)).trans HK2.out.2.2
        go_simp
      simp only [Act.put, List.setIfInBounds_toArray, List.set_cons_zero, List.set_cons_succ]
      refine take_call (i := 8) rfl (by kernel_rfl) (fun K2 hK => ?_)
      go_simp
      refine (eqRung_same _ _ _ _).mono ?_
      rintro e Z ⟨rfl, hb⟩
      go_wp2_with fail
      refine hK.out _ _ (hHeld.trans (hb.mono hHeld.size)) (fun hHeld2 => ?_)
      clear hK hHeld hb
      refine take_do (i := 9) (v := (.bool false)) rfl (by kernel_rfl) (by kernel_rfl) (by kernel_rfl) (fun _ _ _ h => h) (by rfl) ?_ (by assumption) ?_
      · intro w hSw
        skip
        go_simp
      simp only [Act.put, List.setIfInBounds_toArray, List.set_cons_zero, List.set_cons_succ]
      refine wpAnyH_done (by kernel_rfl) ?_ _
      have HBZ : Hid (Below w.heap.size w Z) := hB.out.trans (hHeld2.mono hB.out.size)
      clear hHeld2 hB
      go_wp2_with fail
      go_roundw
      case rel => exact ⟨i + 1, by omega, by go_num, HBZ⟩
      case measure => simp [intOf]; omega
    · go_wp2_with fail
      go_ret
      exact ⟨rfl, hB.out⟩
set_option maxRecDepth 100000 in
set_option maxHeartbeats 1000000 in
theorem sLadder_any (g n cap : Nat) (f : (Nat → Nat) × (Nat → Nat) × (Nat → Nat)) (t : Nat) (w : World) (h : RgBlk g n f w) (hn : n ≤ 1048576) :
    Calls Try.prog 13 #[.slice (some ⟨g, 0, none⟩) n cap, .float .f64 t] w fun e w' => e = .returned (cnV (ladA f n t).1 (ladA f n t).2) ∧ Below w.heap.size w w' := by
  unfold ladA
  by_cases h30 : n ≤ 30
  case neg =>
    rw [decide_eq_false h30]
    simp only [Bool.false_and, Bool.false_eq_true, if_false]
    have hz : (30 : Int) < (n : Int) := by omega
    clear h
    go_enter Try.func13, Try.ntmps13
    go_wp2_with fail
    exact bodyPost_ret (v := cnV 0 0) (by simp [results, Try.results13, go_sem]) rfl ⟨rfl, bel_alloc _ _⟩
  case pos =>
  rw [decide_eq_true h30]
  simp only [Bool.true_and]
  have hnz : ¬ (30 : Int) < (n : Int) := by omega
  cases ht : Fl.measB t
  · simp only [Bool.and_false, Bool.false_eq_true, if_false]
    clear h
    go_enter Try.func13, Try.ntmps13
    go_wp2_with (go_at_call 26; refine (specMeas_any _ _).mono ?_; rintro e w' ⟨rfl, rfl⟩)
    exact bodyPost_ret (v := cnV 0 0) (by simp [results, Try.results13, go_sem]) rfl ⟨rfl, bel_alloc _ _⟩
  · cases hr : rgsB f n
    · simp only [Bool.false_and, Bool.false_eq_true, if_false]
      have HC1 : Hid (RgBlk g n f (w.alloc (.cells #[.float .f64 0, .float .f64 0] 33))) := h.below (bel_alloc _ _)
      clear h
      go_enter Try.func13, Try.ntmps13
      go_wp2_with (go_at_call 26; refine (specMeas_any _ _).mono ?_; rintro e w' ⟨rfl, rfl⟩)
      go_loopw [5] (fun i wx => ∃ k : Nat, k ≤ n ∧ i = .int .i64 k ∧ wx = w.alloc (.cells #[.float .f64 0, .float .f64 0] 33) ∧ rgsB f k = true) (fun i _ => n - (intOf i).toNat)
      case atStart => exact ⟨0, Nat.zero_le _, rfl, rfl, rfl⟩
      case round =>
        obtain ⟨k, hk, rfl, rfl, hy⟩ := hrel
        by_cases hlt : k < n
        · have hltz : (k : Int) < (n : Int) := by omega
          have hk0 : (0 : Int) ≤ (k : Int) := by omega
          obtain ⟨c0, c1, c2⟩ := HC1.out.cell hlt
          cases m0 : Fl.measB (f.1 k)
          · go_wp2_with (go_at_call 26; refine (specMeas_any _ _).mono ?_; rintro e w' ⟨rfl, hw⟩; subst w')
            exact bodyPost_ret (v := cnV 0 0) (by simp [results, Try.results13, go_sem]) rfl ⟨rfl, bel_alloc _ _⟩
          · cases m1 : Fl.measB (f.2.1 k)
            · go_wp2_with (go_at_call 26; refine (specMeas_any _ _).mono ?_; rintro e w' ⟨rfl, hw⟩; subst w')
              exact bodyPost_ret (v := cnV 0 0) (by simp [results, Try.results13, go_sem]) rfl ⟨rfl, bel_alloc _ _⟩
            · cases m2 : Fl.measB (f.2.2 k)
              · go_wp2_with (go_at_call 26; refine (specMeas_any _ _).mono ?_; rintro e w' ⟨rfl, hw⟩; subst w')
                exact bodyPost_ret (v := cnV 0 0) (by simp [results, Try.results13, go_sem]) rfl ⟨rfl, bel_alloc _ _⟩
              · have HY : Hid (rgsB f (k + 1) = true) := by show (rgsB f k && rgB f k) = true; unfold rgB; rw [hy, m0, m1, m2]; rfl
                go_wp2_with (go_at_call 26; refine (specMeas_any _ _).mono ?_; rintro e w' ⟨rfl, hw⟩; subst w')
                go_roundw
                case rel => exact ⟨k + 1, by omega, by go_num, by simp, HY.out⟩
                case measure => simp [intOf]; omega
        · obtain rfl : n = k := by omega
          rw [hr] at hy
          cases hy
    · simp only [Bool.and_self, if_true]
      exact sLadderOk g n cap (clipR f n) t w (clip_blk h) h30 (clip_right hr) ht
set_option maxHeartbeats 400000 in
theorem szRg_big (a : Option Addr) (n k : Nat) (w : World) (hu : n ≤ 9223372036854775807) (hb : 1048576 < n) :
    Calls Try.prog 12 #[.slice a n k, .int .i64 1048576] w fun e w' => e = .returned (.int .i64 (-1)) ∧ w' = w := by
  have hz : (1048576 : Int) < (n : Int) := by omega
  have h1 : (1048576 : Int) - (n : Int) < 0 := by omega
  go_enter Try.func12, Try.ntmps12
  go_wp2_with fail
  go_ret
  exact ⟨rfl, rfl⟩
set_option maxHeartbeats 400000 in
theorem szRg_ok (a : Option Addr) (n k : Nat) (w : World) (hn : n ≤ 1048576) :
    Calls Try.prog 12 #[.slice a n k, .int .i64 1048576] w fun e w' => e = .returned (.int .i64 ((1048576 - n : Nat) : Int)) ∧ w' = w := by
  have hz : ¬ (1048576 : Int) < (n : Int) := by omega
  have h1 : (1048576 : Int) - (n : Int) = ((1048576 - n : Nat) : Int) := by omega
  have h2 : ¬ ((1048576 - n : Nat) : Int) < 0 := by omega
  go_enter Try.func12, Try.ntmps12
  go_wp2_with fail
  go_ret
  exact ⟨by first | rfl | (rw [h1]; rfl) | simp [h1], rfl⟩
set_option maxRecDepth 100000 in
set_option maxHeartbeats 2000000 in
theorem ladder_law (w : World) (a : Option Addr) (n k : Nat) (f : (Nat → Nat) × (Nat → Nat) × (Nat → Nat)) (h : RgIn a n f w) (_u : n ≤ 9223372036854775807) (t : Nat) (_ : t < 18446744073709551616) :
    Calls Try.prog 4 #[.slice a n k, .float .f64 t] w fun e w' => e = .returned (.bool true) ∧ Below w.heap.size w w' := by
  by_cases hbig : 1048576 < n
  · clear h
    go_enter Try.func4, Try.ntmps4
    go_wp2_with fail
    refine (szRg_big a n k _ _u hbig).mono ?_
    rintro e w' ⟨rfl, rfl⟩
    go_wp2_with fail
    go_ret
    exact ⟨rfl, Below.refl _ _⟩
  clear _u
  have HI := Lib.hid h
  have HN : Hid (n ≤ 1048576) := by show _ ≤ _; omega
  have HSP : Hid (∀ g wx, RgBlk g n f wx → Calls Try.prog 13 #[.slice (some ⟨g, 0, none⟩) n n, .float .f64 t] wx fun e w' => e = .returned (cnV (ladA f n t).1 (ladA f n t).2) ∧ Below wx.heap.size wx w') := fun g wx hx => sLadder_any g n n f t wx hx (by omega)
  have HIM : Hid (∀ g wx, RgBlk g n f wx → Calls Try.prog 15 #[.slice (some ⟨g, 0, none⟩) n n, .float .f64 t] wx fun e w' => e = .returned (cnV (ladA f n t).1 (ladA f n t).2) ∧ Below wx.heap.size wx w') := fun g wx hx => implLadder_any g n n f t wx hx (by omega)
  generalize (ladA f n t).1 = X at HSP HIM
  generalize (ladA f n t).2 = Y at HSP HIM
  clear h hbig
  have hl : ¬ ((1048576 - n : Nat) : Int) < 0 := by omega
  go_enter Try.func4, Try.ntmps4
  go_wp2_with fail
  refine (szRg_ok a n k _ HN.out).mono ?_
  rintro e w' ⟨rfl, hw⟩
  subst w'
  generalize (1048576 - n : Nat) = lf at *
  go_wp2_with fail
  refine (toRgs_any a n k f _ HI.out HN.out).mono ?_
  rintro e w1 ⟨rfl, hr, hb⟩
  have B1 := Lib.hid hb
  have R1 := Lib.hid hr
  clear hb hr
  go_wp2_with fail
  refine (HSP.out _ _ R1.out).mono ?_
  rintro e w2 ⟨rfl, hb⟩
  obtain ⟨W3, hW3⟩ : ∃ W3, W3 = w2.alloc (.cells #[.float .f64 X, .float .f64 Y] 33) := ⟨_, rfl⟩
  have B3 : Hid (Below w.heap.size w W3) := by show Below _ _ _; rw [hW3]; exact (B1.out.trans (hb.mono B1.out.size)).trans ((bel_alloc _ _).mono (B1.out.trans (hb.mono B1.out.size)).size)
  have P3 : Hid (W3.rowIs w2.heap.size 33 2 (rowL (cnL X Y))) := by show World.rowIs _ _ _ _ _; rw [hW3]; exact rowL_alloc w2 _ _
  have HW3 := Lib.hid hW3
  clear hb hW3 R1 B1
  go_wp2_with fail
  rw [← HW3.out]
  clear HW3
  generalize w2.heap.size = P at *
  refine (toRgs_any a n k f _ (HI.out.below B3.out) HN.out).mono ?_
  rintro e w4 ⟨rfl, hr, hb⟩
  have B4 : Hid (Below w.heap.size w w4) := B3.out.trans (hb.mono B3.out.size)
  have P4 := Lib.hid (wrow_below P3.out hb)
  have R4 := Lib.hid hr
  clear hb hr B3 P3
  generalize W3.heap.size = G at *
  go_wp2_with fail
  refine (HIM.out _ _ R4.out).mono ?_
  rintro e w5 ⟨rfl, hb⟩
  obtain ⟨W6, hW6⟩ : ∃ W6, W6 = w5.alloc (.cells #[.float .f64 X, .float .f64 Y] 33) := ⟨_, rfl⟩
  have q6 := hb.trans ((bel_alloc w5 (.cells #[.float .f64 X, .float .f64 Y] 33)).mono hb.size)
  rw [← hW6] at q6
  have B6 : Hid (Below w.heap.size w W6) := B4.out.trans (q6.mono B4.out.size)
  have R6 := Lib.hid (R4.out.below q6)
  have HW6 := Lib.hid hW6
  obtain ⟨⟨c0, c1⟩, _⟩ := row2_cells (wrow_below P4.out hb)
  have lp : P < w5.heap.size := (wrow_below P4.out hb).lt
  clear hb hW6 q6 R4 B4 P4
  go_wp2_with fail
  rw [← HW6.out]
  clear HW6 c0 c1 lp
  refine (eqCnum_same _ _ _).mono ?_
  rintro e w7 ⟨rfl, hb⟩
  have B7 : Hid (Below w.heap.size w w7) := B6.out.trans (hb.mono B6.out.size)
  have R7 := Lib.hid (R6.out.below hb)
  clear hb B6 R6
  go_wp2_with fail
  refine (toRgs_any a n k f _ (HI.out.below B7.out) HN.out).mono ?_
  rintro e w8 ⟨rfl, hr, hb⟩
  have B8 : Hid (Below w.heap.size w w8) := B7.out.trans (hb.mono B7.out.size)
  have R8 := Lib.hid (R7.out.below hb)
  have S8 := Lib.hid hr
  clear hb hr B7 R7
  go_wp2_with fail
  refine (eqRgs_same _ _ _ _ _ f _ R8.out S8.out HN.out).mono ?_
  rintro e w9 ⟨rfl, hb⟩
  have B9 : Hid (Below w.heap.size w w9) := B8.out.trans (hb.mono B8.out.size)
  clear hb
  go_wp2_with fail
  go_ret
  exact ⟨rfl, B9.out⟩
end Go.Proofs.Ythcgffnkpeiddaa
