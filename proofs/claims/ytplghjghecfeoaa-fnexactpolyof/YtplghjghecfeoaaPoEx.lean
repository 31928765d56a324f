/-
  Lists of Cnums: the laws' comparison, marks and how they are found again.
-/
import Derived.Test.YtplghjghecfeoaaPoS
namespace Go.Proofs.Ytplghjghecfeoaa
open Go.RowKit Go.Deep

attribute [local go_sem] lrun_store_float lrun_store_complex
/-- One block alone may have changed. -/
theorem OwnC.only {B : Nat} {v : Value} {n : Nat} {c : Nat → Nat × Nat} {W W' : World} {row : Option Nat} (h : OwnC B v n c W) (hg : W.grownBy W' row) (hne : ∀ q, v.ownBlock = some q → row ≠ some q) : OwnC B v n c W' := by
  refine World.ownsRow.kept h hg ?_
  cases hv : v.ownBlock with
  | none => exact Or.inl rfl
  | some k => exact Or.inr (fun e => hne k hv e.symm)
theorem grown_below {B : Nat} {w w' : World} {row : Option Nat} (h : w.grownBy w' row) (hP : ∀ k, row = some k → B ≤ k) (hB : B ≤ w.heap.size) : Below B w w' := ⟨h.os, h.tape, h.output, h.size, fun k hk => h.block k (by omega) (fun e => by have := hP k e.symm; omega)⟩
/-- A mark. -/
def pmkW (k i : Nat) : Nat := floatOfInt .f64 (((k + i : Nat) : Int))
def pmk (k i : Nat) : Nat × Nat := (pmkW k (i * 2), pmkW k (i * 2 + 1))
theorem pmk_self (k i : Nat) (h : k + i ≤ 16777216) : FloatKind.f64.format.order (pmkW k i) (pmkW k i) = some .eq := by
  have hl : (k + i).log2 ≤ 24 := Fl.log2_le (by omega)
  obtain ⟨m, e, hr, _⟩ := (Fl.bd_write (((k + i : Nat) : Int) < 0) ((k + i : Nat) : Int).natAbs 0 30 (by right; rw [Int.natAbs_natCast]; omega) (by omega) (by omega)).2
  have hw : pmkW k i = Ieee.double.write (.number (((k + i : Nat) : Int) < 0) ((k + i : Nat) : Int).natAbs 0) := rfl
  rw [hw]
  show Ieee.double.order _ _ = _
  unfold Ieee.Format.order
  rw [hr]
  simp [Ieee.Datum.order]
set_option maxRecDepth 100000 in
set_option maxHeartbeats 2000000 in
theorem eqCns_same (a b : Option Addr) (n ca cb : Nat) (c : Nat → Nat × Nat) (w : World) (h1 : CnAt a n c w) (h2 : CnAt b n c w) (hn : n ≤ 1048576) :
    Calls Try.prog 29 #[.slice a n ca, .slice b n cb] w fun e w' => e = .returned (.bool true) ∧ Below w.heap.size w w' := by
  have hne : ((n : Int) != (n : Int)) = false := by simp
  have H1 := Lib.hid h1
  have H2 := Lib.hid h2
  clear h1 h2
  go_enter Try.func29, Try.ntmps29
  go_wp2_with fail
  go_loopw [5] (fun iv wr => ∃ (i : Nat), i ≤ n ∧ iv = .int .i64 i ∧ Hid (Below w.heap.size w wr)) (fun iv _ => n - (intOf iv).toNat)
  case atStart => exact ⟨0, Nat.zero_le _, rfl, Below.refl _ _⟩
  case round =>
    obtain ⟨i, hi, rfl, hB⟩ := hrel
    by_cases hlt : i < n
    · have hltz : (i : Int) < (n : Int) := by omega
      have hi00 : (0 : Int) ≤ (i : Int) := by omega
      obtain ⟨g1, rfl, k1⟩ := (H1.out.below hB.out).at_ hlt
      obtain ⟨g2, rfl, k2⟩ := (H2.out.below hB.out).at_ hlt
      have HK1 := Lib.hid k1
      have HK2 := Lib.hid k2
      clear k1 k2
      go_wp2_with fail
      refine wp_region_held_drew (S := fun V => Below wr.heap.size wr V) (by kernel_rfl) (Below.refl _ _).drew (fun hHeld => ?_)
      refine take_do (i := 0) (v := (.slice (some ⟨g1, 0, none⟩) n ca)) rfl (by kernel_rfl) (by kernel_rfl) (by kernel_rfl) (fun _ _ _ h => h) (by rfl) ?_ (by assumption) ?_
      · intro w hSw
        skip
        go_simp
      simp only [Act.put, List.setIfInBounds_toArray, List.set_cons_zero, List.set_cons_succ]
      refine take_do (i := 1) (v := (.int .i64 i)) rfl (by kernel_rfl) (by kernel_rfl) (by kernel_rfl) (fun _ _ _ h => h) (by rfl) ?_ (by assumption) ?_
      · intro w hSw
        skip
        go_simp
      simp only [Act.put, List.setIfInBounds_toArray, List.set_cons_zero, List.set_cons_succ]
      refine take_do (i := 2) (v := (.pointer (some ⟨g1, i * 2, none⟩))) rfl (by kernel_rfl) (by kernel_rfl) (by kernel_rfl) (fun _ _ _ h => h) (by rfl) ?_ (by assumption) ?_
      · intro w hSw
        skip
        go_simp
      simp only [Act.put, List.setIfInBounds_toArray, List.set_cons_zero, List.set_cons_succ]
      refine take_do (i := 3) (v := (cnV (c i).1 (c i).2)) rfl (by kernel_rfl) (by kernel_rfl) (by kernel_rfl) (fun _ _ _ h => h) (by rfl) ?_ (by assumption) ?_
      · intro w hSw
        have q0 := (hSw.cell (p := ⟨g1, i * 2, none⟩) (World.block_lt_of_cell? _ _ HK1.out.1)).trans HK1.out.1; have q1 := (hSw.cell (p := ⟨g1, i * 2 + 1, none⟩) (World.block_lt_of_cell? _ _ HK1.out.2)).trans HK1.out.2
        go_simp
      simp only [Act.put, List.setIfInBounds_toArray, List.set_cons_zero, List.set_cons_succ]
      refine take_do (i := 4) (v := (.slice (some ⟨g2, 0, none⟩) n cb)) rfl (by kernel_rfl) (by kernel_rfl) (by kernel_rfl) (fun _ _ _ h => h) (by rfl) ?_ (by assumption) ?_
      · intro w hSw
        skip
        go_simp
      simp only [Act.put, List.setIfInBounds_toArray, List.set_cons_zero, List.set_cons_succ]
      refine take_do (i := 5) (v := (.int .i64 i)) rfl (by kernel_rfl) (by kernel_rfl) (by kernel_rfl) (fun _ _ _ h => h) (by rfl) ?_ (by assumption) ?_
      · intro w hSw
        skip
        go_simp
      simp only [Act.put, List.setIfInBounds_toArray, List.set_cons_zero, List.set_cons_succ]
      refine take_do (i := 6) (v := (.pointer (some ⟨g2, i * 2, none⟩))) rfl (by kernel_rfl) (by kernel_rfl) (by kernel_rfl) (fun _ _ _ h => h) (by rfl) ?_ (by assumption) ?_
      · intro w hSw
        skip
        go_simp
      simp only [Act.put, List.setIfInBounds_toArray, List.set_cons_zero, List.set_cons_succ]
      refine take_do (i := 7) (v := (cnV (c i).1 (c i).2)) rfl (by kernel_rfl) (by kernel_rfl) (by kernel_rfl) (fun _ _ _ h => h) (by rfl) ?_ (by assumption) ?_
      · intro w hSw
        have q0 := (hSw.cell (p := ⟨g2, i * 2, none⟩) (World.block_lt_of_cell? _ _ HK2.out.1)).trans HK2.out.1; have q1 := (hSw.cell (p := ⟨g2, i * 2 + 1, none⟩) (World.block_lt_of_cell? _ _ HK2.out.2)).trans HK2.out.2
        go_simp
      simp only [Act.put, List.setIfInBounds_toArray, List.set_cons_zero, List.set_cons_succ]
      refine take_call (i := 8) rfl (by kernel_rfl) (fun K2 hK => ?_)
      go_simp
      refine (eqCnum_same _ _ _).mono ?_
      rintro e Z ⟨rfl, hb⟩
      go_wp2_with fail
      refine hK.out _ _ (hHeld.trans (hb.mono hHeld.size)) (fun hHeld2 => ?_)
      clear hK hHeld hb
      refine take_do (i := 9) (v := (.bool false)) rfl (by kernel_rfl) (by kernel_rfl) (by kernel_rfl) (fun _ _ _ h => h) (by rfl) ?_ (by assumption) ?_
      · intro w hSw
        skip
        go_simp
      simp only [Act.put, List.setIfInBounds_toArray, List.set_cons_zero, List.set_cons_succ]
      refine wpAnyH_done (by kernel_rfl) ?_ _
      have HBZ : Hid (Below w.heap.size w Z) := hB.out.trans (hHeld2.mono hB.out.size)
      clear hHeld2 hB
      go_wp2_with fail
      go_roundw
      case rel => exact ⟨i + 1, by omega, by go_num, HBZ⟩
      case measure => simp [intOf]; omega
    · go_wp2_with fail
      go_ret
      exact ⟨rfl, hB.out⟩
set_option maxRecDepth 100000 in
set_option maxHeartbeats 2000000 in
theorem markCns_any (B : Nat) (v : Value) (n k : Nat) (c : Nat → Nat × Nat) (w : World) (h : OwnC B v n c w) (hn : n ≤ 1048576) (hk : k ≤ 4194304) :
    Calls Try.prog 30 #[v, .int .i64 k] w fun e w' => e = .returned (.int .i64 ((k + n * 2 : Nat) : Int)) ∧ OwnC B v n (pmk k) w' ∧ w.grownBy w' v.ownBlock := by
  rcases h.row with ⟨rfl, rfl⟩ | ⟨g, cap, F, rfl, hB, hnc, hcm, hR, hF⟩
  · go_enter Try.func30, Try.ntmps30
    go_wp2_with fail
    go_loopw [1, 5] (fun kv iv wr => kv = .int .i64 (k : Int) ∧ iv = .int .i64 0 ∧ wr = w) (fun _ _ _ => 0)
    case atStart => exact ⟨rfl, rfl, rfl⟩
    case round =>
      obtain ⟨rfl, rfl, rfl⟩ := hrel
      go_wp2_with fail
      go_ret
      exact ⟨rfl, World.ownsRow_nil _ _ _ _, World.grownBy.refl _ _⟩
  · have HR : Hid (w.rowIs g 25 (cap * 2) F) := hR
    have HB := Lib.hid hB
    have HCM := Lib.hid hcm
    clear hR hF h hB hcm
    go_enter Try.func30, Try.ntmps30
    go_wp2_with fail
    go_loopw [1, 5] (fun kv iv wr => ∃ (i K : Nat), i ≤ n ∧ K = k + i * 2 ∧ kv = .int .i64 (K : Int) ∧ iv = .int .i64 i ∧ Hid ((∃ G, wr.rowIs g 25 (cap * 2) G ∧ ∀ j, j < i → G (j * 2) = .float .f64 (pmk k j).1 ∧ G (j * 2 + 1) = .float .f64 (pmk k j).2) ∧ w.grownBy wr (some g))) (fun _ iv _ => n - (intOf iv).toNat)
    case atStart => exact ⟨0, k, Nat.zero_le _, by omega, rfl, rfl, ⟨F, HR.out, fun j hj => absurd hj (by omega)⟩, World.grownBy.refl _ _⟩
    case round =>
      obtain ⟨i, K, hi, hK, rfl, rfl, HG⟩ := hrel
      have HK := Lib.hid hK
      by_cases hlt : i < n
      · have hltz : (i : Int) < (n : Int) := by omega
        have hi00 : (0 : Int) ≤ (i : Int) := by omega
        obtain ⟨G, hG1, hG2⟩ := HG.out.1
        have c0 := hG1.cell (i := i * 2) (by omega)
        have c1 := hG1.cell (i := i * 2 + 1) (by omega)
        have z0 := hG1.frozen (i * 2)
        have z1 := hG1.frozen (i * 2 + 1)
        have l0 := hG1.lt
        have HG1 := Lib.hid hG1
        have HG2 := Lib.hid hG2
        have hK2 : K ≤ 16777210 := by omega
        clear hG1 hG2 hK
        go_wp2_with fail
        go_roundw
        case rel =>
          have hk3 := HK.out
          refine ⟨i + 1, K + 2, by omega, by omega, by go_num, by go_num, ⟨_, (HG1.out.set (i * 2) _).set (i * 2 + 1) _, fun j hj => ?_⟩, ?_⟩
          · by_cases e : j = i
            · subst e
              have e1 : ¬ j * 2 = j * 2 + 1 := by omega
              rw [if_neg e1, if_pos rfl, if_pos rfl, hk3]
              exact ⟨rfl, rfl⟩
            · have a1 : ¬ j * 2 = i * 2 + 1 := by omega
              have a2 : ¬ j * 2 = i * 2 := by omega
              have a3 : ¬ j * 2 + 1 = i * 2 + 1 := by omega
              have a4 : ¬ j * 2 + 1 = i * 2 := by omega
              rw [if_neg a1, if_neg a2, if_neg a3, if_neg a4]
              exact HG2.out j (by omega)
          · have hg := HG.out.2
            exact ⟨hg.os, hg.tape, hg.output, by have := hg.size; simpa using this, fun q hq hne => (blk_setCell_other _ _ _ _ (by show q ≠ g; exact fun e => hne (by rw [e]))).trans ((blk_setCell_other _ _ _ _ (by show q ≠ g; exact fun e => hne (by rw [e]))).trans (hg.block q hq hne))⟩
        case measure => simp [intOf]; omega
      · obtain rfl : i = n := by omega
        clear hK
        go_wp2_with fail
        go_ret
        obtain ⟨G, hG1, hG2⟩ := HG.out.1
        exact ⟨by have := HK.out; show Ending.returned (.int .i64 (K : Int)) = _; rw [this], rowC_of hG1 hnc HCM.out HB.out hG2, HG.out.2⟩
set_option maxRecDepth 100000 in
set_option maxHeartbeats 2000000 in
theorem heldCns_any (B : Nat) (v : Value) (n k : Nat) (w : World) (h : OwnC B v n (pmk k) w) (hn : n ≤ 1048576) (hk : k ≤ 4194304) :
    Calls Try.prog 31 #[v, .int .i64 k] w fun e w' => e = .returned (.int .i64 ((k + n * 2 : Nat) : Int)) ∧ Below w.heap.size w w' := by
  obtain ⟨a, cap, rfl, hA⟩ := h.sl
  have HA := Lib.hid hA
  clear hA h
  go_enter Try.func31, Try.ntmps31
  go_wp2_with fail
  go_loopw [1, 5] (fun kv iv wr => ∃ (i K : Nat), i ≤ n ∧ K = k + i * 2 ∧ kv = .int .i64 (K : Int) ∧ iv = .int .i64 i ∧ Hid (Below w.heap.size w wr)) (fun _ iv _ => n - (intOf iv).toNat)
  case atStart => exact ⟨0, k, Nat.zero_le _, by omega, rfl, rfl, Below.refl _ _⟩
  case round =>
    obtain ⟨i, K, hi, hK, rfl, rfl, HBe⟩ := hrel
    have HK := Lib.hid hK
    by_cases hlt : i < n
    · have hltz : (i : Int) < (n : Int) := by omega
      have hi00 : (0 : Int) ≤ (i : Int) := by omega
      obtain ⟨g, rfl, c0, c1⟩ := (HA.out.below HBe.out).at_ hlt
      have e1 : (pmk k i).1 = floatOfInt .f64 (K : Int) := by rw [hK]; rfl
      have e2 : (pmk k i).2 = floatOfInt .f64 ((K : Int) + 1) := by rw [hK]; rfl
      have ho1 := pmk_self k (i * 2) (by omega)
      have ho2 := pmk_self k (i * 2 + 1) (by omega)
      have f1 : pmkW k (i * 2) = floatOfInt .f64 (K : Int) := e1
      have f2 : pmkW k (i * 2 + 1) = floatOfInt .f64 ((K : Int) + 1) := e2
      rw [f1] at ho1
      rw [f2] at ho2
      rw [e1] at c0
      rw [e2] at c1
      have ho1' : (FloatKind.f64.format.order (floatOfInt .f64 (K : Int)) (floatOfInt .f64 (K : Int)) != some .eq) = false := by rw [ho1]; rfl
      have ho2' : (FloatKind.f64.format.order (floatOfInt .f64 ((K : Int) + 1)) (floatOfInt .f64 ((K : Int) + 1)) != some .eq) = false := by rw [ho2]; rfl
      have hK2 : K ≤ 16777210 := by omega
      clear hK e1 e2 f1 f2 ho1 ho2
      go_wp2_with fail
      go_roundw
      case rel => exact ⟨i + 1, K + 2, by omega, by have := HK.out; omega, by go_num, by go_num, HBe⟩
      case measure => simp [intOf]; omega
    · obtain rfl : i = n := by omega
      clear hK
      go_wp2_with fail
      go_ret
      exact ⟨by have := HK.out; show Ending.returned (.int .i64 (K : Int)) = _; rw [this], HBe.out⟩
set_option maxHeartbeats 1000000 in
theorem szCns_any (a : Option Addr) (n c : Nat) (w : World) (hn : n ≤ 9223372036854775807) :
    Calls Try.prog 25 #[.slice a n c, .int .i64 1048576] w fun e w' => ((∃ z : Int, e = .returned (.int .i64 z) ∧ z < 0) ∨ (n ≤ 1048576 ∧ e = .returned (.int .i64 (1048576 - (n : Int))))) ∧ w' = w := by
  by_cases hb : 1048576 < n
  · have hz : (1048576 : Int) - (n : Int) < 0 := by omega
    go_enter Try.func25, Try.ntmps25
    go_wp2
    go_ret
    exact ⟨Or.inl ⟨-1, rfl, by omega⟩, rfl⟩
  · have hz : ¬ (1048576 : Int) - (n : Int) < 0 := by omega
    go_enter Try.func25, Try.ntmps25
    go_wp2
    go_ret
    exact ⟨Or.inr ⟨by omega, rfl⟩, rfl⟩
end Go.Proofs.Ytplghjghecfeoaa
