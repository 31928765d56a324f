/-
  The laws' conversions, comparisons and marks of a loop's answer.
-/
import Derived.Test.YtplghjghecfeoaaDoorLrR2
namespace Go.Proofs.YtplghjghecfeoaaDoor
open Go.RowKit Go.Deep

attribute [local go_sem] lrun_store_float lrun_store_complex
theorem rowF_of {B : Nat} {g n cap : Nat} {F : Nat → Value} {f : Nat → Nat} {W : World} (h : W.rowIs g 23 cap F) (hn : n ≤ cap) (hc : cap ≤ maxLen) (hB : B ≤ g) (hF : ∀ i, i < n → F i = .float .f64 (f i)) : OwnF B (.slice (some ⟨g, 0, none⟩) n cap) n f W := by
  obtain ⟨cur, h1, h2, h3⟩ := h
  refine ⟨by rw [lst_len, Nat.mul_one], Or.inr ⟨g, cap, cur, rfl, hB, h1, hn, hc, by rw [Nat.mul_one]; exact h2, ?_⟩⟩
  rw [Nat.mul_one]
  apply List.ext_getElem?
  intro i
  by_cases hi : i < n
  · rw [List.getElem?_take_of_lt hi, lst_at hi]
    have := h3 i (by omega)
    rw [hF i hi] at this
    simpa using this
  · rw [List.getElem?_eq_none (by simp; omega), List.getElem?_eq_none (by rw [lst_len]; omega)]
theorem OwnF.row {B : Nat} {v : Value} {n : Nat} {f : Nat → Nat} {W : World} (h : OwnF B v n f W) : (v = nilS ∧ n = 0) ∨ ∃ g cap F, v = .slice (some ⟨g, 0, none⟩) n cap ∧ B ≤ g ∧ n ≤ cap ∧ cap ≤ maxLen ∧ W.rowIs g 23 cap F ∧ ∀ i, i < n → F i = .float .f64 (f i) := by
  obtain ⟨h1, h2⟩ := h
  rcases h2 with h2 | ⟨g, cap, cur, e1, e2, e3, e4, e5, e6, e7⟩
  · exact Or.inl h2
  · refine Or.inr ⟨g, cap, fun i => cur[i]?.getD undef, e1, e2, e4, e5, ?_, fun i hi => ?_⟩
    · refine ⟨cur, e3, by simpa using e6, fun i hi => ?_⟩
      rw [Nat.mul_one] at e6
      have : i < cur.size := by omega
      simp [this]
    · have hx := lst_at (f := f) hi
      rw [← e7, Nat.mul_one] at hx
      rw [List.getElem?_take_of_lt hi] at hx
      simp at hx
      simp [hx]
theorem OwnF.sl {B : Nat} {v : Value} {n : Nat} {f : Nat → Nat} {W : World} (h : OwnF B v n f W) : ∃ a k, v = .slice a n k ∧ FlAt a n f W := by
  rcases h.form with ⟨rfl, rfl⟩ | ⟨g, k, rfl, _, hf⟩
  · exact ⟨none, 0, rfl, Or.inl rfl⟩
  · exact ⟨_, k, rfl, hf.at_⟩
/-- A mark. -/
def mkW (k i : Nat) : Nat := floatOfInt .f64 (((k + i : Nat) : Int))
theorem mk_self (k i : Nat) (h : k + i ≤ 16777216) : FloatKind.f64.format.order (mkW k i) (mkW k i) = some .eq := by
  have hl : (k + i).log2 ≤ 24 := Fl.log2_le (by omega)
  obtain ⟨m, e, hr, _⟩ := (Fl.bd_write (((k + i : Nat) : Int) < 0) ((k + i : Nat) : Int).natAbs 0 30 (by right; rw [Int.natAbs_natCast]; omega) (by omega) (by omega)).2
  have hw : mkW k i = Ieee.double.write (.number (((k + i : Nat) : Int) < 0) ((k + i : Nat) : Int).natAbs 0) := rfl
  rw [hw]
  show Ieee.double.order _ _ = _
  unfold Ieee.Format.order
  rw [hr]
  simp [Ieee.Datum.order]
set_option maxHeartbeats 1000000 in
theorem toLoop_any (l : Fl.Lo) (w : World) :
    Calls Tryd.prog 10 #[loV l] w fun e w' => e = .returned (loV l) ∧ Below w.heap.size w w' := by
  go_enter Tryd.func10, Tryd.ntmps10
  go_wp2
  exact bodyPost_ret (v := loV l) (by simp [results, Tryd.results10, go_sem]) rfl ⟨rfl, (((bel_alloc _ _).alloc (by simp) _).alloc (by simp; omega) _)⟩
set_option maxRecDepth 100000 in
set_option maxHeartbeats 2000000 in
theorem markFl_any (B : Nat) (v : Value) (n k : Nat) (f : Nat → Nat) (w : World) (h : OwnF B v n f w) (hn : n ≤ 1048576) (hk : k ≤ 4194304) :
    Calls Tryd.prog 14 #[v, .int .i64 k] w fun e w' => e = .returned (.int .i64 ((k + n : Nat) : Int)) ∧ OwnF B v n (mkW k) w' ∧ w.grownBy w' v.ownBlock := by
  rcases h.row with ⟨rfl, rfl⟩ | ⟨g, cap, F, rfl, hB, hnc, hcm, hR, hF⟩
  · go_enter Tryd.func14, Tryd.ntmps14
    go_wp2_with fail
    go_loopw [1, 5] (fun kv iv wr => kv = .int .i64 (k : Int) ∧ iv = .int .i64 0 ∧ wr = w) (fun _ _ _ => 0)
    case atStart => exact ⟨rfl, rfl, rfl⟩
    case round =>
      obtain ⟨rfl, rfl, rfl⟩ := hrel
      go_wp2_with fail
      go_ret
      exact ⟨rfl, World.ownsRow_nil _ _ _ _, World.grownBy.refl _ _⟩
  · have HR : Hid (w.rowIs g 23 cap F) := hR
    have HB := Lib.hid hB
    have HCM := Lib.hid hcm
    clear hR hF h hB hcm
    go_enter Tryd.func14, Tryd.ntmps14
    go_wp2_with fail
    go_loopw [1, 5] (fun kv iv wr => ∃ (i : Nat), i ≤ n ∧ kv = .int .i64 ((k + i : Nat) : Int) ∧ iv = .int .i64 i ∧ Hid ((∃ G, wr.rowIs g 23 cap G ∧ ∀ j, j < i → G j = .float .f64 (mkW k j)) ∧ w.grownBy wr (some g))) (fun _ iv _ => n - (intOf iv).toNat)
    case atStart => exact ⟨0, Nat.zero_le _, by simp, rfl, ⟨F, HR.out, fun j hj => absurd hj (by omega)⟩, World.grownBy.refl _ _⟩
    case round =>
      obtain ⟨i, hi, rfl, rfl, HG⟩ := hrel
      by_cases hlt : i < n
      · have hltz : (i : Int) < (n : Int) := by omega
        have hi00 : (0 : Int) ≤ (i : Int) := by omega
        obtain ⟨G, hG1, hG2⟩ := HG.out.1
        have c0 := hG1.cell (i := i) (by omega)
        have z0 := hG1.frozen i
        have l0 := hG1.lt
        have HG1 := Lib.hid hG1
        have HG2 := Lib.hid hG2
        obtain ⟨K, hK⟩ : ∃ K : Nat, K = k + i := ⟨_, rfl⟩
        have HK := Lib.hid hK
        rw [← hK]
        have hK2 : K ≤ 16777216 := by omega
        clear hG1 hG2 hK
        go_wp2_with fail
        go_roundw
        case rel =>
          refine ⟨i + 1, by omega, by have := HK.out; go_num, by go_num, ⟨_, HG1.out.set i _, fun j hj => ?_⟩, ?_⟩
          · by_cases e : j = i
            · subst e
              rw [if_pos rfl, HK.out]
              rfl
            · rw [if_neg e]; exact HG2.out j (by omega)
          · have hg := HG.out.2
            exact ⟨hg.os, hg.tape, hg.output, by have := hg.size; simpa using this, fun q hq hne => (blk_setCell_other _ _ _ _ (by show q ≠ g; exact fun e => hne (by rw [e]))).trans (hg.block q hq hne)⟩
        case measure => simp [intOf]; omega
      · obtain rfl : i = n := by omega
        go_wp2_with fail
        go_ret
        obtain ⟨G, hG1, hG2⟩ := HG.out.1
        exact ⟨rfl, rowF_of hG1 hnc HCM.out HB.out hG2, HG.out.2⟩
set_option maxRecDepth 100000 in
set_option maxHeartbeats 2000000 in
theorem heldFl_any (B : Nat) (v : Value) (n k : Nat) (w : World) (h : OwnF B v n (mkW k) w) (hn : n ≤ 1048576) (hk : k ≤ 4194304) :
    Calls Tryd.prog 28 #[v, .int .i64 k] w fun e w' => e = .returned (.int .i64 ((k + n : Nat) : Int)) ∧ Below w.heap.size w w' := by
  obtain ⟨a, cap, rfl, hA⟩ := h.sl
  have HA := Lib.hid hA
  clear hA h
  go_enter Tryd.func28, Tryd.ntmps28
  go_wp2_with fail
  go_loopw [1, 5] (fun kv iv wr => ∃ (i : Nat), i ≤ n ∧ kv = .int .i64 ((k + i : Nat) : Int) ∧ iv = .int .i64 i ∧ Hid (Below w.heap.size w wr)) (fun _ iv _ => n - (intOf iv).toNat)
  case atStart => exact ⟨0, Nat.zero_le _, by simp, rfl, Below.refl _ _⟩
  case round =>
    obtain ⟨i, hi, rfl, rfl, HBe⟩ := hrel
    by_cases hlt : i < n
    · have hltz : (i : Int) < (n : Int) := by omega
      have hi00 : (0 : Int) ≤ (i : Int) := by omega
      obtain ⟨g, rfl, c0⟩ := (HA.out.below HBe.out).at_ hlt
      have ho := mk_self k i (by omega)
      obtain ⟨K, hK⟩ : ∃ K : Nat, K = k + i := ⟨_, rfl⟩
      have e1 : mkW k i = floatOfInt .f64 (K : Int) := by rw [hK]; rfl
      rw [e1] at c0 ho
      have HK := Lib.hid hK
      rw [← hK]
      have hK2 : K ≤ 16777216 := by omega
      have ho' : (FloatKind.f64.format.order (floatOfInt .f64 (K : Int)) (floatOfInt .f64 (K : Int)) != some .eq) = false := by rw [ho]; rfl
      clear hK e1 ho
      go_wp2_with fail
      try go_region
      try go_wp2_with fail
      go_roundw
      case rel => exact ⟨i + 1, by omega, by have := HK.out; go_num, by go_num, by first | exact HBe.out | exact HBe.out.drew⟩
      case measure => simp [intOf]; omega
    · obtain rfl : i = n := by omega
      go_wp2_with fail
      go_ret
      exact ⟨rfl, HBe.out⟩
end Go.Proofs.YtplghjghecfeoaaDoor
