/-
  The laws' conversions, comparisons and marks of ops.
-/
import Derived.Test.YtgkdnpnnmmpnmaaNtMem
import Derived.Test.YtgkdnpnnmmpnmaaMnMem
import Derived.Test.YtgkdnpnnmmpnmaaReg
namespace Go.Proofs.Ytgkdnpnnmmpnmaa
open Go.RowKit Go.Deep

/-- What a round of the comparison reads. -/
def EqSOp (w : World) (b1 b2 i : Nat) (f : Nat → Int) (W : World) : Prop := (W.cell? ⟨b1, i * 3, none⟩ = some (.int .i64 (f (i * 3))) ∧ W.cell? ⟨b1, i * 3 + 1, none⟩ = some (.int .i64 (f (i * 3 + 1))) ∧ W.cell? ⟨b1, i * 3 + 2, none⟩ = some (.int .i64 (f (i * 3 + 2)))) ∧ (W.cell? ⟨b2, i * 3, none⟩ = some (.int .i64 (f (i * 3))) ∧ W.cell? ⟨b2, i * 3 + 1, none⟩ = some (.int .i64 (f (i * 3 + 1))) ∧ W.cell? ⟨b2, i * 3 + 2, none⟩ = some (.int .i64 (f (i * 3 + 2)))) ∧ Below w.heap.size w W
theorem EqSOp.below {w : World} {b1 b2 i : Nat} {f : Nat → Int} {W W' : World} (h : EqSOp w b1 b2 i f W) (hb : Below W.heap.size W W') : EqSOp w b1 b2 i f W' := by
  obtain ⟨⟨c0, c1, c2⟩, ⟨d0, d1, d2⟩, h3⟩ := h
  exact ⟨⟨(hb.cell (World.block_lt_of_cell? _ _ c0)).trans c0, (hb.cell (World.block_lt_of_cell? _ _ c1)).trans c1, (hb.cell (World.block_lt_of_cell? _ _ c2)).trans c2⟩, ⟨(hb.cell (World.block_lt_of_cell? _ _ d0)).trans d0, (hb.cell (World.block_lt_of_cell? _ _ d1)).trans d1, (hb.cell (World.block_lt_of_cell? _ _ d2)).trans d2⟩, h3.trans (hb.mono h3.size)⟩
set_option maxRecDepth 100000 in
set_option maxHeartbeats 1000000 in
theorem neqOp_same (x0 x1 x2 : Int) (w : World) :
    Calls Try.prog 37 #[.agg #[.int .i64 x0, .int .i64 x1, .int .i64 x2], .agg #[.int .i64 x0, .int .i64 x1, .int .i64 x2]] w fun e w' => e = .returned (.bool true) ∧ Below w.heap.size w w' := by
  go_enter Try.func37, Try.ntmps37
  go_wp2_with fail
  go_ret
  exact ⟨rfl, ((Below.refl _ _).alloc (Nat.le_refl _) _).alloc (by simp) _⟩
set_option maxRecDepth 100000 in
set_option maxHeartbeats 2000000 in
theorem neqOpS_same (a b : Option Addr) (n ca cb : Nat) (f : Nat → Int) (w : World) (h1 : IsAt a (n * 3) f w) (h2 : IsAt b (n * 3) f w) (hn : n ≤ 1048576) :
    Calls Try.prog 16 #[.slice a n ca, .slice b n cb] w fun e w' => e = .returned (.bool true) ∧ Below w.heap.size w w' := by
  have H1 := Lib.hid h1
  have H2 := Lib.hid h2
  clear h1 h2
  go_enter Try.func16, Try.ntmps16
  go_wp2_with fail
  go_loopw [5] (fun iv wr => ∃ (i : Nat), i ≤ n ∧ iv = .int .i64 i ∧ Hid (Below w.heap.size w wr)) (fun iv _ => n - (intOf iv).toNat)
  case atStart => exact ⟨0, Nat.zero_le _, rfl, Below.refl _ _⟩
  case round =>
    obtain ⟨i, hi, rfl, hB⟩ := hrel
    by_cases hlt : i < n
    · have hltz : (i : Int) < (n : Int) := by omega
      obtain ⟨b1, rfl, k1⟩ := (H1.out.below hB.out).at3 hlt
      obtain ⟨b2, rfl, k2⟩ := (H2.out.below hB.out).at3 hlt
      have HE : Hid (EqSOp w b1 b2 i f wr) := ⟨k1, k2, hB.out⟩
      clear k1 k2 hB
      go_wp2_with fail
      refine wp_region_held_drew (S := EqSOp w b1 b2 i f) (by kernel_rfl) (HE.out.below (Below.refl _ _).drew) (fun hHeld => ?_)
      clear HE
      refine take_do (i := 0) (v := (.slice (some ⟨b1, 0, none⟩) n ca)) rfl (by kernel_rfl) (by kernel_rfl) (by kernel_rfl) (fun _ _ _ h => h) (by rfl) ?_ (by assumption) ?_
      · intro w hSw
        obtain ⟨⟨c0, c1, c2⟩, ⟨d0, d1, d2⟩, _⟩ := hSw
        go_simp
      simp only [Act.put, List.setIfInBounds_toArray, List.set_cons_zero, List.set_cons_succ]
      refine take_do (i := 1) (v := (.int .i64 i)) rfl (by kernel_rfl) (by kernel_rfl) (by kernel_rfl) (fun _ _ _ h => h) (by rfl) ?_ (by assumption) ?_
      · intro w hSw
        obtain ⟨⟨c0, c1, c2⟩, ⟨d0, d1, d2⟩, _⟩ := hSw
        go_simp
      simp only [Act.put, List.setIfInBounds_toArray, List.set_cons_zero, List.set_cons_succ]
      refine take_do (i := 2) (v := (.pointer (some ⟨b1, i * 3, none⟩))) rfl (by kernel_rfl) (by kernel_rfl) (by kernel_rfl) (fun _ _ _ h => h) (by rfl) ?_ (by assumption) ?_
      · intro w hSw
        obtain ⟨⟨c0, c1, c2⟩, ⟨d0, d1, d2⟩, _⟩ := hSw
        go_simp
      simp only [Act.put, List.setIfInBounds_toArray, List.set_cons_zero, List.set_cons_succ]
      refine take_do (i := 3) (v := (.agg #[.int .i64 (f (i * 3)), .int .i64 (f (i * 3 + 1)), .int .i64 (f (i * 3 + 2))])) rfl (by kernel_rfl) (by kernel_rfl) (by kernel_rfl) (fun _ _ _ h => h) (by rfl) ?_ (by assumption) ?_
      · intro w hSw
        obtain ⟨⟨c0, c1, c2⟩, ⟨d0, d1, d2⟩, _⟩ := hSw
        go_simp
      simp only [Act.put, List.setIfInBounds_toArray, List.set_cons_zero, List.set_cons_succ]
      refine take_do (i := 4) (v := (.slice (some ⟨b2, 0, none⟩) n cb)) rfl (by kernel_rfl) (by kernel_rfl) (by kernel_rfl) (fun _ _ _ h => h) (by rfl) ?_ (by assumption) ?_
      · intro w hSw
        obtain ⟨⟨c0, c1, c2⟩, ⟨d0, d1, d2⟩, _⟩ := hSw
        go_simp
      simp only [Act.put, List.setIfInBounds_toArray, List.set_cons_zero, List.set_cons_succ]
      refine take_do (i := 5) (v := (.int .i64 i)) rfl (by kernel_rfl) (by kernel_rfl) (by kernel_rfl) (fun _ _ _ h => h) (by rfl) ?_ (by assumption) ?_
      · intro w hSw
        obtain ⟨⟨c0, c1, c2⟩, ⟨d0, d1, d2⟩, _⟩ := hSw
        go_simp
      simp only [Act.put, List.setIfInBounds_toArray, List.set_cons_zero, List.set_cons_succ]
      refine take_do (i := 6) (v := (.pointer (some ⟨b2, i * 3, none⟩))) rfl (by kernel_rfl) (by kernel_rfl) (by kernel_rfl) (fun _ _ _ h => h) (by rfl) ?_ (by assumption) ?_
      · intro w hSw
        obtain ⟨⟨c0, c1, c2⟩, ⟨d0, d1, d2⟩, _⟩ := hSw
        go_simp
      simp only [Act.put, List.setIfInBounds_toArray, List.set_cons_zero, List.set_cons_succ]
      refine take_do (i := 7) (v := (.agg #[.int .i64 (f (i * 3)), .int .i64 (f (i * 3 + 1)), .int .i64 (f (i * 3 + 2))])) rfl (by kernel_rfl) (by kernel_rfl) (by kernel_rfl) (fun _ _ _ h => h) (by rfl) ?_ (by assumption) ?_
      · intro w hSw
        obtain ⟨⟨c0, c1, c2⟩, ⟨d0, d1, d2⟩, _⟩ := hSw
        go_simp
      simp only [Act.put, List.setIfInBounds_toArray, List.set_cons_zero, List.set_cons_succ]
      refine take_call (i := 8) rfl (by kernel_rfl) (fun K2 hK => ?_)
      go_simp
      refine (neqOp_same (f (i * 3)) (f (i * 3 + 1)) (f (i * 3 + 2)) _).mono ?_
      rintro e w1 ⟨rfl, hb⟩
      go_wp2_with fail
      refine hK.out _ _ (hHeld.below hb) (fun hHeld2 => ?_)
      clear hK hHeld hb
      have hHeld := hHeld2
      clear hHeld2
      refine take_do (i := 9) (v := (.bool false)) rfl (by kernel_rfl) (by kernel_rfl) (by kernel_rfl) (fun _ _ _ h => h) (by rfl) ?_ (by assumption) ?_
      · intro w hSw
        obtain ⟨⟨c0, c1, c2⟩, ⟨d0, d1, d2⟩, _⟩ := hSw
        go_simp
      simp only [Act.put, List.setIfInBounds_toArray, List.set_cons_zero, List.set_cons_succ]
      refine wpAnyH_done (by kernel_rfl) ?_ _
      have HB1 := Lib.hid hHeld.2.2
      clear hHeld
      go_wp2_with fail
      go_roundw
      case rel => exact ⟨i + 1, by omega, by go_num, HB1⟩
      case measure => simp [intOf]; omega
    · obtain rfl : i = n := by omega
      go_wp2_with fail
      go_ret
      exact ⟨rfl, hB.out⟩
set_option maxRecDepth 100000 in
set_option maxHeartbeats 2000000 in
theorem nmarkOpS_any (g n c k : Nat) (f : Nat → Int) (w : World) (h : IsBlk 61 g (n * 3) f w) (hn : n ≤ 1048576) (hk : k ≤ 1073741824) :
    Calls Try.prog 17 #[.slice (some ⟨g, 0, none⟩) n c, .int .i64 k] w fun e w' => e = .returned (.int .i64 ((k + n * 3 : Nat) : Int)) ∧ IsBlk 61 g (n * 3) (mk1 k) w' ∧ Only g w w' := by
  obtain ⟨M, F0, hM, hR, _⟩ := h
  have H : Hid (IsPart 61 g M 0 (mk1 k) w) := ⟨F0, hR, fun j hj => absurd hj (Nat.not_lt_zero _)⟩
  clear hR
  go_enter Try.func17, Try.ntmps17
  go_wp2_with fail
  go_loopw [1, 5] (fun kv iv wr => ∃ (i : Nat), i ≤ n ∧ kv = .int .i64 ((k + i * 3 : Nat) : Int) ∧ iv = .int .i64 i ∧ Hid (IsPart 61 g M (i * 3) (mk1 k) wr) ∧ Hid (Only g w wr)) (fun _ iv _ => n - (intOf iv).toNat)
  case atStart => exact ⟨0, Nat.zero_le _, by simp, rfl, by simpa using H, Only.refl _ _⟩
  case round =>
    obtain ⟨i, hi, rfl, rfl, hP, hO⟩ := hrel
    clear H
    by_cases hlt : i < n
    · have hltz : (i : Int) < (n : Int) := by omega
      obtain ⟨v0, y0⟩ := hP.out.cell (j := i * 3) (by omega)
      have z0 := hP.out.frozen (i * 3)
      obtain ⟨v1, y1⟩ := hP.out.cell (j := i * 3 + 1) (by omega)
      have z1 := hP.out.frozen (i * 3 + 1)
      obtain ⟨v2, y2⟩ := hP.out.cell (j := i * 3 + 2) (by omega)
      have z2 := hP.out.frozen (i * 3 + 2)
      have zg : g < wr.heap.size := hP.out.lt
      obtain ⟨K, hK⟩ : ∃ K : Nat, K = k + i * 3 := ⟨_, rfl⟩
      rw [← hK]
      have hK2 : K ≤ 2147483648 := by omega
      have HP5 := Lib.hid ((((hP.out.put ((K : Int)) (by unfold mk1; omega)).put ((K : Int) + 1) (by unfold mk1; omega)).put ((K : Int) + 1 + 1) (by unfold mk1; omega)))
      have HO5 := Lib.hid ((((hO.out.set (i * 3) (.int .i64 ((K : Int)))).set (i * 3 + 1) (.int .i64 ((K : Int) + 1))).set (i * 3 + 2) (.int .i64 ((K : Int) + 1 + 1))))
      have HKE : Hid (K = k + i * 3) := hK
      clear hP hO hK
      go_wp2_with fail
      go_roundw
      case rel =>
        refine ⟨i + 1, by omega, ?_, by go_num, by rw [Nat.succ_mul]; exact HP5, HO5⟩
        have := HKE.out
        congr 1; omega
      case measure => simp [intOf]; omega
    · obtain rfl : i = n := by omega
      go_wp2_with fail
      go_ret
      exact ⟨rfl, hP.out.full (by omega), hO.out⟩
set_option maxRecDepth 100000 in
set_option maxHeartbeats 2000000 in
theorem nmarkOpS_nil (k : Nat) (w : World) :
    Calls Try.prog 17 #[.slice none 0 0, .int .i64 k] w fun e w' => e = .returned (.int .i64 k) ∧ w' = w := by
  go_enter Try.func17, Try.ntmps17
  go_wp2_with fail
  go_loopw [1, 5] (fun kv iv wr => kv = .int .i64 k ∧ iv = .int .i64 0 ∧ wr = w) (fun _ _ _ => 0)
  case atStart => exact ⟨rfl, rfl, rfl⟩
  case round =>
    obtain ⟨rfl, rfl, rfl⟩ := hrel
    go_wp2_with fail
    go_ret
    exact ⟨rfl, rfl⟩
set_option maxRecDepth 100000 in
set_option maxHeartbeats 2000000 in
theorem nheldOpS_any (g n c k : Nat) (w : World) (h : IsBlk 61 g (n * 3) (mk1 k) w) (hn : n ≤ 1048576) (hk : k ≤ 1073741824) :
    Calls Try.prog 18 #[.slice (some ⟨g, 0, none⟩) n c, .int .i64 k] w fun e w' => e = .returned (.int .i64 ((k + n * 3 : Nat) : Int)) ∧ w' = w := by
  have H := Lib.hid h
  clear h
  go_enter Try.func18, Try.ntmps18
  go_wp2_with fail
  go_loopw [1, 5] (fun kv iv wr => ∃ (i : Nat), i ≤ n ∧ kv = .int .i64 ((k + i * 3 : Nat) : Int) ∧ iv = .int .i64 i ∧ Hid (wr = w)) (fun _ iv _ => n - (intOf iv).toNat)
  case atStart => exact ⟨0, Nat.zero_le _, by simp, rfl, rfl⟩
  case round =>
    obtain ⟨i, hi, rfl, rfl, hW⟩ := hrel
    obtain rfl := hW.out
    clear hW
    by_cases hlt : i < n
    · have hltz : (i : Int) < (n : Int) := by omega
      obtain ⟨K, hK⟩ : ∃ K : Nat, K = k + i * 3 := ⟨_, rfl⟩
      have c0 : wr.cell? ⟨g, i * 3, none⟩ = some (.int .i64 ((K : Int))) := (H.out.cell (i := i * 3) (by omega)).trans (by unfold mk1; rw [hK])
      have c1 : wr.cell? ⟨g, i * 3 + 1, none⟩ = some (.int .i64 ((K : Int) + 1)) := (H.out.cell (i := i * 3 + 1) (by omega)).trans (by unfold mk1; rw [hK]; simp; omega)
      have c2 : wr.cell? ⟨g, i * 3 + 2, none⟩ = some (.int .i64 ((K : Int) + 1 + 1)) := (H.out.cell (i := i * 3 + 2) (by omega)).trans (by unfold mk1; rw [hK]; simp; omega)
      rw [← hK]
      have hK2 : K ≤ 2147483648 := by omega
      have HKE : Hid (K = k + i * 3) := hK
      clear hK
      go_wp2_with fail
      go_roundw
      case rel =>
        refine ⟨i + 1, by omega, ?_, by go_num, by first | exact rfl | exact (trivial : True)⟩
        have := HKE.out
        congr 1; omega
      case measure => simp [intOf]; omega
    · obtain rfl : i = n := by omega
      go_wp2_with fail
      go_ret
      exact ⟨rfl, rfl⟩
set_option maxRecDepth 100000 in
set_option maxHeartbeats 2000000 in
theorem nheldOpS_nil (k : Nat) (w : World) :
    Calls Try.prog 18 #[.slice none 0 0, .int .i64 k] w fun e w' => e = .returned (.int .i64 k) ∧ w' = w := by
  go_enter Try.func18, Try.ntmps18
  go_wp2_with fail
  go_loopw [1, 5] (fun kv iv wr => kv = .int .i64 k ∧ iv = .int .i64 0 ∧ wr = w) (fun _ _ _ => 0)
  case atStart => exact ⟨rfl, rfl, rfl⟩
  case round =>
    obtain ⟨rfl, rfl, rfl⟩ := hrel
    go_wp2_with fail
    go_ret
    exact ⟨rfl, rfl⟩
end Go.Proofs.Ytgkdnpnnmmpnmaa
