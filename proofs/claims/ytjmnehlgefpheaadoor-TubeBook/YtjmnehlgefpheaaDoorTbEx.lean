/-
  The laws' conversions, comparisons and marks of parcels and of tubes.
-/
import Derived.Test.YtjmnehlgefpheaaDoorTbMem
import Derived.Test.YtjmnehlgefpheaaDoorReg
namespace Go.Proofs.YtjmnehlgefpheaaDoor
open Go.RowKit Go.Deep

theorem ninfo_Parcel : (Tryd.prog.info? 38).map (fun i => (i.zero, i.size, i.bytes)) = some (some (.agg #[.int .i64 0, .int .i64 0, .int .i64 0]), 3, 24) := by kernel_rfl
theorem nmk_Parcel (n : Nat) (hn : n ≤ 1048576) (w : World) : (Instr.makeSlice 23 (.int .i64 (n : Int)) (.int .i64 (n : Int))).run Tryd.prog w = .ok (.slice (some ⟨w.heap.size, 0, none⟩) n n) (w.alloc (.cells (madeCells #[.int .i64 0, .int .i64 0, .int .i64 0] (n * 3)) 38)) := by
  obtain ⟨i0, hi, hz0, hz1, hz2⟩ := info_parts ninfo_Parcel
  have := run_make (P := Tryd.prog) w 23 38 i0 _ Tryd.underlying23 hi hz0 .i64 .i64 n n (by omega) (Int.le_refl _) (by rw [hz2]; omega) (by omega)
  rw [hz1] at this
  simp only [Int.toNat_natCast] at this
  exact this
set_option maxRecDepth 100000 in
set_option maxHeartbeats 1000000 in
theorem ntoParcel_any (x0 x1 x2 : Int) (w : World) :
    Calls Tryd.prog 18 #[.agg #[.int .i64 x0, .int .i64 x1, .int .i64 x2]] w fun e w' => e = .returned (.agg #[.int .i64 x0, .int .i64 x1, .int .i64 x2]) ∧ Below w.heap.size w w' := by
  go_enter Tryd.func18, Tryd.ntmps18
  go_wp2_with fail
  exact bodyPost_ret (v := .agg #[.int .i64 x0, .int .i64 x1, .int .i64 x2]) (by simp [results, Tryd.results18, go_sem]) rfl ⟨rfl, (((Below.refl _ _).alloc (Nat.le_refl _) _).alloc (by simp) _).alloc (by simp <;> omega) _⟩
set_option maxRecDepth 100000 in
set_option maxHeartbeats 2000000 in
theorem ntoParcelS_any (a : Option Addr) (n cap : Nat) (f : Nat → Int) (w : World) (h : IsIn a (n * 3) f w) (hn : n ≤ 1048576) :
    Calls Tryd.prog 25 #[.slice a n cap] w fun e w' => (e = .returned (.slice (some ⟨w.heap.size, 0, none⟩) n n) ∧ IsBlk 38 w.heap.size (n * 3) f w') ∧ Below w.heap.size w w' := by
  have hmk := nmk_Parcel n hn
  have H := Lib.hid h
  have HST : Hid (IsPart 38 w.heap.size (n * 3) (0 * 3) f (w.alloc (.cells (madeCells #[.int .i64 0, .int .i64 0, .int .i64 0] (n * 3)) 38))) := ⟨_, made_is _ _ w _ (by intro i hi; simp at hi; have : i = 0 ∨ i = 1 ∨ i = 2 := (by omega); rcases this with rfl | rfl | rfl <;> rfl) (by simp), fun j hj => absurd hj (by omega)⟩
  clear h
  go_enter Tryd.func25, Tryd.ntmps25
  go_wp2_with fail
  clear hmk
  go_loopw [4] (fun iv wr => ∃ (i : Nat), i ≤ n ∧ iv = .int .i64 i ∧ Hid (IsPart 38 w.heap.size (n * 3) (i * 3) f wr) ∧ Hid (Below w.heap.size w wr)) (fun iv _ => n - (intOf iv).toNat)
  case atStart => exact ⟨0, Nat.zero_le _, rfl, HST, (Below.refl _ _).alloc (Nat.le_refl _) _⟩
  case round =>
    obtain ⟨i, hi, rfl, hP, hB⟩ := hrel
    clear HST
    by_cases hlt : i < n
    · have hltz : (i : Int) < (n : Int) := by omega
      obtain ⟨b, o, rfl, c0, c1, c2⟩ := (H.out.below hB.out).at3 hlt
      go_wp2_with fail
      refine (ntoParcel_any (f (i * 3)) (f (i * 3 + 1)) (f (i * 3 + 2)) _).mono ?_
      rintro e w1 ⟨rfl, hb⟩
      have hP1 := hP.out.block (hb.block _ hP.out.lt)
      have HB1 : Hid (Below w.heap.size w w1) := hB.out.trans (hb.mono hB.out.size)
      have HP2 := Lib.hid ((((hP1.put (f (i * 3)) rfl).put (f (i * 3 + 1)) rfl).put (f (i * 3 + 2)) rfl))
      obtain ⟨v0, y0⟩ := hP1.cell (j := i * 3) (by omega)
      have z0 := hP1.frozen (i * 3)
      obtain ⟨v1, y1⟩ := hP1.cell (j := i * 3 + 1) (by omega)
      have z1 := hP1.frozen (i * 3 + 1)
      obtain ⟨v2, y2⟩ := hP1.cell (j := i * 3 + 2) (by omega)
      have z2 := hP1.frozen (i * 3 + 2)
      have hz : w.heap.size < w1.heap.size := hP1.lt
      clear hP1 hb hP hB c0 c1 c2
      go_wp2_with fail
      go_roundw
      case rel => exact ⟨i + 1, by omega, by go_num, by rw [Nat.succ_mul]; exact HP2, (((HB1.out.setCell (p := ⟨w.heap.size, _, none⟩) (Nat.le_refl _) _).setCell (p := ⟨w.heap.size, _, none⟩) (Nat.le_refl _) _).setCell (p := ⟨w.heap.size, _, none⟩) (Nat.le_refl _) _)⟩
      case measure => simp [intOf]; omega
    · obtain rfl : i = n := by omega
      go_wp2_with fail
      go_ret
      exact ⟨⟨rfl, hP.out.full (Nat.le_refl _)⟩, hB.out⟩
theorem nszParcel_in (a : Option Addr) (n cap : Nat) (l : Nat) (w : World) (hn : n ≤ l) (hl : l ≤ 1048576) :
    Calls Tryd.prog 24 #[.slice a n cap, .int .i64 l] w fun e w' => e = .returned (.int .i64 ((l - n : Nat) : Int)) ∧ w' = w := by
  have h1 : ¬ ((l : Int) - (n : Int)) < 0 := by omega
  have h2 : ((l : Int) - (n : Int)) = ((l - n : Nat) : Int) := by omega
  have h3 : ¬ (((l - n : Nat) : Int)) < 0 := by omega
  have h4 : ((l - n : Nat) : Int) ≤ 1048576 := by omega
  have h5 : 0 ≤ ((l - n : Nat) : Int) := by omega
  have h6 : (n : Int) ≤ 1048576 := by omega
  have h7 : (l : Int) ≤ 1048576 := by omega
  go_enter Tryd.func24, Tryd.ntmps24
  go_wp2_with fail
  go_ret
  exact ⟨ret_int (by omega), rfl⟩
theorem nszParcel_over (a : Option Addr) (n cap : Nat) (l : Nat) (w : World) (hn : l < n) (hl : l ≤ 1048576) (hm : n ≤ 9223372036854775807) :
    Calls Tryd.prog 24 #[.slice a n cap, .int .i64 l] w fun e w' => e = .returned (.int .i64 (-1)) ∧ w' = w := by
  have h1 : ((l : Int) - (n : Int)) < 0 := by omega
  have h7 : (l : Int) ≤ 1048576 := by omega
  have h8 : (n : Int) ≤ 9223372036854775807 := by omega
  go_enter Tryd.func24, Tryd.ntmps24
  go_wp2_with fail
  go_ret
  exact ⟨rfl, rfl⟩
/-- What a round of the comparison reads. -/
def EqSParcel (w : World) (b1 b2 i : Nat) (f : Nat → Int) (W : World) : Prop := (W.cell? ⟨b1, i * 3, none⟩ = some (.int .i64 (f (i * 3))) ∧ W.cell? ⟨b1, i * 3 + 1, none⟩ = some (.int .i64 (f (i * 3 + 1))) ∧ W.cell? ⟨b1, i * 3 + 2, none⟩ = some (.int .i64 (f (i * 3 + 2)))) ∧ (W.cell? ⟨b2, i * 3, none⟩ = some (.int .i64 (f (i * 3))) ∧ W.cell? ⟨b2, i * 3 + 1, none⟩ = some (.int .i64 (f (i * 3 + 1))) ∧ W.cell? ⟨b2, i * 3 + 2, none⟩ = some (.int .i64 (f (i * 3 + 2)))) ∧ Below w.heap.size w W
theorem EqSParcel.below {w : World} {b1 b2 i : Nat} {f : Nat → Int} {W W' : World} (h : EqSParcel w b1 b2 i f W) (hb : Below W.heap.size W W') : EqSParcel w b1 b2 i f W' := by
  obtain ⟨⟨c0, c1, c2⟩, ⟨d0, d1, d2⟩, h3⟩ := h
  exact ⟨⟨(hb.cell (World.block_lt_of_cell? _ _ c0)).trans c0, (hb.cell (World.block_lt_of_cell? _ _ c1)).trans c1, (hb.cell (World.block_lt_of_cell? _ _ c2)).trans c2⟩, ⟨(hb.cell (World.block_lt_of_cell? _ _ d0)).trans d0, (hb.cell (World.block_lt_of_cell? _ _ d1)).trans d1, (hb.cell (World.block_lt_of_cell? _ _ d2)).trans d2⟩, h3.trans (hb.mono h3.size)⟩
set_option maxRecDepth 100000 in
set_option maxHeartbeats 1000000 in
theorem neqParcel_same (x0 x1 x2 : Int) (w : World) :
    Calls Tryd.prog 40 #[.agg #[.int .i64 x0, .int .i64 x1, .int .i64 x2], .agg #[.int .i64 x0, .int .i64 x1, .int .i64 x2]] w fun e w' => e = .returned (.bool true) ∧ Below w.heap.size w w' := by
  go_enter Tryd.func40, Tryd.ntmps40
  go_wp2_with fail
  go_ret
  exact ⟨rfl, ((Below.refl _ _).alloc (Nat.le_refl _) _).alloc (by simp) _⟩
set_option maxRecDepth 100000 in
set_option maxHeartbeats 2000000 in
theorem neqParcelS_same (a b : Option Addr) (n ca cb : Nat) (f : Nat → Int) (w : World) (h1 : IsAt a (n * 3) f w) (h2 : IsAt b (n * 3) f w) (hn : n ≤ 1048576) :
    Calls Tryd.prog 26 #[.slice a n ca, .slice b n cb] w fun e w' => e = .returned (.bool true) ∧ Below w.heap.size w w' := by
  have H1 := Lib.hid h1
  have H2 := Lib.hid h2
  clear h1 h2
  go_enter Tryd.func26, Tryd.ntmps26
  go_wp2_with fail
  go_loopw [5] (fun iv wr => ∃ (i : Nat), i ≤ n ∧ iv = .int .i64 i ∧ Hid (Below w.heap.size w wr)) (fun iv _ => n - (intOf iv).toNat)
  case atStart => exact ⟨0, Nat.zero_le _, rfl, Below.refl _ _⟩
  case round =>
    obtain ⟨i, hi, rfl, hB⟩ := hrel
    by_cases hlt : i < n
    · have hltz : (i : Int) < (n : Int) := by omega
      obtain ⟨b1, rfl, k1⟩ := (H1.out.below hB.out).at3 hlt
      obtain ⟨b2, rfl, k2⟩ := (H2.out.below hB.out).at3 hlt
      have HE : Hid (EqSParcel w b1 b2 i f wr) := ⟨k1, k2, hB.out⟩
      clear k1 k2 hB
      go_wp2_with fail
      refine wp_region_held_drew (S := EqSParcel w b1 b2 i f) (by kernel_rfl) (HE.out.below (Below.refl _ _).drew) (fun hHeld => ?_)
      clear HE
      refine take_do (i := 0) (v := (.slice (some ⟨b1, 0, none⟩) n ca)) rfl (by kernel_rfl) (by kernel_rfl) (by kernel_rfl) (fun _ _ _ h => h) (by rfl) ?_ (by assumption) ?_
      · intro w hSw
        obtain ⟨⟨c0, c1, c2⟩, ⟨d0, d1, d2⟩, _⟩ := hSw
        go_simp
      simp only [Act.put, List.setIfInBounds_toArray, List.set_cons_zero, List.set_cons_succ]
      refine take_do (i := 1) (v := (.int .i64 i)) rfl (by kernel_rfl) (by kernel_rfl) (by kernel_rfl) (fun _ _ _ h => h) (by rfl) ?_ (by assumption) ?_
      · intro w hSw
        obtain ⟨⟨c0, c1, c2⟩, ⟨d0, d1, d2⟩, _⟩ := hSw
        go_simp
      simp only [Act.put, List.setIfInBounds_toArray, List.set_cons_zero, List.set_cons_succ]
      refine take_do (i := 2) (v := (.pointer (some ⟨b1, i * 3, none⟩))) rfl (by kernel_rfl) (by kernel_rfl) (by kernel_rfl) (fun _ _ _ h => h) (by rfl) ?_ (by assumption) ?_
      · intro w hSw
        obtain ⟨⟨c0, c1, c2⟩, ⟨d0, d1, d2⟩, _⟩ := hSw
        go_simp
      simp only [Act.put, List.setIfInBounds_toArray, List.set_cons_zero, List.set_cons_succ]
      refine take_do (i := 3) (v := (.agg #[.int .i64 (f (i * 3)), .int .i64 (f (i * 3 + 1)), .int .i64 (f (i * 3 + 2))])) rfl (by kernel_rfl) (by kernel_rfl) (by kernel_rfl) (fun _ _ _ h => h) (by rfl) ?_ (by assumption) ?_
      · intro w hSw
        obtain ⟨⟨c0, c1, c2⟩, ⟨d0, d1, d2⟩, _⟩ := hSw
        go_simp
      simp only [Act.put, List.setIfInBounds_toArray, List.set_cons_zero, List.set_cons_succ]
      refine take_do (i := 4) (v := (.slice (some ⟨b2, 0, none⟩) n cb)) rfl (by kernel_rfl) (by kernel_rfl) (by kernel_rfl) (fun _ _ _ h => h) (by rfl) ?_ (by assumption) ?_
      · intro w hSw
        obtain ⟨⟨c0, c1, c2⟩, ⟨d0, d1, d2⟩, _⟩ := hSw
        go_simp
      simp only [Act.put, List.setIfInBounds_toArray, List.set_cons_zero, List.set_cons_succ]
      refine take_do (i := 5) (v := (.int .i64 i)) rfl (by kernel_rfl) (by kernel_rfl) (by kernel_rfl) (fun _ _ _ h => h) (by rfl) ?_ (by assumption) ?_
      · intro w hSw
        obtain ⟨⟨c0, c1, c2⟩, ⟨d0, d1, d2⟩, _⟩ := hSw
        go_simp
      simp only [Act.put, List.setIfInBounds_toArray, List.set_cons_zero, List.set_cons_succ]
      refine take_do (i := 6) (v := (.pointer (some ⟨b2, i * 3, none⟩))) rfl (by kernel_rfl) (by kernel_rfl) (by kernel_rfl) (fun _ _ _ h => h) (by rfl) ?_ (by assumption) ?_
      · intro w hSw
        obtain ⟨⟨c0, c1, c2⟩, ⟨d0, d1, d2⟩, _⟩ := hSw
        go_simp
      simp only [Act.put, List.setIfInBounds_toArray, List.set_cons_zero, List.set_cons_succ]
      refine take_do (i := 7) (v := (.agg #[.int .i64 (f (i * 3)), .int .i64 (f (i * 3 + 1)), .int .i64 (f (i * 3 + 2))])) rfl (by kernel_rfl) (by kernel_rfl) (by kernel_rfl) (fun _ _ _ h => h) (by rfl) ?_ (by assumption) ?_
      · intro w hSw
        obtain ⟨⟨c0, c1, c2⟩, ⟨d0, d1, d2⟩, _⟩ := hSw
        go_simp
      simp only [Act.put, List.setIfInBounds_toArray, List.set_cons_zero, List.set_cons_succ]
      refine take_call (i := 8) rfl (by kernel_rfl) (fun K2 hK => ?_)
      go_simp
      refine (neqParcel_same (f (i * 3)) (f (i * 3 + 1)) (f (i * 3 + 2)) _).mono ?_
      rintro e w1 ⟨rfl, hb⟩
      go_wp2_with fail
      refine hK.out _ _ (hHeld.below hb) (fun hHeld2 => ?_)
      clear hK hHeld hb
      have hHeld := hHeld2
      clear hHeld2
      refine take_do (i := 9) (v := (.bool false)) rfl (by kernel_rfl) (by kernel_rfl) (by kernel_rfl) (fun _ _ _ h => h) (by rfl) ?_ (by assumption) ?_
      · intro w hSw
        obtain ⟨⟨c0, c1, c2⟩, ⟨d0, d1, d2⟩, _⟩ := hSw
        go_simp
      simp only [Act.put, List.setIfInBounds_toArray, List.set_cons_zero, List.set_cons_succ]
      refine wpAnyH_done (by kernel_rfl) ?_ _
      have HB1 := Lib.hid hHeld.2.2
      clear hHeld
      go_wp2_with fail
      go_roundw
      case rel => exact ⟨i + 1, by omega, by go_num, HB1⟩
      case measure => simp [intOf]; omega
    · obtain rfl : i = n := by omega
      go_wp2_with fail
      go_ret
      exact ⟨rfl, hB.out⟩
set_option maxRecDepth 100000 in
set_option maxHeartbeats 2000000 in
theorem nmarkParcelS_any (g n c k : Nat) (f : Nat → Int) (w : World) (h : IsBlk 38 g (n * 3) f w) (hn : n ≤ 1048576) (hk : k ≤ 16777216) :
    Calls Tryd.prog 27 #[.slice (some ⟨g, 0, none⟩) n c, .int .i64 k] w fun e w' => e = .returned (.int .i64 ((k + n * 3 : Nat) : Int)) ∧ IsBlk 38 g (n * 3) (mk1 k) w' ∧ Only g w w' := by
  obtain ⟨M, F0, hM, hR, _⟩ := h
  have H : Hid (IsPart 38 g M 0 (mk1 k) w) := ⟨F0, hR, fun j hj => absurd hj (Nat.not_lt_zero _)⟩
  clear hR
  go_enter Tryd.func27, Tryd.ntmps27
  go_wp2_with fail
  go_loopw [1, 5] (fun kv iv wr => ∃ (i : Nat), i ≤ n ∧ kv = .int .i64 ((k + i * 3 : Nat) : Int) ∧ iv = .int .i64 i ∧ Hid (IsPart 38 g M (i * 3) (mk1 k) wr) ∧ Hid (Only g w wr)) (fun _ iv _ => n - (intOf iv).toNat)
  case atStart => exact ⟨0, Nat.zero_le _, by simp, rfl, by simpa using H, Only.refl _ _⟩
  case round =>
    obtain ⟨i, hi, rfl, rfl, hP, hO⟩ := hrel
    clear H
    by_cases hlt : i < n
    · have hltz : (i : Int) < (n : Int) := by omega
      obtain ⟨v0, y0⟩ := hP.out.cell (j := i * 3) (by omega)
      have z0 := hP.out.frozen (i * 3)
      obtain ⟨v1, y1⟩ := hP.out.cell (j := i * 3 + 1) (by omega)
      have z1 := hP.out.frozen (i * 3 + 1)
      obtain ⟨v2, y2⟩ := hP.out.cell (j := i * 3 + 2) (by omega)
      have z2 := hP.out.frozen (i * 3 + 2)
      have zg : g < wr.heap.size := hP.out.lt
      obtain ⟨K, hK⟩ : ∃ K : Nat, K = k + i * 3 := ⟨_, rfl⟩
      rw [← hK]
      have hK2 : K ≤ 25165824 := by omega
      have HP5 := Lib.hid ((((hP.out.put ((K : Int)) (by unfold mk1; omega)).put ((K : Int) + 1) (by unfold mk1; omega)).put ((K : Int) + 1 + 1) (by unfold mk1; omega)))
      have HO5 := Lib.hid ((((hO.out.set (i * 3) (.int .i64 ((K : Int)))).set (i * 3 + 1) (.int .i64 ((K : Int) + 1))).set (i * 3 + 2) (.int .i64 ((K : Int) + 1 + 1))))
      have HKE : Hid (K = k + i * 3) := hK
      clear hP hO hK
      go_wp2_with fail
      go_roundw
      case rel =>
        refine ⟨i + 1, by omega, ?_, by go_num, by rw [Nat.succ_mul]; exact HP5, HO5⟩
        have := HKE.out
        congr 1; omega
      case measure => simp [intOf]; omega
    · obtain rfl : i = n := by omega
      go_wp2_with fail
      go_ret
      exact ⟨rfl, hP.out.full (by omega), hO.out⟩
set_option maxRecDepth 100000 in
set_option maxHeartbeats 2000000 in
theorem nmarkParcelS_nil (k : Nat) (w : World) :
    Calls Tryd.prog 27 #[.slice none 0 0, .int .i64 k] w fun e w' => e = .returned (.int .i64 k) ∧ w' = w := by
  go_enter Tryd.func27, Tryd.ntmps27
  go_wp2_with fail
  go_loopw [1, 5] (fun kv iv wr => kv = .int .i64 k ∧ iv = .int .i64 0 ∧ wr = w) (fun _ _ _ => 0)
  case atStart => exact ⟨rfl, rfl, rfl⟩
  case round =>
    obtain ⟨rfl, rfl, rfl⟩ := hrel
    go_wp2_with fail
    go_ret
    exact ⟨rfl, rfl⟩
set_option maxRecDepth 100000 in
set_option maxHeartbeats 2000000 in
theorem nheldParcelS_any (g n c k : Nat) (w : World) (h : IsBlk 38 g (n * 3) (mk1 k) w) (hn : n ≤ 1048576) (hk : k ≤ 16777216) :
    Calls Tryd.prog 39 #[.slice (some ⟨g, 0, none⟩) n c, .int .i64 k] w fun e w' => e = .returned (.int .i64 ((k + n * 3 : Nat) : Int)) ∧ w' = w := by
  have H := Lib.hid h
  clear h
  go_enter Tryd.func39, Tryd.ntmps39
  go_wp2_with fail
  go_loopw [1, 5] (fun kv iv wr => ∃ (i : Nat), i ≤ n ∧ kv = .int .i64 ((k + i * 3 : Nat) : Int) ∧ iv = .int .i64 i ∧ Hid (wr = w)) (fun _ iv _ => n - (intOf iv).toNat)
  case atStart => exact ⟨0, Nat.zero_le _, by simp, rfl, rfl⟩
  case round =>
    obtain ⟨i, hi, rfl, rfl, hW⟩ := hrel
    obtain rfl := hW.out
    clear hW
    by_cases hlt : i < n
    · have hltz : (i : Int) < (n : Int) := by omega
      obtain ⟨K, hK⟩ : ∃ K : Nat, K = k + i * 3 := ⟨_, rfl⟩
      have c0 : wr.cell? ⟨g, i * 3, none⟩ = some (.int .i64 ((K : Int))) := (H.out.cell (i := i * 3) (by omega)).trans (by unfold mk1; rw [hK])
      have c1 : wr.cell? ⟨g, i * 3 + 1, none⟩ = some (.int .i64 ((K : Int) + 1)) := (H.out.cell (i := i * 3 + 1) (by omega)).trans (by unfold mk1; rw [hK]; simp; omega)
      have c2 : wr.cell? ⟨g, i * 3 + 2, none⟩ = some (.int .i64 ((K : Int) + 1 + 1)) := (H.out.cell (i := i * 3 + 2) (by omega)).trans (by unfold mk1; rw [hK]; simp; omega)
      rw [← hK]
      have hK2 : K ≤ 25165824 := by omega
      have HKE : Hid (K = k + i * 3) := hK
      clear hK
      go_wp2_with fail
      go_roundw
      case rel =>
        refine ⟨i + 1, by omega, ?_, by go_num, by first | exact rfl | exact (trivial : True)⟩
        have := HKE.out
        congr 1; omega
      case measure => simp [intOf]; omega
    · obtain rfl : i = n := by omega
      go_wp2_with fail
      go_ret
      exact ⟨rfl, rfl⟩
set_option maxRecDepth 100000 in
set_option maxHeartbeats 2000000 in
theorem nheldParcelS_nil (k : Nat) (w : World) :
    Calls Tryd.prog 39 #[.slice none 0 0, .int .i64 k] w fun e w' => e = .returned (.int .i64 k) ∧ w' = w := by
  go_enter Tryd.func39, Tryd.ntmps39
  go_wp2_with fail
  go_loopw [1, 5] (fun kv iv wr => kv = .int .i64 k ∧ iv = .int .i64 0 ∧ wr = w) (fun _ _ _ => 0)
  case atStart => exact ⟨rfl, rfl, rfl⟩
  case round =>
    obtain ⟨rfl, rfl, rfl⟩ := hrel
    go_wp2_with fail
    go_ret
    exact ⟨rfl, rfl⟩
theorem nmarkPs_any (B n c k : Nat) (a : Option Addr) (f : Nat → Int) (w : World) (h : OwL 38 B (n * 3) a c f w) (hc : a = none → n = 0 ∧ c = 0) (hn : n ≤ 1048576) (hk : k ≤ 16777216) :
    Calls Tryd.prog 27 #[.slice a n c, .int .i64 k] w fun e w' => e = .returned (.int .i64 ((k + n * 3 : Nat) : Int)) ∧ OwL 38 B (n * 3) a c (mk1 k) w' ∧ OnlyO a w w' := by
  rcases h with ⟨rfl, h2, rfl⟩ | ⟨g, rfl, h1, h2⟩
  · obtain ⟨rfl, _⟩ := hc rfl
    exact (nmarkParcelS_nil k w).mono (fun e w' ⟨he, hw⟩ => ⟨he, Or.inl ⟨rfl, rfl, rfl⟩, by rw [hw]; exact ⟨rfl, rfl, rfl, Nat.le_refl _, fun _ _ _ => rfl⟩⟩)
  · exact (nmarkParcelS_any g n c k f w h2 hn hk).mono (fun e w' ⟨he, hi, ho⟩ => ⟨he, Or.inr ⟨g, rfl, h1, hi⟩, ho.os, ho.tape, ho.output, ho.size, fun j hj hne => ho.block j hj (fun e => hne (by rw [e]))⟩)
/-- What is left: below nought, or all is small. -/
def SzT (l n : Nat) (e : Ending) : Prop := (∃ z : Int, e = .returned (.int .i64 z) ∧ z < 0) ∨ (n ≤ l ∧ e = .returned (.int .i64 ((l - n : Nat) : Int)))
set_option maxRecDepth 100000 in
set_option maxHeartbeats 2000000 in
theorem szTube_any (r : Int) (a : Option Addr) (n k l : Nat) (w : World) (hl : l ≤ 1048576) (hm : n ≤ 9223372036854775807) :
    Calls Tryd.prog 15 #[tbV r a n k, .int .i64 l] w fun e w' => SzT l n e ∧ Below w.heap.size w w' := by
  have hB := Lib.hid ((Below.refl w.heap.size w).alloc (Nat.le_refl _) (.cells #[.int .i64 r, .slice a n k] 41))
  by_cases h1 : n ≤ l
  · have hz : ¬ ((l - n : Nat) : Int) < 0 := by omega
    go_enter Tryd.func15, Tryd.ntmps15
    go_wp2_with fail
    refine (nszParcel_in a n k l _ h1 hl).mono ?_
    rintro e w1 ⟨rfl, rfl⟩
    go_wp2_with fail
    go_ret
    exact ⟨Or.inr ⟨h1, rfl⟩, hB.out⟩
  · go_enter Tryd.func15, Tryd.ntmps15
    go_wp2_with fail
    refine (nszParcel_over a n k l _ (by omega) hl hm).mono ?_
    rintro e w1 ⟨rfl, rfl⟩
    go_wp2_with fail
    go_ret
    exact ⟨Or.inl ⟨_, rfl, by omega⟩, hB.out⟩
set_option maxRecDepth 100000 in
set_option maxHeartbeats 4000000 in
theorem toTube_any (r : Int) (a : Option Addr) (n k : Nat) (f : Nat → Int) (w : World) (h1 : IsIn a (n * 3) f w) (hn : n ≤ 1048576) :
    Calls Tryd.prog 17 #[tbV r a n k] w fun e w' => (∃ g, e = .returned (tbV r (some ⟨g, 0, none⟩) n n) ∧ w.heap.size ≤ g ∧ IsBlk 38 g (n * 3) f w') ∧ Below w.heap.size w w' := by
  obtain ⟨W, hW⟩ : ∃ W, W = ((w.alloc (.cells #[.int .i64 r, .slice a n k] 41)).alloc (.cells #[.int .i64 0, .slice none 0 0] 25)).alloc (.cells #[.int .i64 r, .slice none 0 0] 25) := ⟨_, rfl⟩
  have hsz : W.heap.size = w.heap.size + 3 := by rw [hW]; simp
  have hB : Below w.heap.size w W := by rw [hW]; exact (((Below.refl _ _).alloc (Nat.le_refl _) _).alloc (by simp) _).alloc (by simp; omega) _
  have RO : W.rowIs (w.heap.size + 1) 25 2 (rowN [.int .i64 0, .slice none 0 0]) := by
    rw [hW]; exact nrow_below (rowN_alloc' (by simp) _ _) (nbel_alloc _ _)
  have RP : W.rowIs (w.heap.size + 1 + 1) 25 2 (rowN [.int .i64 r, .slice none 0 0]) := by
    rw [hW]; exact rowN_alloc' (by simp) _ _
  have HW := Lib.hid hW
  have HB := Lib.hid hB
  have H1 := Lib.hid h1
  have HRO := Lib.hid RO
  have HRP := Lib.hid RP
  have HSZ := Lib.hid hsz
  clear hW hB h1 RO RP hsz
  go_enter Tryd.func17, Tryd.ntmps17
  go_wp2_with fail
  rw [← HW.out]
  refine (ntoParcelS_any a n k f _ (H1.out.below HB.out) hn).mono ?_
  rintro e w1 ⟨⟨rfl, hk1⟩, hb1⟩
  have RP1 := nrow_below HRP.out hb1
  have RO1 := nrow_below HRO.out hb1
  have HB1 : Hid (Below w.heap.size w w1) := HB.out.trans (hb1.mono HB.out.size)
  have HK1 := Lib.hid hk1
  obtain ⟨⟨p0, p1⟩, z0, z1⟩ := rowN2 RP1
  obtain ⟨⟨o0, o1⟩, y0, y1⟩ := rowN2 RO1
  have HRO1 := Lib.hid RO1
  have hl1 : w.heap.size + 1 + 1 < w1.heap.size := RP1.lt
  have HS3 := Lib.hid HSZ.out
  clear RP1 RO1 hb1 hk1
  go_wp2_with fail
  have s3 := HS3.out
  refine bodyPost_ret (v := tbV r (some ⟨W.heap.size, 0, none⟩) n n) ?_ rfl ⟨⟨W.heap.size, rfl, by omega, ?_⟩, ?_⟩
  · obtain ⟨⟨x0, x1⟩, _⟩ := rowN2 (rowN_put (rowN_put (nrow_set HRO1.out (p := ⟨w.heap.size + 1 + 1, 1, none⟩) (by show w.heap.size + 1 ≠ w.heap.size + 1 + 1; omega) (.slice (some ⟨W.heap.size, 0, none⟩) n n)) 0 (.int .i64 r) (by simp)) 1 (.slice (some ⟨W.heap.size, 0, none⟩) n n) (by simp))
    simp only [results, Tryd.results17]
    simp [go_sem, x0, x1]
  · exact ((HK1.out.block (Below.heap_setCell _ ⟨w.heap.size + 1 + 1, 1, none⟩ _ _ (by show W.heap.size ≠ w.heap.size + 1 + 1; omega))).block (Below.heap_setCell _ ⟨w.heap.size + 1, 0, none⟩ _ _ (by show W.heap.size ≠ w.heap.size + 1; omega))).block (Below.heap_setCell _ ⟨w.heap.size + 1, 1, none⟩ _ _ (by show W.heap.size ≠ w.heap.size + 1; omega))
  · exact ((HB1.out.setCell (p := ⟨w.heap.size + 1 + 1, 1, none⟩) (by show w.heap.size ≤ w.heap.size + 1 + 1; omega) _).setCell (p := ⟨w.heap.size + 1, 0, none⟩) (by show w.heap.size ≤ w.heap.size + 1; omega) _).setCell (p := ⟨w.heap.size + 1, 1, none⟩) (by show w.heap.size ≤ w.heap.size + 1; omega) _
set_option maxRecDepth 100000 in
set_option maxHeartbeats 4000000 in
theorem eqTube_same (r : Int) (a b : Option Addr) (n ka kb : Nat) (f : Nat → Int) (w : World) (h1 : IsAt a (n * 3) f w) (h2 : IsAt b (n * 3) f w) (hn : n ≤ 1048576) :
    Calls Tryd.prog 20 #[tbV r a n ka, tbV r b n kb] w fun e w' => e = .returned (.bool true) ∧ Below w.heap.size w w' := by
  obtain ⟨W, hW⟩ : ∃ W, W = (w.alloc (.cells #[.int .i64 r, .slice a n ka] 25)).alloc (.cells #[.int .i64 r, .slice b n kb] 25) := ⟨_, rfl⟩
  have hB : Below w.heap.size w W := by rw [hW]; exact ((Below.refl _ _).alloc (Nat.le_refl _) _).alloc (by simp) _
  have HW := Lib.hid hW
  have HB := Lib.hid hB
  have H1 := Lib.hid h1
  have H2 := Lib.hid h2
  clear hW hB h1 h2
  go_enter Tryd.func20, Tryd.ntmps20
  go_wp2_with fail
  rw [← HW.out]
  refine (neqParcelS_same a b n ka kb f _ (H1.out.below HB.out) (H2.out.below HB.out) hn).mono ?_
  rintro e w1 ⟨rfl, hb1⟩
  have HB1 : Hid (Below w.heap.size w w1) := HB.out.trans (hb1.mono HB.out.size)
  clear hb1
  go_wp2_with fail
  go_ret
  exact ⟨rfl, HB1.out⟩
end Go.Proofs.YtjmnehlgefpheaaDoor
