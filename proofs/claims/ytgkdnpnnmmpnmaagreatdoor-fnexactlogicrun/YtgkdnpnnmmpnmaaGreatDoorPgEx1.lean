/-
  The laws' conversions, comparisons, sizes and marks of blocks and of pairs.
-/
import Derived.Test.YtgkdnpnnmmpnmaaGreatDoorNtEx1
import Derived.Test.YtgkdnpnnmmpnmaaGreatDoorPgMem
import Derived.Test.YtgkdnpnnmmpnmaaGreatDoorMarkText
namespace Go.Proofs.YtgkdnpnnmmpnmaaGreatDoor
open Go.RowKit Go.Deep

theorem ninfo_Pair : (Tryz.prog.info? 50).map (fun i => (i.zero, i.size, i.bytes)) = some (some (.agg #[.int .i64 0, .int .i64 0]), 2, 16) := by kernel_rfl
theorem nmk_Pair (n : Nat) (hn : n ≤ 1048576) (w : World) : (Instr.makeSlice 25 (.int .i64 (n : Int)) (.int .i64 (n : Int))).run Tryz.prog w = .ok (.slice (some ⟨w.heap.size, 0, none⟩) n n) (w.alloc (.cells (madeCells #[.int .i64 0, .int .i64 0] (n * 2)) 50)) := by
  obtain ⟨i0, hi, hz0, hz1, hz2⟩ := info_parts ninfo_Pair
  have := run_make (P := Tryz.prog) w 25 50 i0 _ Tryz.underlying25 hi hz0 .i64 .i64 n n (by omega) (Int.le_refl _) (by rw [hz2]; omega) (by omega)
  rw [hz1] at this
  simp only [Int.toNat_natCast] at this
  exact this
set_option maxRecDepth 100000 in
set_option maxHeartbeats 1000000 in
theorem ntoPair_any (x0 x1 : Int) (w : World) :
    Calls Tryz.prog 104 #[.agg #[.int .i64 x0, .int .i64 x1]] w fun e w' => e = .returned (.agg #[.int .i64 x0, .int .i64 x1]) ∧ Below w.heap.size w w' := by
  go_enter Tryz.func104, Tryz.ntmps104
  go_wp2_with fail
  exact bodyPost_ret (v := .agg #[.int .i64 x0, .int .i64 x1]) (by simp [results, Tryz.results104, go_sem]) rfl ⟨rfl, (((Below.refl _ _).alloc (Nat.le_refl _) _).alloc (by simp) _).alloc (by simp <;> omega) _⟩
set_option maxRecDepth 100000 in
set_option maxHeartbeats 2000000 in
theorem ntoPairS_any (a : Option Addr) (n cap : Nat) (f : Nat → Int) (w : World) (h : IsIn a (n * 2) f w) (hn : n ≤ 1048576) :
    Calls Tryz.prog 73 #[.slice a n cap] w fun e w' => (e = .returned (.slice (some ⟨w.heap.size, 0, none⟩) n n) ∧ IsBlk 50 w.heap.size (n * 2) f w') ∧ Below w.heap.size w w' := by
  have hmk := nmk_Pair n hn
  have H := Lib.hid h
  have HST : Hid (IsPart 50 w.heap.size (n * 2) (0 * 2) f (w.alloc (.cells (madeCells #[.int .i64 0, .int .i64 0] (n * 2)) 50))) := ⟨_, made_is _ _ w _ (by intro i hi; simp at hi; have : i = 0 ∨ i = 1 := (by omega); rcases this with rfl | rfl <;> rfl) (by simp), fun j hj => absurd hj (by omega)⟩
  clear h
  go_enter Tryz.func73, Tryz.ntmps73
  go_wp2_with fail
  clear hmk
  go_loopw [4] (fun iv wr => ∃ (i : Nat), i ≤ n ∧ iv = .int .i64 i ∧ Hid (IsPart 50 w.heap.size (n * 2) (i * 2) f wr) ∧ Hid (Below w.heap.size w wr)) (fun iv _ => n - (intOf iv).toNat)
  case atStart => exact ⟨0, Nat.zero_le _, rfl, HST, (Below.refl _ _).alloc (Nat.le_refl _) _⟩
  case round =>
    obtain ⟨i, hi, rfl, hP, hB⟩ := hrel
    clear HST
    by_cases hlt : i < n
    · have hltz : (i : Int) < (n : Int) := by omega
      obtain ⟨b, o, rfl, c0, c1⟩ := (H.out.below hB.out).at2 hlt
      go_wp2_with fail
      refine (ntoPair_any (f (i * 2)) (f (i * 2 + 1)) _).mono ?_
      rintro e w1 ⟨rfl, hb⟩
      have hP1 := hP.out.block (hb.block _ hP.out.lt)
      have HB1 : Hid (Below w.heap.size w w1) := hB.out.trans (hb.mono hB.out.size)
      have HP2 := Lib.hid (((hP1.put (f (i * 2)) rfl).put (f (i * 2 + 1)) rfl))
      obtain ⟨v0, y0⟩ := hP1.cell (j := i * 2) (by omega)
      have z0 := hP1.frozen (i * 2)
      obtain ⟨v1, y1⟩ := hP1.cell (j := i * 2 + 1) (by omega)
      have z1 := hP1.frozen (i * 2 + 1)
      have hz : w.heap.size < w1.heap.size := hP1.lt
      clear hP1 hb hP hB c0 c1
      go_wp2_with fail
      go_roundw
      case rel => exact ⟨i + 1, by omega, by go_num, by rw [Nat.succ_mul]; exact HP2, ((HB1.out.setCell (p := ⟨w.heap.size, _, none⟩) (Nat.le_refl _) _).setCell (p := ⟨w.heap.size, _, none⟩) (Nat.le_refl _) _)⟩
      case measure => simp [intOf]; omega
    · obtain rfl : i = n := by omega
      go_wp2_with fail
      go_ret
      exact ⟨⟨rfl, hP.out.full (Nat.le_refl _)⟩, hB.out⟩
theorem nszPair_in (a : Option Addr) (n cap : Nat) (l : Nat) (w : World) (hn : n ≤ l) (hl : l ≤ 1048576) :
    Calls Tryz.prog 66 #[.slice a n cap, .int .i64 l] w fun e w' => e = .returned (.int .i64 ((l - n : Nat) : Int)) ∧ w' = w := by
  have h1 : ¬ ((l : Int) - (n : Int)) < 0 := by omega
  have h2 : ((l : Int) - (n : Int)) = ((l - n : Nat) : Int) := by omega
  have h3 : ¬ (((l - n : Nat) : Int)) < 0 := by omega
  have h4 : ((l - n : Nat) : Int) ≤ 1048576 := by omega
  have h5 : 0 ≤ ((l - n : Nat) : Int) := by omega
  have h6 : (n : Int) ≤ 1048576 := by omega
  have h7 : (l : Int) ≤ 1048576 := by omega
  go_enter Tryz.func66, Tryz.ntmps66
  go_wp2_with fail
  go_ret
  exact ⟨ret_int (by omega), rfl⟩
theorem nszPair_over (a : Option Addr) (n cap : Nat) (l : Nat) (w : World) (hn : l < n) (hl : l ≤ 1048576) (hm : n ≤ 9223372036854775807) :
    Calls Tryz.prog 66 #[.slice a n cap, .int .i64 l] w fun e w' => e = .returned (.int .i64 (-1)) ∧ w' = w := by
  have h1 : ((l : Int) - (n : Int)) < 0 := by omega
  have h7 : (l : Int) ≤ 1048576 := by omega
  have h8 : (n : Int) ≤ 9223372036854775807 := by omega
  go_enter Tryz.func66, Tryz.ntmps66
  go_wp2_with fail
  go_ret
  exact ⟨rfl, rfl⟩
/-- What a round of the comparison reads. -/
def EqSPair (w : World) (b1 b2 i : Nat) (f : Nat → Int) (W : World) : Prop := (W.cell? ⟨b1, i * 2, none⟩ = some (.int .i64 (f (i * 2))) ∧ W.cell? ⟨b1, i * 2 + 1, none⟩ = some (.int .i64 (f (i * 2 + 1)))) ∧ (W.cell? ⟨b2, i * 2, none⟩ = some (.int .i64 (f (i * 2))) ∧ W.cell? ⟨b2, i * 2 + 1, none⟩ = some (.int .i64 (f (i * 2 + 1)))) ∧ Below w.heap.size w W
theorem EqSPair.below {w : World} {b1 b2 i : Nat} {f : Nat → Int} {W W' : World} (h : EqSPair w b1 b2 i f W) (hb : Below W.heap.size W W') : EqSPair w b1 b2 i f W' := by
  obtain ⟨⟨c0, c1⟩, ⟨d0, d1⟩, h3⟩ := h
  exact ⟨⟨(hb.cell (World.block_lt_of_cell? _ _ c0)).trans c0, (hb.cell (World.block_lt_of_cell? _ _ c1)).trans c1⟩, ⟨(hb.cell (World.block_lt_of_cell? _ _ d0)).trans d0, (hb.cell (World.block_lt_of_cell? _ _ d1)).trans d1⟩, h3.trans (hb.mono h3.size)⟩
set_option maxRecDepth 100000 in
set_option maxHeartbeats 1000000 in
theorem neqPair_same (x0 x1 : Int) (w : World) :
    Calls Tryz.prog 106 #[.agg #[.int .i64 x0, .int .i64 x1], .agg #[.int .i64 x0, .int .i64 x1]] w fun e w' => e = .returned (.bool true) ∧ Below w.heap.size w w' := by
  go_enter Tryz.func106, Tryz.ntmps106
  go_wp2_with fail
  go_ret
  exact ⟨rfl, ((Below.refl _ _).alloc (Nat.le_refl _) _).alloc (by simp) _⟩
set_option maxRecDepth 100000 in
set_option maxHeartbeats 2000000 in
theorem neqPairS_same (a b : Option Addr) (n ca cb : Nat) (f : Nat → Int) (w : World) (h1 : IsAt a (n * 2) f w) (h2 : IsAt b (n * 2) f w) (hn : n ≤ 1048576) :
    Calls Tryz.prog 75 #[.slice a n ca, .slice b n cb] w fun e w' => e = .returned (.bool true) ∧ Below w.heap.size w w' := by
  have H1 := Lib.hid h1
  have H2 := Lib.hid h2
  clear h1 h2
  go_enter Tryz.func75, Tryz.ntmps75
  go_wp2_with fail
  go_loopw [5] (fun iv wr => ∃ (i : Nat), i ≤ n ∧ iv = .int .i64 i ∧ Hid (Below w.heap.size w wr)) (fun iv _ => n - (intOf iv).toNat)
  case atStart => exact ⟨0, Nat.zero_le _, rfl, Below.refl _ _⟩
  case round =>
    obtain ⟨i, hi, rfl, hB⟩ := hrel
    by_cases hlt : i < n
    · have hltz : (i : Int) < (n : Int) := by omega
      obtain ⟨b1, rfl, k1⟩ := (H1.out.below hB.out).at2 hlt
      obtain ⟨b2, rfl, k2⟩ := (H2.out.below hB.out).at2 hlt
      have HE : Hid (EqSPair w b1 b2 i f wr) := ⟨k1, k2, hB.out⟩
      clear k1 k2 hB
      go_wp2_with fail
      refine wp_region_held_drew (S := EqSPair w b1 b2 i f) (by kernel_rfl) (HE.out.below (Below.refl _ _).drew) (fun hHeld => ?_)
      clear HE
      refine take_do (i := 0) (v := (.slice (some ⟨b1, 0, none⟩) n ca)) rfl (by kernel_rfl) (by kernel_rfl) (by kernel_rfl) (fun _ _ _ h => h) (by rfl) ?_ (by assumption) ?_
      · intro w hSw
        obtain ⟨⟨c0, c1⟩, ⟨d0, d1⟩, _⟩ := hSw
        go_simp
      simp only [Act.put, List.setIfInBounds_toArray, List.set_cons_zero, List.set_cons_succ]
      refine take_do (i := 1) (v := (.int .i64 i)) rfl (by kernel_rfl) (by kernel_rfl) (by kernel_rfl) (fun _ _ _ h => h) (by rfl) ?_ (by assumption) ?_
      · intro w hSw
        obtain ⟨⟨c0, c1⟩, ⟨d0, d1⟩, _⟩ := hSw
        go_simp
      simp only [Act.put, List.setIfInBounds_toArray, List.set_cons_zero, List.set_cons_succ]
      refine take_do (i := 2) (v := (.pointer (some ⟨b1, i * 2, none⟩))) rfl (by kernel_rfl) (by kernel_rfl) (by kernel_rfl) (fun _ _ _ h => h) (by rfl) ?_ (by assumption) ?_
      · intro w hSw
        obtain ⟨⟨c0, c1⟩, ⟨d0, d1⟩, _⟩ := hSw
        go_simp
      simp only [Act.put, List.setIfInBounds_toArray, List.set_cons_zero, List.set_cons_succ]
      refine take_do (i := 3) (v := (.agg #[.int .i64 (f (i * 2)), .int .i64 (f (i * 2 + 1))])) rfl (by kernel_rfl) (by kernel_rfl) (by kernel_rfl) (fun _ _ _ h => h) (by rfl) ?_ (by assumption) ?_
      · intro w hSw
        obtain ⟨⟨c0, c1⟩, ⟨d0, d1⟩, _⟩ := hSw
        go_simp
      simp only [Act.put, List.setIfInBounds_toArray, List.set_cons_zero, List.set_cons_succ]
      refine take_do (i := 4) (v := (.slice (some ⟨b2, 0, none⟩) n cb)) rfl (by kernel_rfl) (by kernel_rfl) (by kernel_rfl) (fun _ _ _ h => h) (by rfl) ?_ (by assumption) ?_
      · intro w hSw
        obtain ⟨⟨c0, c1⟩, ⟨d0, d1⟩, _⟩ := hSw
        go_simp
      simp only [Act.put, List.setIfInBounds_toArray, List.set_cons_zero, List.set_cons_succ]
      refine take_do (i := 5) (v := (.int .i64 i)) rfl (by kernel_rfl) (by kernel_rfl) (by kernel_rfl) (fun _ _ _ h => h) (by rfl) ?_ (by assumption) ?_
      · intro w hSw
        obtain ⟨⟨c0, c1⟩, ⟨d0, d1⟩, _⟩ := hSw
        go_simp
      simp only [Act.put, List.setIfInBounds_toArray, List.set_cons_zero, List.set_cons_succ]
      refine take_do (i := 6) (v := (.pointer (some ⟨b2, i * 2, none⟩))) rfl (by kernel_rfl) (by kernel_rfl) (by kernel_rfl) (fun _ _ _ h => h) (by rfl) ?_ (by assumption) ?_
      · intro w hSw
        obtain ⟨⟨c0, c1⟩, ⟨d0, d1⟩, _⟩ := hSw
        go_simp
      simp only [Act.put, List.setIfInBounds_toArray, List.set_cons_zero, List.set_cons_succ]
      refine take_do (i := 7) (v := (.agg #[.int .i64 (f (i * 2)), .int .i64 (f (i * 2 + 1))])) rfl (by kernel_rfl) (by kernel_rfl) (by kernel_rfl) (fun _ _ _ h => h) (by rfl) ?_ (by assumption) ?_
      · intro w hSw
        obtain ⟨⟨c0, c1⟩, ⟨d0, d1⟩, _⟩ := hSw
        go_simp
      simp only [Act.put, List.setIfInBounds_toArray, List.set_cons_zero, List.set_cons_succ]
      refine take_call (i := 8) rfl (by kernel_rfl) (fun K2 hK => ?_)
      go_simp
      refine (neqPair_same (f (i * 2)) (f (i * 2 + 1)) _).mono ?_
      rintro e w1 ⟨rfl, hb⟩
      go_wp2_with fail
      refine hK.out _ _ (hHeld.below hb) (fun hHeld2 => ?_)
      clear hK hHeld hb
      have hHeld := hHeld2
      clear hHeld2
      refine take_do (i := 9) (v := (.bool false)) rfl (by kernel_rfl) (by kernel_rfl) (by kernel_rfl) (fun _ _ _ h => h) (by rfl) ?_ (by assumption) ?_
      · intro w hSw
        obtain ⟨⟨c0, c1⟩, ⟨d0, d1⟩, _⟩ := hSw
        go_simp
      simp only [Act.put, List.setIfInBounds_toArray, List.set_cons_zero, List.set_cons_succ]
      refine wpAnyH_done (by kernel_rfl) ?_ _
      have HB1 := Lib.hid hHeld.2.2
      clear hHeld
      go_wp2_with fail
      go_roundw
      case rel => exact ⟨i + 1, by omega, by go_num, HB1⟩
      case measure => simp [intOf]; omega
    · obtain rfl : i = n := by omega
      go_wp2_with fail
      go_ret
      exact ⟨rfl, hB.out⟩
set_option maxRecDepth 100000 in
set_option maxHeartbeats 2000000 in
theorem nmarkPairS_any (g n c k : Nat) (f : Nat → Int) (w : World) (h : IsBlk 50 g (n * 2) f w) (hn : n ≤ 1048576) (hk : k ≤ 16777216) :
    Calls Tryz.prog 77 #[.slice (some ⟨g, 0, none⟩) n c, .int .i64 k] w fun e w' => e = .returned (.int .i64 ((k + n * 2 : Nat) : Int)) ∧ IsBlk 50 g (n * 2) (mk1 k) w' ∧ Only g w w' := by
  obtain ⟨M, F0, hM, hR, _⟩ := h
  have H : Hid (IsPart 50 g M 0 (mk1 k) w) := ⟨F0, hR, fun j hj => absurd hj (Nat.not_lt_zero _)⟩
  clear hR
  go_enter Tryz.func77, Tryz.ntmps77
  go_wp2_with fail
  go_loopw [1, 5] (fun kv iv wr => ∃ (i : Nat), i ≤ n ∧ kv = .int .i64 ((k + i * 2 : Nat) : Int) ∧ iv = .int .i64 i ∧ Hid (IsPart 50 g M (i * 2) (mk1 k) wr) ∧ Hid (Only g w wr)) (fun _ iv _ => n - (intOf iv).toNat)
  case atStart => exact ⟨0, Nat.zero_le _, by simp, rfl, by simpa using H, Only.refl _ _⟩
  case round =>
    obtain ⟨i, hi, rfl, rfl, hP, hO⟩ := hrel
    clear H
    by_cases hlt : i < n
    · have hltz : (i : Int) < (n : Int) := by omega
      obtain ⟨v0, y0⟩ := hP.out.cell (j := i * 2) (by omega)
      have z0 := hP.out.frozen (i * 2)
      obtain ⟨v1, y1⟩ := hP.out.cell (j := i * 2 + 1) (by omega)
      have z1 := hP.out.frozen (i * 2 + 1)
      have zg : g < wr.heap.size := hP.out.lt
      obtain ⟨K, hK⟩ : ∃ K : Nat, K = k + i * 2 := ⟨_, rfl⟩
      rw [← hK]
      have hK2 : K ≤ 25165824 := by omega
      have HP5 := Lib.hid (((hP.out.put ((K : Int)) (by unfold mk1; omega)).put ((K : Int) + 1) (by unfold mk1; omega)))
      have HO5 := Lib.hid (((hO.out.set (i * 2) (.int .i64 ((K : Int)))).set (i * 2 + 1) (.int .i64 ((K : Int) + 1))))
      have HKE : Hid (K = k + i * 2) := hK
      clear hP hO hK
      go_wp2_with fail
      go_roundw
      case rel =>
        refine ⟨i + 1, by omega, ?_, by go_num, by rw [Nat.succ_mul]; exact HP5, HO5⟩
        have := HKE.out
        congr 1; omega
      case measure => simp [intOf]; omega
    · obtain rfl : i = n := by omega
      go_wp2_with fail
      go_ret
      exact ⟨rfl, hP.out.full (by omega), hO.out⟩
set_option maxRecDepth 100000 in
set_option maxHeartbeats 2000000 in
theorem nmarkPairS_nil (k : Nat) (w : World) :
    Calls Tryz.prog 77 #[.slice none 0 0, .int .i64 k] w fun e w' => e = .returned (.int .i64 k) ∧ w' = w := by
  go_enter Tryz.func77, Tryz.ntmps77
  go_wp2_with fail
  go_loopw [1, 5] (fun kv iv wr => kv = .int .i64 k ∧ iv = .int .i64 0 ∧ wr = w) (fun _ _ _ => 0)
  case atStart => exact ⟨rfl, rfl, rfl⟩
  case round =>
    obtain ⟨rfl, rfl, rfl⟩ := hrel
    go_wp2_with fail
    go_ret
    exact ⟨rfl, rfl⟩

theorem made_bk (w : World) (n : Nat) : (w.alloc (.cells (madeCells #[.int .i64 0, .string ⟨#[]⟩, .int .i64 0, .int .i64 0] (n * 4)) 85)).rowIs w.heap.size 85 (n * 4) (fun i => (#[Value.int .i64 0, .string ⟨#[]⟩, .int .i64 0, .int .i64 0])[i % 4]'(by have := Nat.mod_lt i (show 0 < 4 by omega); simpa using this)) := by
  refine ⟨_, blk_alloc_new _ _, size_madeCells _ _, fun i hi => ?_⟩
  have h4 : i % 4 < 4 := Nat.mod_lt _ (by omega)
  simp [madeCells, hi, h4]

theorem ninfo_LogicBlock : (Tryz.prog.info? 85).map (fun i => (i.zero, i.size, i.bytes)) = some (some (.agg #[.int .i64 0, .string ⟨#[]⟩, .int .i64 0, .int .i64 0]), 4, 40) := by kernel_rfl
theorem nmk_LogicBlock (n : Nat) (hn : n ≤ 1048576) (w : World) : (Instr.makeSlice 23 (.int .i64 (n : Int)) (.int .i64 (n : Int))).run Tryz.prog w = .ok (.slice (some ⟨w.heap.size, 0, none⟩) n n) (w.alloc (.cells (madeCells #[.int .i64 0, .string ⟨#[]⟩, .int .i64 0, .int .i64 0] (n * 4)) 85)) := by
  obtain ⟨i0, hi, hz0, hz1, hz2⟩ := info_parts ninfo_LogicBlock
  have := run_make (P := Tryz.prog) w 23 85 i0 _ Tryz.underlying23 hi hz0 .i64 .i64 n n (by omega) (Int.le_refl _) (by rw [hz2]; omega) (by omega)
  rw [hz1] at this
  simp only [Int.toNat_natCast] at this
  exact this
set_option maxRecDepth 100000 in
set_option maxHeartbeats 1000000 in
theorem ntoLogicBlock_any (x0 : Int) (x1 : ByteArray) (x2 x3 : Int) (w : World) :
    Calls Tryz.prog 103 #[.agg #[.int .i64 x0, .string x1, .int .i64 x2, .int .i64 x3]] w fun e w' => e = .returned (.agg #[.int .i64 x0, .string x1, .int .i64 x2, .int .i64 x3]) ∧ Below w.heap.size w w' := by
  go_enter Tryz.func103, Tryz.ntmps103
  go_wp2_with fail
  exact bodyPost_ret (v := .agg #[.int .i64 x0, .string x1, .int .i64 x2, .int .i64 x3]) (by simp [results, Tryz.results103, go_sem]) rfl ⟨rfl, (((Below.refl _ _).alloc (Nat.le_refl _) _).alloc (by simp) _).alloc (by simp <;> omega) _⟩
set_option maxRecDepth 100000 in
set_option maxHeartbeats 2000000 in
theorem ntoLogicBlockS_any (a : Option Addr) (n cap : Nat) (B : Nat → Pg.Bk) (w : World) (h : BksIn a n B w) (hn : n ≤ 1048576) :
    Calls Tryz.prog 72 #[.slice a n cap] w fun e w' => (e = .returned (.slice (some ⟨w.heap.size, 0, none⟩) n n) ∧ VsBlk 85 w.heap.size (n * 4) (bkF B) w') ∧ Below w.heap.size w w' := by
  have hmk := nmk_LogicBlock n hn
  have H := Lib.hid h
  have HST : Hid (VsPart 85 w.heap.size (n * 4) (0 * 4) (bkF B) (w.alloc (.cells (madeCells #[.int .i64 0, .string ⟨#[]⟩, .int .i64 0, .int .i64 0] (n * 4)) 85))) := ⟨_, made_bk w n, fun j hj => absurd hj (by omega)⟩
  clear h
  go_enter Tryz.func72, Tryz.ntmps72
  go_wp2_with fail
  clear hmk
  go_loopw [4] (fun iv wr => ∃ (i : Nat), i ≤ n ∧ iv = .int .i64 i ∧ Hid (VsPart 85 w.heap.size (n * 4) (i * 4) (bkF B) wr) ∧ Hid (Below w.heap.size w wr)) (fun iv _ => n - (intOf iv).toNat)
  case atStart => exact ⟨0, Nat.zero_le _, rfl, HST, (Below.refl _ _).alloc (Nat.le_refl _) _⟩
  case round =>
    obtain ⟨i, hi, rfl, hP, hB⟩ := hrel
    clear HST
    by_cases hlt : i < n
    · have hltz : (i : Int) < (n : Int) := by omega
      obtain ⟨b, o, rfl, c0, c1, c2, c3⟩ := (H.out.below hB.out).at_ hlt
      go_wp2_with fail
      refine (ntoLogicBlock_any (B i).kind (B i).name (B i).a (B i).b _).mono ?_
      rintro e w1 ⟨rfl, hb⟩
      have hP1 := hP.out.block (hb.block _ hP.out.lt)
      have HB1 : Hid (Below w.heap.size w w1) := hB.out.trans (hb.mono hB.out.size)
      have HP2 := Lib.hid (((((hP1.put (.int .i64 (B i).kind) (bkF0 B i).symm).put (.string (B i).name) (bkF1 B i).symm).put (.int .i64 (B i).a) (bkF2 B i).symm).put (.int .i64 (B i).b) (bkF3 B i).symm))
      obtain ⟨v0, y0⟩ := hP1.cell (j := i * 4) (by omega)
      have z0 := hP1.frozen (i * 4)
      obtain ⟨v1, y1⟩ := hP1.cell (j := i * 4 + 1) (by omega)
      have z1 := hP1.frozen (i * 4 + 1)
      obtain ⟨v2, y2⟩ := hP1.cell (j := i * 4 + 2) (by omega)
      have z2 := hP1.frozen (i * 4 + 2)
      obtain ⟨v3, y3⟩ := hP1.cell (j := i * 4 + 3) (by omega)
      have z3 := hP1.frozen (i * 4 + 3)
      have hz : w.heap.size < w1.heap.size := hP1.lt
      clear hP1 hb hP hB c0 c1 c2 c3
      go_wp2_with fail
      go_roundw
      case rel => exact ⟨i + 1, by omega, by go_num, by rw [Nat.succ_mul]; exact HP2, ((((HB1.out.setCell (p := ⟨w.heap.size, _, none⟩) (Nat.le_refl _) _).setCell (p := ⟨w.heap.size, _, none⟩) (Nat.le_refl _) _).setCell (p := ⟨w.heap.size, _, none⟩) (Nat.le_refl _) _).setCell (p := ⟨w.heap.size, _, none⟩) (Nat.le_refl _) _)⟩
      case measure => simp [intOf]; omega
    · obtain rfl : i = n := by omega
      go_wp2_with fail
      go_ret
      exact ⟨⟨rfl, hP.out.full (Nat.le_refl _)⟩, hB.out⟩
/-- What is left behind a list of blocks. -/
def SzB (n : Nat) (B : Nat → Pg.Bk) (l : Nat) (e : Ending) : Prop := (∃ z : Int, e = .returned (.int .i64 z) ∧ z < 0) ∨ ∃ m : Nat, e = .returned (.int .i64 m) ∧ m ≤ l ∧ n ≤ l ∧ PgNames n B
def SzO (x : Pg.Bk) (l : Nat) (e : Ending) : Prop := (x.name.size ≤ l ∧ e = .returned (.int .i64 ((l - x.name.size : Nat) : Int))) ∨ (l < x.name.size ∧ e = .returned (.int .i64 (-1)))
theorem nszBlock_any (x : Pg.Bk) (l : Nat) (w : World) (hx : x.name.size ≤ 9223372036854775807) (hl : l ≤ 1048576) :
    Calls Tryz.prog 102 #[bkV x, .int .i64 l] w fun e w' => SzO x l e ∧ Below w.heap.size w w' := by
  obtain ⟨k, s, a, b⟩ := x
  have h7 : (l : Int) ≤ 1048576 := by omega
  have h8 : (s.size : Int) ≤ 9223372036854775807 := by have : s.size ≤ 9223372036854775807 := hx; omega
  by_cases c : s.size ≤ l
  · have h1 : ¬ ((l : Int) - (s.size : Int)) < 0 := by omega
    have h2 : ((l : Int) - (s.size : Int)) = ((l - s.size : Nat) : Int) := by omega
    have h3 : ¬ (((l - s.size : Nat) : Int)) < 0 := by omega
    go_enter Tryz.func102, Tryz.ntmps102
    go_wp2_with fail
    go_ret
    exact ⟨Or.inl ⟨c, rfl⟩, nbel_alloc _ _⟩
  · have h1 : ((l : Int) - (s.size : Int)) < 0 := by omega
    go_enter Tryz.func102, Tryz.ntmps102
    go_wp2_with fail
    go_ret
    exact ⟨Or.inr ⟨by show l < s.size; omega, rfl⟩, nbel_alloc _ _⟩
set_option maxRecDepth 100000 in
set_option maxHeartbeats 2000000 in
theorem nszBlocks_any (a : Option Addr) (n cap : Nat) (B : Nat → Pg.Bk) (l : Nat) (w : World) (h : BksIn a n B w) (hb : ∀ i, i < n → (B i).name.size ≤ 9223372036854775807) (hm : n ≤ 9223372036854775807) (hl : l ≤ 1048576) :
    Calls Tryz.prog 64 #[.slice a n cap, .int .i64 l] w fun e w' => SzB n B l e ∧ Below w.heap.size w w' := by
  have H := Lib.hid h
  have HBD := Lib.hid hb
  clear h hb
  have h7 : (l : Int) ≤ 1048576 := by omega
  have h8 : (n : Int) ≤ 9223372036854775807 := by omega
  by_cases c : n ≤ l
  · have h1 : ¬ ((l : Int) - (n : Int)) < 0 := by omega
    have h2 : ((l : Int) - (n : Int)) = ((l - n : Nat) : Int) := by omega
    have h3 : ¬ (((l - n : Nat) : Int)) < 0 := by omega
    go_enter Tryz.func64, Tryz.ntmps64
    go_wp2_with fail
    go_loopw [1, 5] (fun lv iv wr => ∃ (i m : Nat), i ≤ n ∧ lv = .int .i64 m ∧ iv = .int .i64 i ∧ m ≤ l ∧ Hid (∀ j, j < i → (B j).name.size ≤ 1048576) ∧ Hid (Below w.heap.size w wr)) (fun _ iv _ => n - (intOf iv).toNat)
    case atStart => exact ⟨0, l - n, Nat.zero_le _, by simp, rfl, by omega, fun j hj => absurd hj (Nat.not_lt_zero _), Below.refl _ _⟩
    case round =>
      obtain ⟨i, m, hi, rfl, rfl, hm2, hP, hB⟩ := hrel
      by_cases hlt : i < n
      · have hltz : (i : Int) < (n : Int) := by omega
        obtain ⟨b, o, rfl, c0, c1, c2, c3⟩ := (H.out.below hB.out).at_ hlt
        go_wp2_with fail
        refine (nszBlock_any (B i) m _ (HBD.out i hlt) (by omega)).mono ?_
        rintro e w1 ⟨he, hb⟩
        have HB1 : Hid (Below w.heap.size w w1) := hB.out.trans (hb.mono hB.out.size)
        clear hb hB c0 c1 c2 c3
        rcases he with ⟨k1, rfl⟩ | ⟨k1, rfl⟩
        · have k2 : ¬ (((m - (B i).name.size : Nat) : Int)) < 0 := by omega
          obtain ⟨m2, hm3⟩ : ∃ m2 : Nat, m2 = m - (B i).name.size := ⟨_, rfl⟩
          rw [← hm3] at k2 ⊢
          have HP2 : Hid (∀ j, j < i + 1 → (B j).name.size ≤ 1048576) := fun j hj => by
            by_cases e : j = i
            · subst e; omega
            · exact hP.out j (by omega)
          have hm4 : m2 ≤ l := by omega
          clear hm3 hP k1
          go_wp2_with fail
          go_roundw
          case rel => exact ⟨i + 1, m2, by omega, rfl, by go_num, hm4, HP2, HB1⟩
          case measure => simp [intOf]; omega
        · go_wp2_with fail
          go_ret
          exact ⟨Or.inl ⟨_, rfl, by omega⟩, HB1.out⟩
      · obtain rfl : i = n := by omega
        go_wp2_with fail
        go_ret
        exact ⟨Or.inr ⟨m, rfl, hm2, c, hP.out⟩, hB.out⟩
  · have h1 : ((l : Int) - (n : Int)) < 0 := by omega
    go_enter Tryz.func64, Tryz.ntmps64
    go_wp2_with fail
    go_ret
    exact ⟨Or.inl ⟨_, rfl, by omega⟩, Below.refl _ _⟩
/-- What a round of the comparison reads. -/
def EqSLogicBlock (w : World) (b1 b2 i : Nat) (B : Nat → Pg.Bk) (W : World) : Prop := (W.cell? ⟨b1, i * 4, none⟩ = some (.int .i64 (B i).kind) ∧ W.cell? ⟨b1, i * 4 + 1, none⟩ = some (.string (B i).name) ∧ W.cell? ⟨b1, i * 4 + 2, none⟩ = some (.int .i64 (B i).a) ∧ W.cell? ⟨b1, i * 4 + 3, none⟩ = some (.int .i64 (B i).b)) ∧ (W.cell? ⟨b2, i * 4, none⟩ = some (.int .i64 (B i).kind) ∧ W.cell? ⟨b2, i * 4 + 1, none⟩ = some (.string (B i).name) ∧ W.cell? ⟨b2, i * 4 + 2, none⟩ = some (.int .i64 (B i).a) ∧ W.cell? ⟨b2, i * 4 + 3, none⟩ = some (.int .i64 (B i).b)) ∧ Below w.heap.size w W
theorem EqSLogicBlock.below {w : World} {b1 b2 i : Nat} {B : Nat → Pg.Bk} {W W' : World} (h : EqSLogicBlock w b1 b2 i B W) (hb : Below W.heap.size W W') : EqSLogicBlock w b1 b2 i B W' := by
  obtain ⟨⟨c0, c1, c2, c3⟩, ⟨d0, d1, d2, d3⟩, h3⟩ := h
  exact ⟨⟨(hb.cell (World.block_lt_of_cell? _ _ c0)).trans c0, (hb.cell (World.block_lt_of_cell? _ _ c1)).trans c1, (hb.cell (World.block_lt_of_cell? _ _ c2)).trans c2, (hb.cell (World.block_lt_of_cell? _ _ c3)).trans c3⟩, ⟨(hb.cell (World.block_lt_of_cell? _ _ d0)).trans d0, (hb.cell (World.block_lt_of_cell? _ _ d1)).trans d1, (hb.cell (World.block_lt_of_cell? _ _ d2)).trans d2, (hb.cell (World.block_lt_of_cell? _ _ d3)).trans d3⟩, h3.trans (hb.mono h3.size)⟩
set_option maxRecDepth 100000 in
set_option maxHeartbeats 1000000 in
theorem neqLogicBlock_same (x0 : Int) (x1 : ByteArray) (x2 x3 : Int) (w : World) :
    Calls Tryz.prog 105 #[.agg #[.int .i64 x0, .string x1, .int .i64 x2, .int .i64 x3], .agg #[.int .i64 x0, .string x1, .int .i64 x2, .int .i64 x3]] w fun e w' => e = .returned (.bool true) ∧ Below w.heap.size w w' := by
  go_enter Tryz.func105, Tryz.ntmps105
  go_wp2_with fail
  go_ret
  exact ⟨rfl, ((Below.refl _ _).alloc (Nat.le_refl _) _).alloc (by simp) _⟩
set_option maxRecDepth 100000 in
set_option maxHeartbeats 2000000 in
theorem neqLogicBlockS_same (a b : Option Addr) (n ca cb : Nat) (B : Nat → Pg.Bk) (w : World) (h1 : BksAt a n B w) (h2 : BksAt b n B w) (hn : n ≤ 1048576) :
    Calls Tryz.prog 74 #[.slice a n ca, .slice b n cb] w fun e w' => e = .returned (.bool true) ∧ Below w.heap.size w w' := by
  have H1 := Lib.hid h1
  have H2 := Lib.hid h2
  clear h1 h2
  go_enter Tryz.func74, Tryz.ntmps74
  go_wp2_with fail
  go_loopw [5] (fun iv wr => ∃ (i : Nat), i ≤ n ∧ iv = .int .i64 i ∧ Hid (Below w.heap.size w wr)) (fun iv _ => n - (intOf iv).toNat)
  case atStart => exact ⟨0, Nat.zero_le _, rfl, Below.refl _ _⟩
  case round =>
    obtain ⟨i, hi, rfl, hB⟩ := hrel
    by_cases hlt : i < n
    · have hltz : (i : Int) < (n : Int) := by omega
      obtain ⟨b1, rfl, k1⟩ := (H1.out.below hB.out).at_ hlt
      obtain ⟨b2, rfl, k2⟩ := (H2.out.below hB.out).at_ hlt
      have HE : Hid (EqSLogicBlock w b1 b2 i B wr) := ⟨k1, k2, hB.out⟩
      clear k1 k2 hB
      go_wp2_with fail
      refine wp_region_held_drew (S := EqSLogicBlock w b1 b2 i B) (by kernel_rfl) (HE.out.below (Below.refl _ _).drew) (fun hHeld => ?_)
      clear HE
      refine take_do (i := 0) (v := (.slice (some ⟨b1, 0, none⟩) n ca)) rfl (by kernel_rfl) (by kernel_rfl) (by kernel_rfl) (fun _ _ _ h => h) (by rfl) ?_ (by assumption) ?_
      · intro w hSw
        obtain ⟨⟨c0, c1, c2, c3⟩, ⟨d0, d1, d2, d3⟩, _⟩ := hSw
        go_simp
      simp only [Act.put, List.setIfInBounds_toArray, List.set_cons_zero, List.set_cons_succ]
      refine take_do (i := 1) (v := (.int .i64 i)) rfl (by kernel_rfl) (by kernel_rfl) (by kernel_rfl) (fun _ _ _ h => h) (by rfl) ?_ (by assumption) ?_
      · intro w hSw
        obtain ⟨⟨c0, c1, c2, c3⟩, ⟨d0, d1, d2, d3⟩, _⟩ := hSw
        go_simp
      simp only [Act.put, List.setIfInBounds_toArray, List.set_cons_zero, List.set_cons_succ]
      refine take_do (i := 2) (v := (.pointer (some ⟨b1, i * 4, none⟩))) rfl (by kernel_rfl) (by kernel_rfl) (by kernel_rfl) (fun _ _ _ h => h) (by rfl) ?_ (by assumption) ?_
      · intro w hSw
        obtain ⟨⟨c0, c1, c2, c3⟩, ⟨d0, d1, d2, d3⟩, _⟩ := hSw
        go_simp
      simp only [Act.put, List.setIfInBounds_toArray, List.set_cons_zero, List.set_cons_succ]
      refine take_do (i := 3) (v := (.agg #[.int .i64 (B i).kind, .string (B i).name, .int .i64 (B i).a, .int .i64 (B i).b])) rfl (by kernel_rfl) (by kernel_rfl) (by kernel_rfl) (fun _ _ _ h => h) (by rfl) ?_ (by assumption) ?_
      · intro w hSw
        obtain ⟨⟨c0, c1, c2, c3⟩, ⟨d0, d1, d2, d3⟩, _⟩ := hSw
        go_simp
      simp only [Act.put, List.setIfInBounds_toArray, List.set_cons_zero, List.set_cons_succ]
      refine take_do (i := 4) (v := (.slice (some ⟨b2, 0, none⟩) n cb)) rfl (by kernel_rfl) (by kernel_rfl) (by kernel_rfl) (fun _ _ _ h => h) (by rfl) ?_ (by assumption) ?_
      · intro w hSw
        obtain ⟨⟨c0, c1, c2, c3⟩, ⟨d0, d1, d2, d3⟩, _⟩ := hSw
        go_simp
      simp only [Act.put, List.setIfInBounds_toArray, List.set_cons_zero, List.set_cons_succ]
      refine take_do (i := 5) (v := (.int .i64 i)) rfl (by kernel_rfl) (by kernel_rfl) (by kernel_rfl) (fun _ _ _ h => h) (by rfl) ?_ (by assumption) ?_
      · intro w hSw
        obtain ⟨⟨c0, c1, c2, c3⟩, ⟨d0, d1, d2, d3⟩, _⟩ := hSw
        go_simp
      simp only [Act.put, List.setIfInBounds_toArray, List.set_cons_zero, List.set_cons_succ]
      refine take_do (i := 6) (v := (.pointer (some ⟨b2, i * 4, none⟩))) rfl (by kernel_rfl) (by kernel_rfl) (by kernel_rfl) (fun _ _ _ h => h) (by rfl) ?_ (by assumption) ?_
      · intro w hSw
        obtain ⟨⟨c0, c1, c2, c3⟩, ⟨d0, d1, d2, d3⟩, _⟩ := hSw
        go_simp
      simp only [Act.put, List.setIfInBounds_toArray, List.set_cons_zero, List.set_cons_succ]
      refine take_do (i := 7) (v := (.agg #[.int .i64 (B i).kind, .string (B i).name, .int .i64 (B i).a, .int .i64 (B i).b])) rfl (by kernel_rfl) (by kernel_rfl) (by kernel_rfl) (fun _ _ _ h => h) (by rfl) ?_ (by assumption) ?_
      · intro w hSw
        obtain ⟨⟨c0, c1, c2, c3⟩, ⟨d0, d1, d2, d3⟩, _⟩ := hSw
        go_simp
      simp only [Act.put, List.setIfInBounds_toArray, List.set_cons_zero, List.set_cons_succ]
      refine take_call (i := 8) rfl (by kernel_rfl) (fun K2 hK => ?_)
      go_simp
      refine (neqLogicBlock_same (B i).kind (B i).name (B i).a (B i).b _).mono ?_
      rintro e w1 ⟨rfl, hb⟩
      go_wp2_with fail
      refine hK.out _ _ (hHeld.below hb) (fun hHeld2 => ?_)
      clear hK hHeld hb
      have hHeld := hHeld2
      clear hHeld2
      refine take_do (i := 9) (v := (.bool false)) rfl (by kernel_rfl) (by kernel_rfl) (by kernel_rfl) (fun _ _ _ h => h) (by rfl) ?_ (by assumption) ?_
      · intro w hSw
        obtain ⟨⟨c0, c1, c2, c3⟩, ⟨d0, d1, d2, d3⟩, _⟩ := hSw
        go_simp
      simp only [Act.put, List.setIfInBounds_toArray, List.set_cons_zero, List.set_cons_succ]
      refine wpAnyH_done (by kernel_rfl) ?_ _
      have HB1 := Lib.hid hHeld.2.2
      clear hHeld
      go_wp2_with fail
      go_roundw
      case rel => exact ⟨i + 1, by omega, by go_num, HB1⟩
      case measure => simp [intOf]; omega
    · obtain rfl : i = n := by omega
      go_wp2_with fail
      go_ret
      exact ⟨rfl, hB.out⟩
/-- Marks of blocks, from k on. -/
def mkB (k : Nat) (i : Nat) : Pg.Bk := ⟨((k + i * 4 : Nat) : Int), markB (k + i * 4 + 1), ((k + i * 4 + 2 : Nat) : Int), ((k + i * 4 + 3 : Nat) : Int)⟩
set_option maxRecDepth 100000 in
set_option maxHeartbeats 4000000 in
theorem nmarkBlocks_any (g n c k : Nat) (B : Nat → Pg.Bk) (w : World) (h : VsBlk 85 g (n * 4) (bkF B) w) (hn : n ≤ 1048576) (hk : k ≤ 16777216) :
    Calls Tryz.prog 76 #[.slice (some ⟨g, 0, none⟩) n c, .int .i64 k] w fun e w' => e = .returned (.int .i64 ((k + n * 4 : Nat) : Int)) ∧ VsBlk 85 g (n * 4) (bkF (mkB k)) w' ∧ Only g w w' := by
  obtain ⟨M, F0, hM, hR, _⟩ := h
  have H : Hid (VsPart 85 g M 0 (bkF (mkB k)) w) := ⟨F0, hR, fun j hj => absurd hj (Nat.not_lt_zero _)⟩
  clear hR
  go_enter Tryz.func76, Tryz.ntmps76
  go_wp2_with fail
  go_loopw [1, 5] (fun kv iv wr => ∃ (i : Nat), i ≤ n ∧ kv = .int .i64 ((k + i * 4 : Nat) : Int) ∧ iv = .int .i64 i ∧ Hid (VsPart 85 g M (i * 4) (bkF (mkB k)) wr) ∧ Hid (Only g w wr)) (fun _ iv _ => n - (intOf iv).toNat)
  case atStart => exact ⟨0, Nat.zero_le _, by simp, rfl, by simpa using H, Only.refl _ _⟩
  case round =>
    obtain ⟨i, hi, rfl, rfl, hP, hO⟩ := hrel
    clear H
    by_cases hlt : i < n
    · have hltz : (i : Int) < (n : Int) := by omega
      obtain ⟨v0, y0⟩ := hP.out.cell (j := i * 4) (by omega)
      have z0 := hP.out.frozen (i * 4)
      have zg : g < wr.heap.size := hP.out.lt
      obtain ⟨K, hK⟩ : ∃ K : Nat, K = k + i * 4 := ⟨_, rfl⟩
      rw [← hK]
      have hK2 : K ≤ 25165824 := by omega
      obtain ⟨W1, hW1⟩ : ∃ W1, W1 = wr.setCell ⟨g, i * 4, none⟩ (.int .i64 (K : Int)) := ⟨_, rfl⟩
      have HP1 : Hid (VsPart 85 g M (i * 4 + 1) (bkF (mkB k)) W1) := by
        show VsPart _ _ _ _ _ _
        rw [hW1]; exact hP.out.put (.int .i64 (K : Int)) (by rw [bkF0]; simp [mkB, hK])
      have HO1 : Hid (Only g w W1) := by
        show Only _ _ _
        rw [hW1]; exact hO.out.set _ _
      have HW1 := Lib.hid hW1
      have HKE : Hid (K = k + i * 4) := hK
      clear hP hO hK hW1
      go_wp2_with fail
      rw [← HW1.out]
      have e1 : ((K : Int) + 1) = ((K + 1 : Nat) : Int) := by omega
      try rw [e1]
      clear e1
      refine (markText_any (K + 1) (by omega) _).mono ?_
      rintro e W2 ⟨rfl, hb⟩
      have HP2 := HP1.out.block (hb.block _ HP1.out.lt)
      have HO2 : Only g w W2 := ⟨hb.os.trans HO1.out.os, hb.tape.trans HO1.out.tape, hb.output.trans HO1.out.output, Nat.le_trans HO1.out.size hb.size, fun q hq hne => (hb.block q (Nat.lt_of_lt_of_le hq HO1.out.size)).trans (HO1.out.block q hq hne)⟩
      obtain ⟨v1, y1⟩ := HP2.cell (j := i * 4 + 1) (by omega)
      have z1 := HP2.frozen (i * 4 + 1)
      obtain ⟨v2, y2⟩ := HP2.cell (j := i * 4 + 2) (by omega)
      have z2 := HP2.frozen (i * 4 + 2)
      obtain ⟨v3, y3⟩ := HP2.cell (j := i * 4 + 3) (by omega)
      have z3 := HP2.frozen (i * 4 + 3)
      have zg2 : g < W2.heap.size := HP2.lt
      have HP5 := Lib.hid (((HP2.put (.string (markB (K + 1))) (by rw [bkF1]; simp [mkB, HKE.out])).put (.int .i64 ((K : Int) + 1 + 1)) (by rw [bkF2]; simp [mkB, HKE.out]; omega)).put (.int .i64 ((K : Int) + 1 + 1 + 1)) (by rw [bkF3]; simp [mkB, HKE.out]; omega))
      have HO5 := Lib.hid (((HO2.set (i * 4 + 1) (.string (markB (K + 1)))).set (i * 4 + 2) (.int .i64 ((K : Int) + 1 + 1))).set (i * 4 + 3) (.int .i64 ((K : Int) + 1 + 1 + 1)))
      clear HP2 HO2 hb HP1 HO1 y0 z0 HW1
      go_wp2_with fail
      go_roundw
      case rel =>
        refine ⟨i + 1, by omega, ?_, by go_num, by rw [Nat.succ_mul]; exact HP5, HO5⟩
        have := HKE.out
        congr 1; omega
      case measure => simp [intOf]; omega
    · obtain rfl : i = n := by omega
      go_wp2_with fail
      go_ret
      exact ⟨rfl, hP.out.full (by omega), hO.out⟩
end Go.Proofs.YtgkdnpnnmmpnmaaGreatDoor
