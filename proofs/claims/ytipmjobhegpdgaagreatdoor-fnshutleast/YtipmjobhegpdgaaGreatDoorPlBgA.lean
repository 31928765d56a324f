/-
  Joined: PlEx1, PlEx, PlIn, PlLawR, PlG1, PlG2, PlH0, PlH1, PlH2, PlH3, PlH4, PlH5, PlLs.
-/
import Derived.Test.YtipmjobhegpdgaaGreatDoorNtEx1
import Derived.Test.YtipmjobhegpdgaaGreatDoorPlMem
import Derived.Test.YtipmjobhegpdgaaGreatDoorMnMem
import Derived.Lib.SmallJoins
import Derived.Deep.Slices
import Derived.ProofKit
import Derived.Test.YtipmjobhegpdgaaGreatDoorPlS1
import Derived.Test.YtipmjobhegpdgaaGreatDoorPlF1
import Derived.Test.YtipmjobhegpdgaaGreatDoorPlD0
import Derived.Test.YtipmjobhegpdgaaGreatDoorPlB2
import Derived.Test.YtipmjobhegpdgaaGreatDoorSortI
import Derived.Sort.OwnSortedInts
import Derived.Deep.QuietTactic
import Derived.Test.YtipmjobhegpdgaaGreatDoorPlD1
import Derived.Test.YtipmjobhegpdgaaGreatDoorPlF5
import Derived.Test.YtipmjobhegpdgaaGreatDoorPlD9
import Derived.Test.YtipmjobhegpdgaaGreatDoorWkErr
namespace Go.Proofs.YtipmjobhegpdgaaGreatDoor
open Go.RowKit Go.Deep

theorem ninfo_Row : (Tryz.prog.info? 61).map (fun i => (i.zero, i.size, i.bytes)) = some (some (.agg #[.int .i64 0, .int .i64 0, .int .i64 0]), 3, 24) := by kernel_rfl
theorem nmk_Row (n : Nat) (hn : n ≤ 1048576) (w : World) : (Instr.makeSlice 30 (.int .i64 (n : Int)) (.int .i64 (n : Int))).run Tryz.prog w = .ok (.slice (some ⟨w.heap.size, 0, none⟩) n n) (w.alloc (.cells (madeCells #[.int .i64 0, .int .i64 0, .int .i64 0] (n * 3)) 61)) := by
  obtain ⟨i0, hi, hz0, hz1, hz2⟩ := info_parts ninfo_Row
  have := run_make (P := Tryz.prog) w 30 61 i0 _ Tryz.underlying30 hi hz0 .i64 .i64 n n (by omega) (Int.le_refl _) (by rw [hz2]; omega) (by omega)
  rw [hz1] at this
  simp only [Int.toNat_natCast] at this
  exact this
set_option maxRecDepth 100000 in
set_option maxHeartbeats 1000000 in
theorem ntoRow_any (x0 x1 x2 : Int) (w : World) :
    Calls Tryz.prog 62 #[.agg #[.int .i64 x0, .int .i64 x1, .int .i64 x2]] w fun e w' => e = .returned (.agg #[.int .i64 x0, .int .i64 x1, .int .i64 x2]) ∧ Below w.heap.size w w' := by
  go_enter Tryz.func62, Tryz.ntmps62
  go_wp2_with fail
  exact bodyPost_ret (v := .agg #[.int .i64 x0, .int .i64 x1, .int .i64 x2]) (by simp [results, Tryz.results62, go_sem]) rfl ⟨rfl, (((Below.refl _ _).alloc (Nat.le_refl _) _).alloc (by simp) _).alloc (by simp <;> omega) _⟩
set_option maxRecDepth 100000 in
set_option maxHeartbeats 2000000 in
theorem ntoRowS_any (a : Option Addr) (n cap : Nat) (f : Nat → Int) (w : World) (h : IsIn a (n * 3) f w) (hn : n ≤ 1048576) :
    Calls Tryz.prog 34 #[.slice a n cap] w fun e w' => (e = .returned (.slice (some ⟨w.heap.size, 0, none⟩) n n) ∧ IsBlk 61 w.heap.size (n * 3) f w') ∧ Below w.heap.size w w' := by
  have hmk := nmk_Row n hn
  have H := Lib.hid h
  have HST : Hid (IsPart 61 w.heap.size (n * 3) (0 * 3) f (w.alloc (.cells (madeCells #[.int .i64 0, .int .i64 0, .int .i64 0] (n * 3)) 61))) := ⟨_, made_is _ _ w _ (by intro i hi; simp at hi; have : i = 0 ∨ i = 1 ∨ i = 2 := (by omega); rcases this with rfl | rfl | rfl <;> rfl) (by simp), fun j hj => absurd hj (by omega)⟩
  clear h
  go_enter Tryz.func34, Tryz.ntmps34
  go_wp2_with fail
  clear hmk
  go_loopw [4] (fun iv wr => ∃ (i : Nat), i ≤ n ∧ iv = .int .i64 i ∧ Hid (IsPart 61 w.heap.size (n * 3) (i * 3) f wr) ∧ Hid (Below w.heap.size w wr)) (fun iv _ => n - (intOf iv).toNat)
  case atStart => exact ⟨0, Nat.zero_le _, rfl, HST, (Below.refl _ _).alloc (Nat.le_refl _) _⟩
  case round =>
    obtain ⟨i, hi, rfl, hP, hB⟩ := hrel
    clear HST
    by_cases hlt : i < n
    · have hltz : (i : Int) < (n : Int) := by omega
      obtain ⟨b, o, rfl, c0, c1, c2⟩ := (H.out.below hB.out).at3 hlt
      go_wp2_with fail
      refine (ntoRow_any (f (i * 3)) (f (i * 3 + 1)) (f (i * 3 + 2)) _).mono ?_
      rintro e w1 ⟨rfl, hb⟩
      have hP1 := hP.out.block (hb.block _ hP.out.lt)
      have HB1 : Hid (Below w.heap.size w w1) := hB.out.trans (hb.mono hB.out.size)
      have HP2 := Lib.hid ((((hP1.put (f (i * 3)) rfl).put (f (i * 3 + 1)) rfl).put (f (i * 3 + 2)) rfl))
      obtain ⟨v0, y0⟩ := hP1.cell (j := i * 3) (by omega)
      have z0 := hP1.frozen (i * 3)
      obtain ⟨v1, y1⟩ := hP1.cell (j := i * 3 + 1) (by omega)
      have z1 := hP1.frozen (i * 3 + 1)
      obtain ⟨v2, y2⟩ := hP1.cell (j := i * 3 + 2) (by omega)
      have z2 := hP1.frozen (i * 3 + 2)
      have hz : w.heap.size < w1.heap.size := hP1.lt
      clear hP1 hb hP hB c0 c1 c2
      go_wp2_with fail
      go_roundw
      case rel => exact ⟨i + 1, by omega, by go_num, by rw [Nat.succ_mul]; exact HP2, (((HB1.out.setCell (p := ⟨w.heap.size, _, none⟩) (Nat.le_refl _) _).setCell (p := ⟨w.heap.size, _, none⟩) (Nat.le_refl _) _).setCell (p := ⟨w.heap.size, _, none⟩) (Nat.le_refl _) _)⟩
      case measure => simp [intOf]; omega
    · obtain rfl : i = n := by omega
      go_wp2_with fail
      go_ret
      exact ⟨⟨rfl, hP.out.full (Nat.le_refl _)⟩, hB.out⟩
theorem nszRow_in (a : Option Addr) (n cap : Nat) (l : Nat) (w : World) (hn : n ≤ l) (hl : l ≤ 1048576) :
    Calls Tryz.prog 26 #[.slice a n cap, .int .i64 l] w fun e w' => e = .returned (.int .i64 ((l - n : Nat) : Int)) ∧ w' = w := by
  have h1 : ¬ ((l : Int) - (n : Int)) < 0 := by omega
  have h2 : ((l : Int) - (n : Int)) = ((l - n : Nat) : Int) := by omega
  have h3 : ¬ (((l - n : Nat) : Int)) < 0 := by omega
  have h4 : ((l - n : Nat) : Int) ≤ 1048576 := by omega
  have h5 : 0 ≤ ((l - n : Nat) : Int) := by omega
  have h6 : (n : Int) ≤ 1048576 := by omega
  have h7 : (l : Int) ≤ 1048576 := by omega
  go_enter Tryz.func26, Tryz.ntmps26
  go_wp2_with fail
  go_ret
  exact ⟨ret_int (by omega), rfl⟩
theorem nszRow_over (a : Option Addr) (n cap : Nat) (l : Nat) (w : World) (hn : l < n) (hl : l ≤ 1048576) (hm : n ≤ 9223372036854775807) :
    Calls Tryz.prog 26 #[.slice a n cap, .int .i64 l] w fun e w' => e = .returned (.int .i64 (-1)) ∧ w' = w := by
  have h1 : ((l : Int) - (n : Int)) < 0 := by omega
  have h7 : (l : Int) ≤ 1048576 := by omega
  have h8 : (n : Int) ≤ 9223372036854775807 := by omega
  go_enter Tryz.func26, Tryz.ntmps26
  go_wp2_with fail
  go_ret
  exact ⟨rfl, rfl⟩
/-- What a round of the comparison reads. -/
def EqSRow (w : World) (b1 b2 i : Nat) (f : Nat → Int) (W : World) : Prop := (W.cell? ⟨b1, i * 3, none⟩ = some (.int .i64 (f (i * 3))) ∧ W.cell? ⟨b1, i * 3 + 1, none⟩ = some (.int .i64 (f (i * 3 + 1))) ∧ W.cell? ⟨b1, i * 3 + 2, none⟩ = some (.int .i64 (f (i * 3 + 2)))) ∧ (W.cell? ⟨b2, i * 3, none⟩ = some (.int .i64 (f (i * 3))) ∧ W.cell? ⟨b2, i * 3 + 1, none⟩ = some (.int .i64 (f (i * 3 + 1))) ∧ W.cell? ⟨b2, i * 3 + 2, none⟩ = some (.int .i64 (f (i * 3 + 2)))) ∧ Below w.heap.size w W
theorem EqSRow.below {w : World} {b1 b2 i : Nat} {f : Nat → Int} {W W' : World} (h : EqSRow w b1 b2 i f W) (hb : Below W.heap.size W W') : EqSRow w b1 b2 i f W' := by
  obtain ⟨⟨c0, c1, c2⟩, ⟨d0, d1, d2⟩, h3⟩ := h
  exact ⟨⟨(hb.cell (World.block_lt_of_cell? _ _ c0)).trans c0, (hb.cell (World.block_lt_of_cell? _ _ c1)).trans c1, (hb.cell (World.block_lt_of_cell? _ _ c2)).trans c2⟩, ⟨(hb.cell (World.block_lt_of_cell? _ _ d0)).trans d0, (hb.cell (World.block_lt_of_cell? _ _ d1)).trans d1, (hb.cell (World.block_lt_of_cell? _ _ d2)).trans d2⟩, h3.trans (hb.mono h3.size)⟩
set_option maxRecDepth 100000 in
set_option maxHeartbeats 1000000 in
theorem neqRow_same (x0 x1 x2 : Int) (w : World) :
    Calls Tryz.prog 66 #[.agg #[.int .i64 x0, .int .i64 x1, .int .i64 x2], .agg #[.int .i64 x0, .int .i64 x1, .int .i64 x2]] w fun e w' => e = .returned (.bool true) ∧ Below w.heap.size w w' := by
  go_enter Tryz.func66, Tryz.ntmps66
  go_wp2_with fail
  go_ret
  exact ⟨rfl, ((Below.refl _ _).alloc (Nat.le_refl _) _).alloc (by simp) _⟩
set_option maxRecDepth 100000 in
set_option maxHeartbeats 2000000 in
theorem neqRowS_same (a b : Option Addr) (n ca cb : Nat) (f : Nat → Int) (w : World) (h1 : IsAt a (n * 3) f w) (h2 : IsAt b (n * 3) f w) (hn : n ≤ 1048576) :
    Calls Tryz.prog 39 #[.slice a n ca, .slice b n cb] w fun e w' => e = .returned (.bool true) ∧ Below w.heap.size w w' := by
  have H1 := Lib.hid h1
  have H2 := Lib.hid h2
  clear h1 h2
  go_enter Tryz.func39, Tryz.ntmps39
  go_wp2_with fail
  go_loopw [5] (fun iv wr => ∃ (i : Nat), i ≤ n ∧ iv = .int .i64 i ∧ Hid (Below w.heap.size w wr)) (fun iv _ => n - (intOf iv).toNat)
  case atStart => exact ⟨0, Nat.zero_le _, rfl, Below.refl _ _⟩
  case round =>
    obtain ⟨i, hi, rfl, hB⟩ := hrel
    by_cases hlt : i < n
    · have hltz : (i : Int) < (n : Int) := by omega
      obtain ⟨b1, rfl, k1⟩ := (H1.out.below hB.out).at3 hlt
      obtain ⟨b2, rfl, k2⟩ := (H2.out.below hB.out).at3 hlt
      have HE : Hid (EqSRow w b1 b2 i f wr) := ⟨k1, k2, hB.out⟩
      clear k1 k2 hB
      go_wp2_with fail
      refine wp_region_held_drew (S := EqSRow w b1 b2 i f) (by kernel_rfl) (HE.out.below (Below.refl _ _).drew) (fun hHeld => ?_)
      clear HE
      refine take_do (i := 0) (v := (.slice (some ⟨b1, 0, none⟩) n ca)) rfl (by kernel_rfl) (by kernel_rfl) (by kernel_rfl) (fun _ _ _ h => h) (by rfl) ?_ (by assumption) ?_
      · intro w hSw
        obtain ⟨⟨c0, c1, c2⟩, ⟨d0, d1, d2⟩, _⟩ := hSw
        go_simp
      simp only [Act.put, List.setIfInBounds_toArray, List.set_cons_zero, List.set_cons_succ]
      refine take_do (i := 1) (v := (.int .i64 i)) rfl (by kernel_rfl) (by kernel_rfl) (by kernel_rfl) (fun _ _ _ h => h) (by rfl) ?_ (by assumption) ?_
      · intro w hSw
        obtain ⟨⟨c0, c1, c2⟩, ⟨d0, d1, d2⟩, _⟩ := hSw
        go_simp
      simp only [Act.put, List.setIfInBounds_toArray, List.set_cons_zero, List.set_cons_succ]
      refine take_do (i := 2) (v := (.pointer (some ⟨b1, i * 3, none⟩))) rfl (by kernel_rfl) (by kernel_rfl) (by kernel_rfl) (fun _ _ _ h => h) (by rfl) ?_ (by assumption) ?_
      · intro w hSw
        obtain ⟨⟨c0, c1, c2⟩, ⟨d0, d1, d2⟩, _⟩ := hSw
        go_simp
      simp only [Act.put, List.setIfInBounds_toArray, List.set_cons_zero, List.set_cons_succ]
      refine take_do (i := 3) (v := (.agg #[.int .i64 (f (i * 3)), .int .i64 (f (i * 3 + 1)), .int .i64 (f (i * 3 + 2))])) rfl (by kernel_rfl) (by kernel_rfl) (by kernel_rfl) (fun _ _ _ h => h) (by rfl) ?_ (by assumption) ?_
      · intro w hSw
        obtain ⟨⟨c0, c1, c2⟩, ⟨d0, d1, d2⟩, _⟩ := hSw
        go_simp
      simp only [Act.put, List.setIfInBounds_toArray, List.set_cons_zero, List.set_cons_succ]
      refine take_do (i := 4) (v := (.slice (some ⟨b2, 0, none⟩) n cb)) rfl (by kernel_rfl) (by kernel_rfl) (by kernel_rfl) (fun _ _ _ h => h) (by rfl) ?_ (by assumption) ?_
      · intro w hSw
        obtain ⟨⟨c0, c1, c2⟩, ⟨d0, d1, d2⟩, _⟩ := hSw
        go_simp
      simp only [Act.put, List.setIfInBounds_toArray, List.set_cons_zero, List.set_cons_succ]
      refine take_do (i := 5) (v := (.int .i64 i)) rfl (by kernel_rfl) (by kernel_rfl) (by kernel_rfl) (fun _ _ _ h => h) (by rfl) ?_ (by assumption) ?_
      · intro w hSw
        obtain ⟨⟨c0, c1, c2⟩, ⟨d0, d1, d2⟩, _⟩ := hSw
        go_simp
      simp only [Act.put, List.setIfInBounds_toArray, List.set_cons_zero, List.set_cons_succ]
      refine take_do (i := 6) (v := (.pointer (some ⟨b2, i * 3, none⟩))) rfl (by kernel_rfl) (by kernel_rfl) (by kernel_rfl) (fun _ _ _ h => h) (by rfl) ?_ (by assumption) ?_
      · intro w hSw
        obtain ⟨⟨c0, c1, c2⟩, ⟨d0, d1, d2⟩, _⟩ := hSw
        go_simp
      simp only [Act.put, List.setIfInBounds_toArray, List.set_cons_zero, List.set_cons_succ]
      refine take_do (i := 7) (v := (.agg #[.int .i64 (f (i * 3)), .int .i64 (f (i * 3 + 1)), .int .i64 (f (i * 3 + 2))])) rfl (by kernel_rfl) (by kernel_rfl) (by kernel_rfl) (fun _ _ _ h => h) (by rfl) ?_ (by assumption) ?_
      · intro w hSw
        obtain ⟨⟨c0, c1, c2⟩, ⟨d0, d1, d2⟩, _⟩ := hSw
        go_simp
      simp only [Act.put, List.setIfInBounds_toArray, List.set_cons_zero, List.set_cons_succ]
      refine take_call (i := 8) rfl (by kernel_rfl) (fun K2 hK => ?_)
      go_simp
      refine (neqRow_same (f (i * 3)) (f (i * 3 + 1)) (f (i * 3 + 2)) _).mono ?_
      rintro e w1 ⟨rfl, hb⟩
      go_wp2_with fail
      refine hK.out _ _ (hHeld.below hb) (fun hHeld2 => ?_)
      clear hK hHeld hb
      have hHeld := hHeld2
      clear hHeld2
      refine take_do (i := 9) (v := (.bool false)) rfl (by kernel_rfl) (by kernel_rfl) (by kernel_rfl) (fun _ _ _ h => h) (by rfl) ?_ (by assumption) ?_
      · intro w hSw
        obtain ⟨⟨c0, c1, c2⟩, ⟨d0, d1, d2⟩, _⟩ := hSw
        go_simp
      simp only [Act.put, List.setIfInBounds_toArray, List.set_cons_zero, List.set_cons_succ]
      refine wpAnyH_done (by kernel_rfl) ?_ _
      have HB1 := Lib.hid hHeld.2.2
      clear hHeld
      go_wp2_with fail
      go_roundw
      case rel => exact ⟨i + 1, by omega, by go_num, HB1⟩
      case measure => simp [intOf]; omega
    · obtain rfl : i = n := by omega
      go_wp2_with fail
      go_ret
      exact ⟨rfl, hB.out⟩
set_option maxRecDepth 100000 in
set_option maxHeartbeats 2000000 in
theorem nmarkRowS_any (g n c k : Nat) (f : Nat → Int) (w : World) (h : IsBlk 61 g (n * 3) f w) (hn : n ≤ 1048576) (hk : k ≤ 16777216) :
    Calls Tryz.prog 40 #[.slice (some ⟨g, 0, none⟩) n c, .int .i64 k] w fun e w' => e = .returned (.int .i64 ((k + n * 3 : Nat) : Int)) ∧ IsBlk 61 g (n * 3) (mk1 k) w' ∧ Only g w w' := by
  obtain ⟨M, F0, hM, hR, _⟩ := h
  have H : Hid (IsPart 61 g M 0 (mk1 k) w) := ⟨F0, hR, fun j hj => absurd hj (Nat.not_lt_zero _)⟩
  clear hR
  go_enter Tryz.func40, Tryz.ntmps40
  go_wp2_with fail
  go_loopw [1, 5] (fun kv iv wr => ∃ (i : Nat), i ≤ n ∧ kv = .int .i64 ((k + i * 3 : Nat) : Int) ∧ iv = .int .i64 i ∧ Hid (IsPart 61 g M (i * 3) (mk1 k) wr) ∧ Hid (Only g w wr)) (fun _ iv _ => n - (intOf iv).toNat)
  case atStart => exact ⟨0, Nat.zero_le _, by simp, rfl, by simpa using H, Only.refl _ _⟩
  case round =>
    obtain ⟨i, hi, rfl, rfl, hP, hO⟩ := hrel
    clear H
    by_cases hlt : i < n
    · have hltz : (i : Int) < (n : Int) := by omega
      obtain ⟨v0, y0⟩ := hP.out.cell (j := i * 3) (by omega)
      have z0 := hP.out.frozen (i * 3)
      obtain ⟨v1, y1⟩ := hP.out.cell (j := i * 3 + 1) (by omega)
      have z1 := hP.out.frozen (i * 3 + 1)
      obtain ⟨v2, y2⟩ := hP.out.cell (j := i * 3 + 2) (by omega)
      have z2 := hP.out.frozen (i * 3 + 2)
      have zg : g < wr.heap.size := hP.out.lt
      obtain ⟨K, hK⟩ : ∃ K : Nat, K = k + i * 3 := ⟨_, rfl⟩
      rw [← hK]
      have hK2 : K ≤ 25165824 := by omega
      have HP5 := Lib.hid ((((hP.out.put ((K : Int)) (by unfold mk1; omega)).put ((K : Int) + 1) (by unfold mk1; omega)).put ((K : Int) + 1 + 1) (by unfold mk1; omega)))
      have HO5 := Lib.hid ((((hO.out.set (i * 3) (.int .i64 ((K : Int)))).set (i * 3 + 1) (.int .i64 ((K : Int) + 1))).set (i * 3 + 2) (.int .i64 ((K : Int) + 1 + 1))))
      have HKE : Hid (K = k + i * 3) := hK
      clear hP hO hK
      go_wp2_with fail
      go_roundw
      case rel =>
        refine ⟨i + 1, by omega, ?_, by go_num, by rw [Nat.succ_mul]; exact HP5, HO5⟩
        have := HKE.out
        congr 1; omega
      case measure => simp [intOf]; omega
    · obtain rfl : i = n := by omega
      go_wp2_with fail
      go_ret
      exact ⟨rfl, hP.out.full (by omega), hO.out⟩
set_option maxRecDepth 100000 in
set_option maxHeartbeats 2000000 in
theorem nmarkRowS_nil (k : Nat) (w : World) :
    Calls Tryz.prog 40 #[.slice none 0 0, .int .i64 k] w fun e w' => e = .returned (.int .i64 k) ∧ w' = w := by
  go_enter Tryz.func40, Tryz.ntmps40
  go_wp2_with fail
  go_loopw [1, 5] (fun kv iv wr => kv = .int .i64 k ∧ iv = .int .i64 0 ∧ wr = w) (fun _ _ _ => 0)
  case atStart => exact ⟨rfl, rfl, rfl⟩
  case round =>
    obtain ⟨rfl, rfl, rfl⟩ := hrel
    go_wp2_with fail
    go_ret
    exact ⟨rfl, rfl⟩
end Go.Proofs.YtipmjobhegpdgaaGreatDoor
namespace Go.Proofs.YtipmjobhegpdgaaGreatDoor
open Go.RowKit Go.Deep

theorem plhs (w : World) (p g : Nat) (hp : g ≠ p) (i : Nat) (a : Value) : (w.setCell ⟨p, i, none⟩ a).heap[g]? = w.heap[g]? := Below.heap_setCell _ _ _ _ hp
set_option maxRecDepth 100000 in
set_option maxHeartbeats 8000000 in
theorem toPlan_any (n : Pl.Plan) (la : Option Addr) (lk : Nat) (fa : Option Addr) (fk : Nat) (wa : Option Addr) (wk : Nat) (w : World) (h : PlIn n la fa wa w) (hs : PlSmall n) :
    Calls Tryz.prog 8 #[plV n la lk fa fk wa wk] w fun e w' => (∃ gl gf gw, e = .returned (plV n (some ⟨gl, 0, none⟩) n.rn (some ⟨gf, 0, none⟩) n.sn (some ⟨gw, 0, none⟩) n.hn) ∧ PlBlk n w.heap.size gl gf gw w') ∧ Below w.heap.size w w' := by
  obtain ⟨W, hW⟩ : ∃ W, W = ((w.alloc (.cells #[.slice la n.rn lk, .slice fa n.sn fk, .slice wa n.hn wk] 25)).alloc (.cells #[.slice none 0 0, .slice none 0 0, .slice none 0 0] 32)).alloc (.cells #[.slice none 0 0, .slice none 0 0, .slice none 0 0] 32) := ⟨_, rfl⟩
  have hsz : W.heap.size = w.heap.size + 3 := by rw [hW]; simp
  have hB : Below w.heap.size w W := by rw [hW]; exact (((Below.refl _ _).alloc (Nat.le_refl _) _).alloc (by simp) _).alloc (by simp; omega) _
  have RA : W.rowIs w.heap.size 25 3 (rowN (plL n la lk fa fk wa wk)) := by
    rw [hW]; exact nrow_below (nrow_below (rowN_alloc w _ _) (nbel_alloc _ _)) (nbel_alloc _ _)
  have RO : W.rowIs (w.heap.size + 1) 32 3 (rowN [.slice none 0 0, .slice none 0 0, .slice none 0 0]) := by
    rw [hW]; exact nrow_below (rowN_alloc' (by simp) _ _) (nbel_alloc _ _)
  have RP : W.rowIs (w.heap.size + 1 + 1) 32 3 (rowN [.slice none 0 0, .slice none 0 0, .slice none 0 0]) := by
    rw [hW]; exact rowN_alloc' (by simp) _ _
  have HW := Lib.hid hW
  have HB := Lib.hid hB
  have H := Lib.hid h
  have HS := Lib.hid hs
  have HRA := Lib.hid RA
  have HRO := Lib.hid RO
  have HRP := Lib.hid RP
  have HSZ := Lib.hid hsz
  clear hW hB h hs RA RO RP hsz
  go_enter Tryz.func8, Tryz.ntmps8
  go_wp2_with fail
  rw [← HW.out]
  refine (ntoRowS_any la n.rn lk n.R _ (H.out.l.below HB.out) HS.out.1).mono ?_
  rintro e w1 ⟨⟨rfl, hk1⟩, hb1⟩
  have RA1 := nrow_below HRA.out hb1
  have RO1 := nrow_below HRO.out hb1
  have RP1 := nrow_below HRP.out hb1
  have HB1 : Hid (Below w.heap.size w w1) := HB.out.trans (hb1.mono HB.out.size)
  have HK1 := Lib.hid hk1
  obtain ⟨⟨a0, a1, a2⟩, _⟩ := rowN3 RA1
  obtain ⟨⟨p0, p1, p2⟩, z0, z1, z2⟩ := rowN3 RP1
  have hl1 : w.heap.size + 1 + 1 < w1.heap.size := RP1.lt
  obtain ⟨W2, hW2⟩ : ∃ W2, W2 = w1.setCell ⟨w.heap.size + 1 + 1, 0, none⟩ (.slice (some ⟨W.heap.size, 0, none⟩) n.rn n.rn) := ⟨_, rfl⟩
  have HW2 := Lib.hid hW2
  have HRA2 : Hid (W2.rowIs w.heap.size 25 3 (rowN (plL n la lk fa fk wa wk))) := by
    show W2.rowIs _ _ _ _
    rw [hW2]; exact nrow_set RA1 (p := ⟨w.heap.size + 1 + 1, 0, none⟩) (by show w.heap.size ≠ w.heap.size + 1 + 1; omega) _
  have HRO2 : Hid (W2.rowIs (w.heap.size + 1) 32 3 (rowN [.slice none 0 0, .slice none 0 0, .slice none 0 0])) := by
    show W2.rowIs _ _ _ _
    rw [hW2]; exact nrow_set RO1 (p := ⟨w.heap.size + 1 + 1, 0, none⟩) (by show w.heap.size + 1 ≠ w.heap.size + 1 + 1; omega) _
  have HRP2 : Hid (W2.rowIs (w.heap.size + 1 + 1) 32 3 (rowN [.slice (some ⟨W.heap.size, 0, none⟩) n.rn n.rn, .slice none 0 0, .slice none 0 0])) := by
    show W2.rowIs _ _ _ _
    rw [hW2]; exact rowN_put RP1 0 _ (by simp)
  have HB2 : Hid (Below w.heap.size w W2) := by
    show Below _ _ _
    rw [hW2]; exact HB1.out.setCell (p := ⟨w.heap.size + 1 + 1, 0, none⟩) (by show w.heap.size ≤ w.heap.size + 1 + 1; omega) _
  have HK2 : Hid (IsBlk 61 W.heap.size (n.rn * 3) n.R W2) := by
    show IsBlk _ _ _ _ _
    rw [hW2]; exact HK1.out.block (plhs _ _ _ (by have := HSZ.out; omega) _ _)
  clear hW2 RA1 RO1 RP1 hb1 hk1 HK1 HB1
  go_wp2_with fail
  rw [← HW2.out]
  refine (ntoInt64S_any fa n.sn fk n.S _ (H.out.f.below HB2.out) HS.out.2.1).mono ?_
  rintro e w2 ⟨⟨rfl, hk2⟩, hb2⟩
  clear a0 a1 a2 p0 p1 p2 z0 z1 z2 hl1
  have RA1 := nrow_below HRA2.out hb2
  have RO1 := nrow_below HRO2.out hb2
  have RP1 := nrow_below HRP2.out hb2
  have HB3 : Hid (Below w.heap.size w w2) := HB2.out.trans (hb2.mono HB2.out.size)
  have HKA : Hid (IsBlk 61 W.heap.size (n.rn * 3) n.R w2) := HK2.out.below hb2
  have HKB := Lib.hid hk2
  have HLW : Hid (W.heap.size < W2.heap.size) := HK2.out.lt
  obtain ⟨⟨a0, a1, a2⟩, _⟩ := rowN3 RA1
  obtain ⟨⟨p0, p1, p2⟩, z0, z1, z2⟩ := rowN3 RP1
  have hl1 : w.heap.size + 1 + 1 < w2.heap.size := RP1.lt
  obtain ⟨W3, hW3⟩ : ∃ W3, W3 = w2.setCell ⟨w.heap.size + 1 + 1, 1, none⟩ (.slice (some ⟨W2.heap.size, 0, none⟩) n.sn n.sn) := ⟨_, rfl⟩
  have HW3 := Lib.hid hW3
  have HRA3 : Hid (W3.rowIs w.heap.size 25 3 (rowN (plL n la lk fa fk wa wk))) := by
    show W3.rowIs _ _ _ _
    rw [hW3]; exact nrow_set RA1 (p := ⟨w.heap.size + 1 + 1, 1, none⟩) (by show w.heap.size ≠ w.heap.size + 1 + 1; omega) _
  have HRO3 : Hid (W3.rowIs (w.heap.size + 1) 32 3 (rowN [.slice none 0 0, .slice none 0 0, .slice none 0 0])) := by
    show W3.rowIs _ _ _ _
    rw [hW3]; exact nrow_set RO1 (p := ⟨w.heap.size + 1 + 1, 1, none⟩) (by show w.heap.size + 1 ≠ w.heap.size + 1 + 1; omega) _
  have HRP3 : Hid (W3.rowIs (w.heap.size + 1 + 1) 32 3 (rowN [.slice (some ⟨W.heap.size, 0, none⟩) n.rn n.rn, .slice (some ⟨W2.heap.size, 0, none⟩) n.sn n.sn, .slice none 0 0])) := by
    show W3.rowIs _ _ _ _
    rw [hW3]; exact rowN_put RP1 1 _ (by simp)
  have HB4 : Hid (Below w.heap.size w W3) := by
    show Below _ _ _
    rw [hW3]; exact HB3.out.setCell (p := ⟨w.heap.size + 1 + 1, 1, none⟩) (by show w.heap.size ≤ w.heap.size + 1 + 1; omega) _
  have HKA3 : Hid (IsBlk 61 W.heap.size (n.rn * 3) n.R W3) := by
    show IsBlk _ _ _ _ _
    rw [hW3]; exact HKA.out.block (plhs _ _ _ (by have := HSZ.out; omega) _ _)
  have HKB3 : Hid (IsBlk 2 W2.heap.size (n.sn) n.S W3) := by
    show IsBlk _ _ _ _ _
    rw [hW3]; exact HKB.out.block (plhs _ _ _ (by have := HSZ.out; have := HLW.out; omega) _ _)
  clear hW3 RA1 RO1 RP1 hb2 hk2 HK2 HB2 HKA HKB HB3 HRA2 HRO2 HRP2
  go_wp2_with fail
  rw [← HW3.out]
  refine (ntoInt64S_any wa n.hn wk n.H _ (H.out.w.below HB4.out) HS.out.2.2).mono ?_
  rintro e w3 ⟨⟨rfl, hk3⟩, hb3⟩
  clear a0 a1 a2 p0 p1 p2 z0 z1 z2 hl1
  have RO1 := nrow_below HRO3.out hb3
  have RP1 := nrow_below HRP3.out hb3
  have HB5 : Hid (Below w.heap.size w w3) := HB4.out.trans (hb3.mono HB4.out.size)
  have HKA5 := Lib.hid (HKA3.out.below hb3)
  have HKB5 := Lib.hid (HKB3.out.below hb3)
  have HKC5 := Lib.hid hk3
  have HLW2 : Hid (W2.heap.size < W3.heap.size) := HKB3.out.lt
  obtain ⟨⟨p0, p1, p2⟩, z0, z1, z2⟩ := rowN3 RP1
  obtain ⟨⟨o0, o1, o2⟩, y0, y1, y2⟩ := rowN3 RO1
  have hl2 : w.heap.size + 1 + 1 < w3.heap.size := RP1.lt
  have HRO5 := Lib.hid RO1
  clear RO1 RP1 hb3 hk3 HKA3 HKB3 HB4 HRA3 HRO3 HRP3
  go_wp2_with fail
  have s3 := HSZ.out
  have s4 := HLW.out
  have s5 := HLW2.out
  refine bodyPost_ret (v := plV n (some ⟨W.heap.size, 0, none⟩) n.rn (some ⟨W2.heap.size, 0, none⟩) n.sn (some ⟨W3.heap.size, 0, none⟩) n.hn) ?_ rfl ⟨⟨_, _, _, rfl, ⟨HKA5.out.block ?_, HKB5.out.block ?_, HKC5.out.block ?_, ⟨by omega, by omega, by omega⟩, by omega, by omega, by omega⟩⟩, ?_⟩
  · obtain ⟨⟨x0, x1, x2⟩, _⟩ := rowN3 (rowN_put (rowN_put (rowN_put (nrow_set HRO5.out (p := ⟨w.heap.size + 1 + 1, 2, none⟩) (by show w.heap.size + 1 ≠ w.heap.size + 1 + 1; omega) (.slice (some ⟨W3.heap.size, 0, none⟩) n.hn n.hn)) 0 (.slice (some ⟨W.heap.size, 0, none⟩) n.rn n.rn) (by simp)) 1 (.slice (some ⟨W2.heap.size, 0, none⟩) n.sn n.sn) (by simp)) 2 (.slice (some ⟨W3.heap.size, 0, none⟩) n.hn n.hn) (by simp))
    simp only [results, Tryz.results8]
    simp [go_sem, x0, x1, x2]
  · repeat rw [plhs _ _ _ (by omega)]
  · repeat rw [plhs _ _ _ (by omega)]
  · repeat rw [plhs _ _ _ (by omega)]
  · exact (((HB5.out.setCell (p := ⟨w.heap.size + 1 + 1, 2, none⟩) (by show w.heap.size ≤ w.heap.size + 1 + 1; omega) _).setCell (p := ⟨w.heap.size + 1, 0, none⟩) (by show w.heap.size ≤ w.heap.size + 1; omega) _).setCell (p := ⟨w.heap.size + 1, 1, none⟩) (by show w.heap.size ≤ w.heap.size + 1; omega) _).setCell (p := ⟨w.heap.size + 1, 2, none⟩) (by show w.heap.size ≤ w.heap.size + 1; omega) _
set_option maxRecDepth 100000 in
set_option maxHeartbeats 4000000 in
theorem eqPlan_same (n : Pl.Plan) (la fa wa la' fa' wa' : Option Addr) (lk fk wk lk' fk' wk' : Nat) (w : World) (h1 : PlAt n la fa wa w) (h2 : PlAt n la' fa' wa' w) (hs : PlSmall n) :
    Calls Tryz.prog 11 #[plV n la lk fa fk wa wk, plV n la' lk' fa' fk' wa' wk'] w fun e w' => e = .returned (.bool true) ∧ Below w.heap.size w w' := by
  obtain ⟨W, hW⟩ : ∃ W, W = (w.alloc (.cells #[.slice la n.rn lk, .slice fa n.sn fk, .slice wa n.hn wk] 32)).alloc (.cells #[.slice la' n.rn lk', .slice fa' n.sn fk', .slice wa' n.hn wk'] 32) := ⟨_, rfl⟩
  have hB : Below w.heap.size w W := by rw [hW]; exact ((Below.refl _ _).alloc (Nat.le_refl _) _).alloc (by simp) _
  have RA : W.rowIs w.heap.size 32 3 (rowN (plL n la lk fa fk wa wk)) := by
    rw [hW]; exact nrow_below (rowN_alloc w _ _) (nbel_alloc _ _)
  have RO : W.rowIs (w.heap.size + 1) 32 3 (rowN (plL n la' lk' fa' fk' wa' wk')) := by
    rw [hW]; exact rowN_alloc' (by simp) _ _
  have HW := Lib.hid hW
  have HB := Lib.hid hB
  have H1 := Lib.hid h1
  have H2 := Lib.hid h2
  have HS := Lib.hid hs
  have HRA := Lib.hid RA
  have HRO := Lib.hid RO
  clear hW hB h1 h2 hs RA RO
  go_enter Tryz.func11, Tryz.ntmps11
  go_wp2_with fail
  rw [← HW.out]
  refine (neqRowS_same la la' n.rn lk lk' n.R _ (H1.out.below HB.out).l (H2.out.below HB.out).l HS.out.1).mono ?_
  rintro e w1 ⟨rfl, hb1⟩
  obtain ⟨⟨x0, x1, x2⟩, _⟩ := rowN3 (nrow_below HRA.out hb1)
  obtain ⟨⟨y0, y1, y2⟩, _⟩ := rowN3 (nrow_below HRO.out hb1)
  have HB1 : Hid (Below w.heap.size w w1) := HB.out.trans (hb1.mono HB.out.size)
  have HRA1 := Lib.hid (nrow_below HRA.out hb1)
  have HRO1 := Lib.hid (nrow_below HRO.out hb1)
  clear hb1 HRA HRO
  go_wp2_with fail
  refine (neqInt64S_same fa fa' n.sn fk fk' n.S _ (H1.out.below HB1.out).f (H2.out.below HB1.out).f HS.out.2.1).mono ?_
  rintro e w2 ⟨rfl, hb2⟩
  clear x0 x1 x2 y0 y1 y2
  obtain ⟨⟨x0, x1, x2⟩, _⟩ := rowN3 (nrow_below HRA1.out hb2)
  obtain ⟨⟨y0, y1, y2⟩, _⟩ := rowN3 (nrow_below HRO1.out hb2)
  have HB2 : Hid (Below w.heap.size w w2) := HB1.out.trans (hb2.mono HB1.out.size)
  clear hb2
  go_wp2_with fail
  refine (neqInt64S_same wa wa' n.hn wk wk' n.H _ (H1.out.below HB2.out).w (H2.out.below HB2.out).w HS.out.2.2).mono ?_
  rintro e w3 ⟨rfl, hb3⟩
  have HB3 : Hid (Below w.heap.size w w3) := HB2.out.trans (hb3.mono HB2.out.size)
  clear x0 x1 x2 y0 y1 y2 hb3
  go_wp2_with fail
  go_ret
  exact ⟨rfl, HB3.out⟩
/-- What is left: below nought, or all is small. -/
def PlSz (n : Pl.Plan) (e : Ending) : Prop := ∃ z : Int, e = .returned (.int .i64 z) ∧ (z < 0 ∨ ((0 ≤ z ∧ z ≤ 1048576) ∧ PlSmall n))
set_option maxRecDepth 100000 in
set_option maxHeartbeats 2000000 in
theorem szPlan_any (n : Pl.Plan) (la : Option Addr) (lk : Nat) (fa : Option Addr) (fk : Nat) (wa : Option Addr) (wk : Nat) (w : World) (h1 : n.rn ≤ 9223372036854775807) (h2 : n.sn ≤ 9223372036854775807) (h3 : n.hn ≤ 9223372036854775807) :
    Calls Tryz.prog 6 #[plV n la lk fa fk wa wk, .int .i64 1048576] w fun e w' => PlSz n e ∧ Below w.heap.size w w' := by
  have hB := Lib.hid (nbel_alloc w (.cells #[.slice la n.rn lk, .slice fa n.sn fk, .slice wa n.hn wk] 25))
  by_cases k1 : n.rn ≤ 1048576
  · have z1 : ¬ ((1048576 - n.rn : Nat) : Int) < 0 := by omega
    by_cases k2 : n.sn ≤ 1048576 - n.rn
    · have z2 : ¬ ((1048576 - n.rn - n.sn : Nat) : Int) < 0 := by omega
      by_cases k3 : n.hn ≤ 1048576 - n.rn - n.sn
      · have z3 : ¬ ((1048576 - n.rn - n.sn - n.hn : Nat) : Int) < 0 := by omega
        go_enter Tryz.func6, Tryz.ntmps6
        go_wp2_with fail
        refine (nszRow_in la n.rn lk 1048576 _ k1 (by omega)).mono ?_
        rintro e w1 ⟨rfl, rfl⟩
        go_wp2_with fail
        refine (nszInt64_in fa n.sn fk (1048576 - n.rn) _ k2 (by omega)).mono ?_
        rintro e w1 ⟨rfl, rfl⟩
        go_wp2_with fail
        refine (nszInt64_in wa n.hn wk (1048576 - n.rn - n.sn) _ k3 (by omega)).mono ?_
        rintro e w1 ⟨rfl, rfl⟩
        go_wp2_with fail
        go_ret
        exact ⟨⟨_, rfl, Or.inr ⟨by omega, k1, by omega, by omega⟩⟩, hB.out⟩
      · go_enter Tryz.func6, Tryz.ntmps6
        go_wp2_with fail
        refine (nszRow_in la n.rn lk 1048576 _ k1 (by omega)).mono ?_
        rintro e w1 ⟨rfl, rfl⟩
        go_wp2_with fail
        refine (nszInt64_in fa n.sn fk (1048576 - n.rn) _ k2 (by omega)).mono ?_
        rintro e w1 ⟨rfl, rfl⟩
        go_wp2_with fail
        refine (nszInt64_over wa n.hn wk (1048576 - n.rn - n.sn) _ (by omega) (by omega) h3).mono ?_
        rintro e w1 ⟨rfl, rfl⟩
        go_wp2_with fail
        go_ret
        exact ⟨⟨_, rfl, Or.inl (by omega)⟩, hB.out⟩
    · go_enter Tryz.func6, Tryz.ntmps6
      go_wp2_with fail
      refine (nszRow_in la n.rn lk 1048576 _ k1 (by omega)).mono ?_
      rintro e w1 ⟨rfl, rfl⟩
      go_wp2_with fail
      refine (nszInt64_over fa n.sn fk (1048576 - n.rn) _ (by omega) (by omega) h2).mono ?_
      rintro e w1 ⟨rfl, rfl⟩
      go_wp2_with fail
      go_ret
      exact ⟨⟨_, rfl, Or.inl (by omega)⟩, hB.out⟩
  · go_enter Tryz.func6, Tryz.ntmps6
    go_wp2_with fail
    refine (nszRow_over la n.rn lk 1048576 _ (by omega) (by omega) h1).mono ?_
    rintro e w1 ⟨rfl, rfl⟩
    go_wp2_with fail
    go_ret
    exact ⟨⟨_, rfl, Or.inl (by omega)⟩, hB.out⟩
/-- Three blocks alone may have changed. -/
structure OnlyL (gl gf gw : Nat) (w w' : World) : Prop where
  os : w'.os = w.os
  tape : w'.tape = w.tape
  output : w'.output = w.output
  size : w.heap.size ≤ w'.heap.size
  block : ∀ k, k < w.heap.size → k ≠ gl → k ≠ gf → k ≠ gw → w'.heap[k]? = w.heap[k]?
set_option maxRecDepth 100000 in
set_option maxHeartbeats 2000000 in
theorem markPlan_any (n : Pl.Plan) (B gl gf gw : Nat) (lk fk wk : Nat) (w : World) (h : PlBlk n B gl gf gw w) (hs : PlSmall n) :
    Calls Tryz.prog 12 #[plV n (some ⟨gl, 0, none⟩) lk (some ⟨gf, 0, none⟩) fk (some ⟨gw, 0, none⟩) wk, .int .i64 1] w fun e w' => (∃ M : Nat, e = .returned (.int .i64 M) ∧ M ≤ 16777216) ∧ OnlyL gl gf gw w w' := by
  obtain ⟨W, hW⟩ : ∃ W, W = w.alloc (.cells #[.slice (some ⟨gl, 0, none⟩) n.rn lk, .slice (some ⟨gf, 0, none⟩) n.sn fk, .slice (some ⟨gw, 0, none⟩) n.hn wk] 32) := ⟨_, rfl⟩
  have RA : W.rowIs w.heap.size 32 3 (rowN (plL n (some ⟨gl, 0, none⟩) lk (some ⟨gf, 0, none⟩) fk (some ⟨gw, 0, none⟩) wk)) := by rw [hW]; exact rowN_alloc w _ _
  have hB : Below w.heap.size w W := by rw [hW]; exact nbel_alloc _ _
  have HW := Lib.hid hW
  have H0 := Lib.hid h
  have H := Lib.hid (h.below hB)
  have HB := Lib.hid hB
  have HS := Lib.hid hs
  have HRA := Lib.hid RA
  clear hW h hs RA hB
  go_enter Tryz.func12, Tryz.ntmps12
  go_wp2_with fail
  rw [← HW.out]
  refine (nmarkRowS_any gl n.rn lk 1 n.R _ H.out.l HS.out.1 (by omega)).mono ?_
  rintro e w1 ⟨rfl, _, ho1⟩
  have RA1 : w1.rowIs w.heap.size 32 3 _ := HRA.out.of_block (ho1.block _ HRA.out.lt (by have := H0.out.l.lt; omega))
  have K1 : Hid (IsBlk 2 gf (n.sn) n.S w1) := H.out.f.block (ho1.block _ H.out.f.lt (Ne.symm H.out.ne.1))
  have K2 : Hid (IsBlk 2 gw n.hn n.H w1) := H.out.w.block (ho1.block _ H.out.w.lt (Ne.symm H.out.ne.2.1))
  have HO1 := Lib.hid ho1
  obtain ⟨⟨x0, x1, x2⟩, _⟩ := rowN3 RA1
  have HRA1 := Lib.hid RA1
  clear ho1 RA1
  obtain ⟨M1, hM1⟩ : ∃ M : Nat, M = 1 + n.rn * 3 := ⟨_, rfl⟩
  rw [← hM1]
  have q1 : M1 ≤ 4194304 := by have := HS.out.1; omega
  clear hM1
  go_wp2_with fail
  refine (nmarkInt64S_any gf n.sn fk M1 n.S _ K1.out HS.out.2.1 (by omega)).mono ?_
  rintro e w2 ⟨rfl, _, ho2⟩
  have RA2 : w2.rowIs w.heap.size 32 3 _ := HRA1.out.of_block (ho2.block _ HRA1.out.lt (by have := H0.out.f.lt; omega))
  have K3 : Hid (IsBlk 2 gw n.hn n.H w2) := K2.out.block (ho2.block _ K2.out.lt (Ne.symm H.out.ne.2.2))
  have HO2 := Lib.hid ho2
  clear x0 x1 x2
  obtain ⟨⟨x0, x1, x2⟩, _⟩ := rowN3 RA2
  clear ho2 RA2 K1 K2
  obtain ⟨M2, hM2⟩ : ∃ M : Nat, M = M1 + n.sn := ⟨_, rfl⟩
  rw [← hM2]
  have q2 : M2 ≤ 8388608 := by have := HS.out.2.1; omega
  clear hM2
  go_wp2_with fail
  refine (nmarkInt64S_any gw n.hn wk M2 n.H _ K3.out HS.out.2.2 (by omega)).mono ?_
  rintro e w3 ⟨rfl, _, ho3⟩
  have HO3 := Lib.hid ho3
  clear ho3 K3 x0 x1 x2
  go_wp2_with fail
  go_ret
  have o1 := HO1.out
  have o2 := HO2.out
  have o3 := HO3.out
  have b0 := HB.out
  refine ⟨⟨_, rfl, by have := HS.out.2.2; omega⟩, o3.os.trans (o2.os.trans (o1.os.trans b0.os)), o3.tape.trans (o2.tape.trans (o1.tape.trans b0.tape)), o3.output.trans (o2.output.trans (o1.output.trans b0.output)), Nat.le_trans b0.size (Nat.le_trans o1.size (Nat.le_trans o2.size o3.size)), fun k hk e1 e2 e3 => ?_⟩
  have s0 := b0.size
  have s1 := o1.size
  have s2 := o2.size
  rw [o3.block k (by omega) e3, o2.block k (by omega) e2, o1.block k (by omega) e1, b0.block k hk]
end Go.Proofs.YtipmjobhegpdgaaGreatDoor
namespace Go.Proofs.YtipmjobhegpdgaaGreatDoor
open Go Go.ChangeShapes Go.WideShapes Go.ChangeAt Go.RowKit Go.Joins Go.Deep

theorem ncellsI : Tryz.prog.cellsOf 2 = 1 := by kernel_rfl
theorem ncellsIsP : Tryz.prog.cellsOf 23 = 1 := by kernel_rfl
set_option maxRecDepth 100000 in
theorem pints_in {H : Type} {enc : TypeId × Value → H} {W : World} {base fuel : Nat} {spare : Nat → Bool} {held : Bool} {x : DataW H × List MemPlace} {y : Value}
    (h : DataW.trod enc Tryz.prog W base spare held fuel 23 [y] = some x) : ∃ a len cap f, y = .slice a len cap ∧ IsIn a len f W ∧ len ≤ 9223372036854775807 := by
  rcases open_slice1 Tryz.underlying23 ncellsI h with ⟨hcs, _⟩ | ⟨ad, len, cap, m, n, V, D, Pl, hcs, _, hl, hm9, hmm, _, hcell⟩
  · simp at hcs
    subst hcs
    exact ⟨none, 0, 0, fun _ => 0, rfl, Or.inl rfl, by omega⟩
  · simp at hcs
    subst hcs
    refine ⟨some ad, len, cap, ?_⟩
    have hlm : len ≤ m := by rw [hmm]; split <;> omega
    have hbig : len ≤ 9223372036854775807 := by unfold maxLen at hm9; omega
    by_cases h0 : len = 0
    · exact ⟨fun _ => 0, rfl, Or.inl h0, hbig⟩
    obtain ⟨b, off, spot⟩ := ad
    have hsp : spot = none := by
      have q0 := (hcell 0 (by omega)).1
      have := World.cell?_spot q0
      simpa [Addr.add] using this
    subst hsp
    have each : ∀ i, ∃ z : Int, i < len → W.cell? ⟨b, off + i, none⟩ = some (.int .i64 z) := by
      intro i
      by_cases hi : i < len
      · obtain ⟨h1, h2⟩ := hcell i (by omega)
        obtain ⟨z, e, _, _⟩ := DataW.trod_int Tryz.underlying2 h2
        simp at e
        refine ⟨z, fun _ => ?_⟩
        rw [← e, ← h1, Addr.add_lit]
      · exact ⟨0, fun h => absurd h hi⟩
    obtain ⟨f, hf⟩ := Classical.axiomOfChoice each
    exact ⟨f, rfl, Or.inr ⟨b, off, rfl, fun i hi => hf i hi⟩, hbig⟩
theorem ncellsRow : Tryz.prog.cellsOf 90 = 3 := by kernel_rfl
set_option maxRecDepth 100000 in
theorem rows_in {H : Type} {enc : TypeId × Value → H} {W : World} {base fuel : Nat} {spare : Nat → Bool} {held : Bool} {x : DataW H × List MemPlace} {y : Value}
    (h : DataW.trod enc Tryz.prog W base spare held fuel 22 [y] = some x) : ∃ a len cap f, y = .slice a len cap ∧ IsIn a (len * 3) f W ∧ len ≤ 9223372036854775807 := by
  rcases open_slice Tryz.underlying22 h with ⟨hcs, _⟩ | ⟨ad, len, cap, m, n, D, Pl, hcs, _, hl, hm9, hmm, _, hx⟩
  · simp at hcs
    subst hcs
    exact ⟨none, 0, 0, fun _ => 0, rfl, Or.inl rfl, by omega⟩
  · simp at hcs
    subst hcs
    refine ⟨some ad, len, cap, ?_⟩
    have hlm : len ≤ m := by rw [hmm]; split <;> omega
    have hbig : len ≤ 9223372036854775807 := by unfold maxLen at hm9; omega
    by_cases h0 : len = 0
    · exact ⟨fun _ => 0, rfl, Or.inl (by omega), hbig⟩
    obtain ⟨b, off, spot⟩ := ad
    have hsp : spot = none := by
      obtain ⟨cs', h1, _⟩ := hx 0 (by omega)
      rw [ncellsRow] at h1
      obtain ⟨_, hlen, hcell⟩ := World.cells?_some h1
      have q0 := hcell 0 (by omega)
      rw [List.getElem?_eq_getElem (by omega)] at q0
      have := World.cell?_spot q0
      simpa [Addr.add] using this
    subst hsp
    have each : ∀ i, ∃ r : Nat → Int, i < len → ∀ c, c < 3 → W.cell? ⟨b, off + (i * 3 + c), none⟩ = some (.int .i64 (r c)) := by
      intro i
      by_cases hi : i < len
      · obtain ⟨cs', h1, h2⟩ := hx i (by omega)
        rw [ncellsRow] at h1
        obtain ⟨_, hlen, hcell⟩ := World.cells?_some h1
        obtain ⟨xs, k, hk, hxy, _, hxl, hf⟩ := DataW.trod_struct Tryz.underlying90 h2
        match xs, hxl, cs', hlen with
        | [y0, y1, y2], _, [v0, v1, v2], _ =>
          have g0 := hf 0 _ rfl
          have g1 := hf 1 _ rfl
          have g2 := hf 2 _ rfl
          simp [ncellsI] at g0 g1 g2
          obtain ⟨z0, e0, _, _⟩ := DataW.trod_int Tryz.underlying2 g0
          obtain ⟨z1, e1, _, _⟩ := DataW.trod_int Tryz.underlying2 g1
          obtain ⟨z2, e2, _, _⟩ := DataW.trod_int Tryz.underlying2 g2
          simp at e0 e1 e2
          have q0 := hcell 0 (by omega)
          have q1 := hcell 1 (by omega)
          have q2 := hcell 2 (by omega)
          rw [Addr.add_add] at q0 q1 q2
          simp at q0 q1 q2
          refine ⟨fun c => [z0, z1, z2].getD c 0, fun _ c hc => ?_⟩
          have hc3 : c = 0 ∨ c = 1 ∨ c = 2 := by omega
          rcases hc3 with rfl | rfl | rfl
          · show _ = some (Value.int .i64 z0)
            rw [← e0, ← q0, Addr.add_lit]; rfl
          · show _ = some (Value.int .i64 z1)
            rw [← e1, ← q1, Addr.add_lit]
          · show _ = some (Value.int .i64 z2)
            rw [← e2, ← q2, Addr.add_lit]
      · exact ⟨fun _ => 0, fun h => absurd h hi⟩
    obtain ⟨r, hr⟩ := Classical.axiomOfChoice each
    refine ⟨fun j => r (j / 3) (j % 3), rfl, Or.inr ⟨b, off, rfl, fun j hj => ?_⟩, hbig⟩
    have := hr (j / 3) (by omega) (j % 3) (by omega)
    have e : j / 3 * 3 + j % 3 = j := by omega
    rw [e] at this
    exact this
theorem ncellsPlan : Tryz.prog.cellsOf 25 = 3 := by kernel_rfl
theorem ncellsRs : Tryz.prog.cellsOf 22 = 1 := by kernel_rfl
/-- No list is longer than a list can be. -/
def PlLens (n : Pl.Plan) : Prop := n.rn ≤ 9223372036854775807 ∧ n.sn ≤ 9223372036854775807 ∧ n.hn ≤ 9223372036854775807
set_option maxRecDepth 100000 in
theorem plan_in {H : Type} {enc : TypeId × Value → H} {W : World} {base fuel : Nat} {spare : Nat → Bool} {held : Bool} {x : DataW H × List MemPlace} {cs : Array Value}
    (h : DataW.trod enc Tryz.prog W base spare held fuel 25 cs.toList = some x) (hsz : cs.size = Tryz.prog.cellsOf 25) :
    ∃ (n : Pl.Plan) (la : Option Addr) (lk : Nat) (fa : Option Addr) (fk : Nat) (wa : Option Addr) (wk : Nat), cs = #[.slice la n.rn lk, .slice fa n.sn fk, .slice wa n.hn wk] ∧ PlIn n la fa wa W ∧ PlLens n := by
  rw [ncellsPlan] at hsz
  obtain ⟨xs, k, hk, hxy, _, hxl, hf⟩ := DataW.trod_struct Tryz.underlying25 h
  obtain ⟨l⟩ := cs
  match xs, hxl, l, hsz with
  | [y0, y1, y2], _, [v0, v1, v2], _ =>
    have g0 := hf 0 _ rfl
    have g1 := hf 1 _ rfl
    have g2 := hf 2 _ rfl
    simp [ncellsRs, ncellsIsP] at g0 g1 g2
    obtain ⟨la, ln, lk, L, rfl, h1, h2⟩ := rows_in g0
    obtain ⟨fa, fn, fk, F, rfl, h3, h4⟩ := pints_in g1
    obtain ⟨wa, wn, wk, Wn, rfl, h5, h6⟩ := pints_in g2
    exact ⟨⟨ln, L, fn, F, wn, Wn⟩, la, lk, fa, fk, wa, wk, rfl, ⟨h1, h3, h5⟩, h2, h4, h6⟩
end Go.Proofs.YtipmjobhegpdgaaGreatDoor
namespace Go.Proofs.YtipmjobhegpdgaaGreatDoor
open Go.RowKit Go.Deep

/-- What stands in a law over a plan: its own block, the block of the plan that was handed to the program, its lists, the old memory, and more. -/
structure PL (w : World) (n : Pl.Plan) (la : Option Addr) (lk : Nat) (fa : Option Addr) (fk : Nat) (wa : Option Addr) (wk : Nat) (X B gl gf gw : Nat) (P : World → Prop) (W : World) : Prop where
  ra : W.rowIs w.heap.size 25 3 (rowN (plL n la lk fa fk wa wk))
  rx : W.rowIs X 32 3 (rowN (plL n (some ⟨gl, 0, none⟩) n.rn (some ⟨gf, 0, none⟩) n.sn (some ⟨gw, 0, none⟩) n.hn))
  kx : PlBlk n B gl gf gw W
  old : Below w.heap.size w W
  p : P W
/-- It lasts. -/
def Lasts (P : World → Prop) : Prop := ∀ W W', Below W.heap.size W W' → P W → P W'
theorem PL.below {w : World} {n : Pl.Plan} {la : Option Addr} {lk : Nat} {fa : Option Addr} {fk : Nat} {wa : Option Addr} {wk : Nat} {X B gl gf gw : Nat} {P : World → Prop} {W W' : World} (hP : Lasts P) (h : PL w n la lk fa fk wa wk X B gl gf gw P W) (hb : Below W.heap.size W W') : PL w n la lk fa fk wa wk X B gl gf gw P W' :=
  ⟨nrow_below h.ra hb, nrow_below h.rx hb, h.kx.below hb, h.old.trans (hb.mono h.old.size), hP _ _ hb h.p⟩
theorem lasts_true : Lasts (fun _ => True) := fun _ _ _ _ => trivial
end Go.Proofs.YtipmjobhegpdgaaGreatDoor
namespace Go.Proofs.YtipmjobhegpdgaaGreatDoor
open Go.RowKit Go.Deep
namespace Fl
/-- One more from u to v. -/
def bump (F : Nat → Nat → Int) (u v : Nat) : Nat → Nat → Int := fun a b => F a b + (if a = u ∧ b = v then 1 else 0) - (if a = v ∧ b = u then 1 else 0)
theorem bump_anti {F : Nat → Nat → Int} (h : ∀ a b, F a b = - F b a) (u v : Nat) : ∀ a b, bump F u v a b = - bump F u v b a := fun a b => by
  unfold bump
  have h1 := h a b
  have e1 : (if b = u ∧ a = v then (1 : Int) else 0) = if a = v ∧ b = u then 1 else 0 := by simp only [And.comm]
  have e2 : (if b = v ∧ a = u then (1 : Int) else 0) = if a = u ∧ b = v then 1 else 0 := by simp only [And.comm]
  rw [e1, e2]
  omega
theorem bump_sum {F : Nat → Nat → Int} {n u v a : Nat} (hu : u < n) (hv : v < n) : sm (fun b => bump F u v a b) n = sm (fun b => F a b) n + (if a = u then 1 else 0) - (if a = v then 1 else 0) := by
  unfold bump
  rw [sm_sub (fun b => F a b + (if a = u ∧ b = v then 1 else 0)), sm_add]
  have e1 : sm (fun b => if a = u ∧ b = v then (1 : Int) else 0) n = if a = u then 1 else 0 := by
    rw [← sm_ind hv (a = u) 1]
    exact sm_congr (fun b _ => by simp only [eq_comm])
  have e2 : sm (fun b => if a = v ∧ b = u then (1 : Int) else 0) n = if a = v then 1 else 0 := by
    rw [← sm_ind hu (a = v) 1]
    exact sm_congr (fun b _ => by simp only [eq_comm])
  rw [e1, e2]
/-- A way that is being taken, from a source on; it stands at x. -/
structure AugF (n : Nat) (c : Nat → Nat → Int) (held : Nat → Nat → Prop) (src : Nat → Prop) (t : Nat) (F : Nat → Nat → Int) (nx : Nat → Int) (rk : Nat → Nat) (cur : Nat → Nat → Int) (x : Nat) (k : Int) : Prop where
  anti : ∀ a b, cur a b = - cur b a
  fanti : ∀ a b, F a b = - F b a
  net : ∀ a, a < n → ¬ src a → sm (fun b => cur a b) n = (if a = t then - k else 0) - (if a = x then 1 else 0)
  same : ∀ v, v < n → rk v ≤ rk x → nx v ≠ -1 → cur v (nx v).toNat = F v (nx v).toNat
  most : ∀ a b, a < n → b < n → ¬ held a b → cur a b ≤ c a b
  near : ∀ a b, F a b - 1 ≤ cur a b ∧ cur a b ≤ F a b + 1
  lt : x < n
  reach : nx x ≠ -1
theorem AugF.start {n : Nat} {c : Nat → Nat → Int} {held : Nat → Nat → Prop} {src : Nat → Prop} {t : Nat} {F : Nat → Nat → Int} {nx : Nat → Int} {rk : Nat → Nat} {k : Int} (h : Flow n c held src t F k) (hts : ¬ src t) {s : Nat} (hs : src s) (hn : s < n) (hr : nx s ≠ -1) : AugF n c held src t F nx rk F s k := by
  refine ⟨h.anti, h.anti, fun a ha hsa => ?_, fun _ _ _ _ => rfl, h.most, fun a b => by omega, hn, hr⟩
  have hne : ¬ a = s := fun e => hsa (e ▸ hs)
  rw [if_neg hne]
  by_cases e : a = t
  · subst e
    rw [if_pos rfl]
    have h1 : sm (fun b => F a b) n = - sm (fun b => F b a) n := by rw [← sm_neg]; exact sm_congr (fun b _ => h.anti a b)
    rw [h1, h.val]; omega
  · rw [if_neg e, h.cons a ha hsa e]; rfl
theorem AugF.step {n : Nat} {c : Nat → Nat → Int} {held : Nat → Nat → Prop} {src : Nat → Prop} {t : Nat} {F : Nat → Nat → Int} {nx : Nat → Int} {rk : Nat → Nat} {k : Int} {cur : Nat → Nat → Int} {x y : Nat} (h : AugF n c held src t F nx rk cur x k)
    (hv : ∀ v, v < n → nx v ≠ -1 → (v = t ∧ nx v = (v : Int)) ∨ (Room c held F v (nx v).toNat ∧ nx (nx v).toNat ≠ -1 ∧ rk (nx v).toNat < rk v)) (hy : nx x = (y : Int)) (hyn : y < n) (hne : y ≠ x) : AugF n c held src t F nx rk (bump cur x y) y k ∧ rk y < rk x ∧ Room c held cur x y := by
  have hxy : (nx x).toNat = y := by omega
  obtain ⟨hR, hn, hrk⟩ : Room c held F x y ∧ nx y ≠ -1 ∧ rk y < rk x := by
    rcases hv x h.lt h.reach with ⟨_, e⟩ | e
    · rw [hy] at e; exact absurd (by omega) hne
    · rw [hxy] at e; exact e
  have hsx := h.same x h.lt (Nat.le_refl _) h.reach
  rw [hxy] at hsx
  have hRc : Room c held cur x y := hR.elim Or.inl (fun e => Or.inr (by rw [hsx]; exact e))
  refine ⟨⟨bump_anti h.anti x y, h.fanti, fun a ha hsa => ?_, fun v hvn hvr hvx => ?_, fun a b ha hb hh => ?_, fun a b => ?_, hyn, hn⟩, hrk, hRc⟩
  · rw [bump_sum h.lt hyn, h.net a ha hsa]
    by_cases e1 : a = x
    · have e2 : ¬ a = y := fun e => hne (by omega)
      rw [if_pos e1, if_neg e2]
      omega
    · by_cases e2 : a = y
      · simp only [if_neg e1, if_pos e2]; omega
      · simp only [if_neg e1, if_neg e2]; omega
  · unfold bump
    have h1 : ¬ (v = x ∧ (nx v).toNat = y) := fun e => by rw [e.1] at hvr; omega
    have h2 : ¬ (v = y ∧ (nx v).toNat = x) := fun e => by
      rcases hv v hvn hvx with ⟨_, e3⟩ | ⟨_, _, e3⟩
      · rw [e.1] at e3
        have e4 := e.2
        rw [e.1] at e4
        omega
      · rw [e.2, e.1] at e3; omega
    rw [if_neg h1, if_neg h2, h.same v hvn (by omega) hvx]
    omega
  · unfold bump
    have hm := h.most a b ha hb hh
    by_cases e1 : a = x ∧ b = y
    · have e2 : ¬ (a = y ∧ b = x) := fun e => hne (by omega)
      rw [if_pos e1, if_neg e2]
      rcases hRc with r | r
      · exact absurd r (by rw [e1.1, e1.2] at hh; exact hh)
      · rw [e1.1, e1.2]; omega
    · rw [if_neg e1]
      split <;> omega
  · have hn2 := h.near a b
    unfold bump
    by_cases e1 : a = x ∧ b = y
    · have e2 : ¬ (a = y ∧ b = x) := fun e => hne (by omega)
      rw [if_pos e1, if_neg e2, e1.1, e1.2, hsx]; omega
    · by_cases e2 : a = y ∧ b = x
      · have h3 := h.anti y x
        have h4 := h.fanti y x
        rw [if_neg e1, if_pos e2, e2.1, e2.2]
        omega
      · rw [if_neg e1, if_neg e2]; omega
theorem AugF.stop {n : Nat} {c : Nat → Nat → Int} {held : Nat → Nat → Prop} {src : Nat → Prop} {t : Nat} {F : Nat → Nat → Int} {nx : Nat → Int} {rk : Nat → Nat} {k : Int} {cur : Nat → Nat → Int} (h : AugF n c held src t F nx rk cur t k) (hts : ¬ src t) : Flow n c held src t cur (k + 1) := by
  refine ⟨h.anti, h.most, fun a ha hsa hne => ?_, ?_⟩
  · rw [h.net a ha hsa, if_neg hne, if_neg hne]; rfl
  · have h1 : sm (fun b => cur b t) n = - sm (fun b => cur t b) n := by rw [← sm_neg]; exact sm_congr (fun b _ => h.anti b t)
    rw [h1, h.net t h.lt hts, if_pos rfl, if_pos rfl]; omega
/-- What a search from t tells of the near places. -/
theorem found_near {n : Nat} {c : Nat → Nat → Int} {held : Nat → Nat → Prop} {F : Nat → Nat → Int} {t : Nat} {nx : Nat → Int} {R : Nat → Nat → Prop} (ht : t < n) (hR : ∀ a b, a < n → b < n → (R a b ↔ Room c held F a b)) (h : Found n (fun v => v = t) R nx) : Near n c held F t (fun v => nx v != -1) := by
  refine ⟨?_, fun a b ha hb ea eb x => ?_, fun M hM hc a ha e => ?_⟩
  · rw [h.goals t ht rfl]; simp
  · have := h.shut a b ha hb (by simpa using eb) ((hR a b ha hb).2 x)
    simp at ea
    exact this ea
  · refine h.sub (A := fun v => M v = true) (fun v _ e => by rw [e]; exact hM) (fun a b ha hb hr eb => ?_) a ha (by simpa using e)
    cases ea : M a with
    | true => rfl
    | false => exact absurd ((hR a b ha hb).1 hr) (hc a b ha hb ea eb)
theorem found_best {p : Pl.Plan} {F : Nat → Nat → Int} {k : Int} {t : Nat} {nx : Nat → Int} {R : Nat → Nat → Prop} (ht : t < p.hn) (hf : Flow p.hn (cc p) (hh p) (isSrc p) t F k) (hR : ∀ a b, a < p.hn → b < p.hn → (R a b ↔ Room (cc p) (hh p) F a b)) (h : Found p.hn (fun v => v = t) R nx) (hs : ∀ a, a < p.hn → isSrc p a → nx a = -1) : Best p t (fun v => nx v != -1) :=
  ⟨⟨F, k, hf, found_near ht hR h⟩, fun a ha hsa => by simp [hs a ha hsa]⟩
/-- The steps of a search, as the way that is taken wants them. -/
theorem found_steps {n : Nat} {c : Nat → Nat → Int} {held : Nat → Nat → Prop} {F : Nat → Nat → Int} {t : Nat} {nx : Nat → Int} {R : Nat → Nat → Prop} (hR : ∀ a b, a < n → b < n → (R a b ↔ Room c held F a b)) (h : Found n (fun v => v = t) R nx) : ∃ rk : Nat → Nat, ∀ v, v < n → nx v ≠ -1 → (v = t ∧ nx v = (v : Int)) ∨ (Room c held F v (nx v).toNat ∧ nx (nx v).toNat ≠ -1 ∧ rk (nx v).toNat < rk v) := by
  obtain ⟨rk, hr⟩ := h.rank
  refine ⟨rk, fun v hv hn => ?_⟩
  rcases hr v hv hn with e | ⟨e1, e2, e3⟩
  · exact Or.inl e
  · have hb : (nx v).toNat < n := by
      rcases h.rng v hv with z | z
      · exact absurd z hn
      · omega
    exact Or.inr ⟨(hR v _ hv hb).1 e1, e2, e3⟩
/-- The places that are dry by all good rows are a cut. -/
theorem dry_cut {p : Pl.Plan} (_hr : Pl.Right p) {t : Nat} (hd : ¬ Pl.Wet p (Pl.Good p) t) : Cut p.hn (hh p) (isSrc p) t (fun v => dB (¬ Pl.Wet p (Pl.Good p) v)) := by
  refine ⟨dB_tt hd, fun a _ hs => ?_, fun a b _ _ ea eb hH => ?_⟩
  · obtain ⟨i, hi, e⟩ := hs
    refine dB_ff (fun x => x ?_)
    have := Pl.Wet.src (p := p) (sh := Pl.Good p) i hi
    rw [e] at this
    simpa using this
  · obtain ⟨i, hi, hb, hv⟩ := hH
    have hng : ¬ Pl.Good p i := fun x => hv x.2
    have hwb : ¬ Pl.Wet p (Pl.Good p) b := dB_iff.1 eb
    have hwa : Pl.Wet p (Pl.Good p) a := Classical.byContradiction (fun x => by rw [dB_tt x] at ea; cases ea)
    rcases hb with ⟨e1, e2⟩ | ⟨e1, e2⟩
    · exact hwb (by rw [← e2]; exact .fwd i hi hng (by rw [e1]; exact hwa))
    · exact hwb (by rw [← e1]; exact .bwd i hi hng (by rw [e2]; exact hwa))
theorem sm_bd {f : Nat → Int} {n : Nat} {B : Int} (h : ∀ i, i < n → f i ≤ B) : sm f n ≤ n * B := by
  induction n with
  | zero => simp [sm]
  | succ n ih =>
    simp only [sm]
    have h1 := ih (fun i hi => h i (by omega))
    have h2 := h n (by omega)
    have e : ((n + 1 : Nat) : Int) * B = n * B + B := by rw [Int.natCast_add, Int.add_mul]; simp
    omega
theorem cc_bd (p : Pl.Plan) (a b : Nat) : cc p a b ≤ p.rn := by
  unfold cc
  have := sm_bd (f := fun i => if btw p i a b then (1 : Int) else 0) (n := p.rn) (B := 1) (fun i _ => by split <;> omega)
  omega
/-- The number of ways is bounded. -/
theorem Flow.few {p : Pl.Plan} (hr : Pl.Right p) {t : Nat} (ht : t < p.hn) (hd : ¬ Pl.Wet p (Pl.Good p) t) {F : Nat → Nat → Int} {k : Int} (h : Flow p.hn (cc p) (hh p) (isSrc p) t F k) : k ≤ 160000 := by
  have h1 := h.le_cut ht (dry_cut hr hd)
  have h2 : inn p.hn (fun v => dB (¬ Pl.Wet p (Pl.Good p) v)) (cc p) ≤ p.hn * (p.hn * 100) := by
    unfold inn
    refine sm_bd (fun b _ => sm_bd (fun a _ => ?_))
    split
    · have := cc_bd p a b; have := hr.r; omega
    · omega
  have h3 := hr.h2
  have h4 : ((p.hn : Int) * ((p.hn : Int) * 100)) ≤ 40 * (40 * 100) := Int.mul_le_mul (by omega) (by omega) (by omega) (by omega)
  omega
end Fl
end Go.Proofs.YtipmjobhegpdgaaGreatDoor
namespace Go.Proofs.YtipmjobhegpdgaaGreatDoor
open Go Go.RowKit Go.Deep
namespace Fl
theorem lo_comm (a b : Int) : Pl.lo a b = Pl.lo b a := by unfold Pl.lo; split <;> split <;> omega
theorem hi_comm (a b : Int) : Pl.hi a b = Pl.hi b a := by unfold Pl.hi; split <;> split <;> omega
theorem lohi_inj {a b u v : Nat} (h : (Pl.lo (a : Int) (b : Int), Pl.hi (a : Int) (b : Int)) = (Pl.lo (u : Int) (v : Int), Pl.hi (u : Int) (v : Int))) : (a = u ∧ b = v) ∨ (a = v ∧ b = u) := by
  simp only [Prod.mk.injEq] at h
  unfold Pl.lo Pl.hi at h
  obtain ⟨h1, h2⟩ := h
  by_cases c1 : (a : Int) ≤ b <;> by_cases c2 : (u : Int) ≤ v <;> simp only [c1, c2, if_true, if_false] at h1 h2 <;> omega
/-- What goes from a to b, by the bundles. -/
noncomputable def FB (cnt : Nat) (kf : Nat → Int × Int) (fl : Nat → Int) (a b : Nat) : Int :=
  @dite _ (a ≠ b ∧ ∃ j, j < cnt ∧ kf j = (Pl.lo (a : Int) (b : Int), Pl.hi (a : Int) (b : Int))) (Classical.propDecidable _) (fun h => dirF a b (fl (Classical.choose h.2))) (fun _ => 0)
theorem FB_at {cnt : Nat} {kf : Nat → Int × Int} {fl : Nat → Int} (hinj : ∀ i j, i < cnt → j < cnt → kf i = kf j → i = j) {a b j : Nat} (hne : a ≠ b) (hj : j < cnt) (e : kf j = (Pl.lo (a : Int) (b : Int), Pl.hi (a : Int) (b : Int))) : FB cnt kf fl a b = dirF a b (fl j) := by
  have h : a ≠ b ∧ ∃ j, j < cnt ∧ kf j = (Pl.lo (a : Int) (b : Int), Pl.hi (a : Int) (b : Int)) := ⟨hne, j, hj, e⟩
  unfold FB
  rw [dif_pos h]
  have hc := Classical.choose_spec h.2
  rw [hinj _ j hc.1 hj (hc.2.trans e.symm)]
theorem FB_none {cnt : Nat} {kf : Nat → Int × Int} {fl : Nat → Int} {a b : Nat} (h : ¬ (a ≠ b ∧ ∃ j, j < cnt ∧ kf j = (Pl.lo (a : Int) (b : Int), Pl.hi (a : Int) (b : Int)))) : FB cnt kf fl a b = 0 := by
  unfold FB
  rw [dif_neg h]
theorem dirF_anti {a b : Nat} (h : a ≠ b) (x : Int) : dirF a b x = - dirF b a x := by
  unfold dirF
  split <;> split <;> omega
theorem FB_anti {cnt : Nat} {kf : Nat → Int × Int} {fl : Nat → Int} (hinj : ∀ i j, i < cnt → j < cnt → kf i = kf j → i = j) (a b : Nat) : FB cnt kf fl a b = - FB cnt kf fl b a := by
  by_cases h : a ≠ b ∧ ∃ j, j < cnt ∧ kf j = (Pl.lo (a : Int) (b : Int), Pl.hi (a : Int) (b : Int))
  · obtain ⟨hne, j, hj, e⟩ := h
    have e2 : kf j = (Pl.lo (b : Int) (a : Int), Pl.hi (b : Int) (a : Int)) := by rw [lo_comm, hi_comm]; exact e
    rw [FB_at hinj hne hj e, FB_at hinj (Ne.symm hne) hj e2]
    exact dirF_anti hne _
  · have h2 : ¬ (b ≠ a ∧ ∃ j, j < cnt ∧ kf j = (Pl.lo (b : Int) (a : Int), Pl.hi (b : Int) (a : Int))) := fun ⟨hne, j, hj, e⟩ => h ⟨Ne.symm hne, j, hj, by rw [lo_comm, hi_comm]; exact e⟩
    rw [FB_none h, FB_none h2]; rfl
/-- One more over a bundle. -/
theorem FB_bump {cnt : Nat} {kf : Nat → Int × Int} {fl : Nat → Int} (hinj : ∀ i j, i < cnt → j < cnt → kf i = kf j → i = j) {u v j : Nat} (hne : u ≠ v) (hj : j < cnt) (e : kf j = (Pl.lo (u : Int) (v : Int), Pl.hi (u : Int) (v : Int))) : FB cnt kf (updI fl j (fl j + if u < v then 1 else -1)) = bump (FB cnt kf fl) u v := by
  funext a b
  unfold bump
  by_cases h : a ≠ b ∧ ∃ j, j < cnt ∧ kf j = (Pl.lo (a : Int) (b : Int), Pl.hi (a : Int) (b : Int))
  · obtain ⟨hab, i, hi, ei⟩ := h
    rw [FB_at hinj hab hi ei, FB_at hinj hab hi ei]
    by_cases eij : i = j
    · subst eij
      have hk := lohi_inj (ei.symm.trans e)
      unfold updI dirF
      rw [if_pos rfl]
      rcases hk with ⟨rfl, rfl⟩ | ⟨rfl, rfl⟩
      · have q1 : (if a = a ∧ b = b then (1 : Int) else 0) = 1 := if_pos ⟨rfl, rfl⟩
        have q2 : (if a = b ∧ b = a then (1 : Int) else 0) = 0 := if_neg (fun x => hab x.1)
        rw [q1, q2]
        by_cases c : a < b
        · have c2 : ¬ (b : Int) < a := by omega
          rw [if_neg c2, if_pos c, if_neg c2]; omega
        · have c2 : (b : Int) < a := by omega
          rw [if_pos c2, if_neg c, if_pos c2]; omega
      · have q1 : (if a = b ∧ b = a then (1 : Int) else 0) = 0 := if_neg (fun x => hab x.1)
        have q2 : (if a = a ∧ b = b then (1 : Int) else 0) = 1 := if_pos ⟨rfl, rfl⟩
        rw [q1, q2]
        by_cases c : b < a
        · have c2 : (b : Int) < a := by omega
          rw [if_pos c2, if_pos c, if_pos c2]; omega
        · have c2 : ¬ (b : Int) < a := by omega
          rw [if_neg c2, if_neg c, if_neg c2]; omega
    · have h1 : ¬ (a = u ∧ b = v) := fun x => eij (hinj i j hi hj (by rw [ei, e, x.1, x.2]))
      have h2 : ¬ (a = v ∧ b = u) := fun x => eij (hinj i j hi hj (by rw [ei, e, x.1, x.2, lo_comm, hi_comm]))
      rw [if_neg h1, if_neg h2]
      unfold updI
      rw [if_neg eij]
      omega
  · rw [FB_none h, FB_none h]
    have h1 : ¬ (a = u ∧ b = v) := fun x => h ⟨by rw [x.1, x.2]; exact hne, j, hj, by rw [x.1, x.2]; exact e⟩
    have h2 : ¬ (a = v ∧ b = u) := fun x => h ⟨by rw [x.1, x.2]; exact Ne.symm hne, j, hj, by rw [x.1, x.2, lo_comm, hi_comm]; exact e⟩
    rw [if_neg h1, if_neg h2]
    rfl
theorem key_btw {p : Pl.Plan} (hr : Pl.Right p) {i : Nat} (hi : i < p.rn) (a b : Nat) : Pl.key p i = (Pl.lo (a : Int) (b : Int), Pl.hi (a : Int) (b : Int)) ↔ btw p i a b := Pl.key_iff hr hi a b
theorem hh_iff {p : Pl.Plan} (hr : Pl.Right p) {sh : Nat → Prop} (hs : ∀ i, ¬ sh i) (a b : Nat) : hh p a b ↔ Pl.heldB p sh p.rn (Pl.lo (a : Int) (b : Int), Pl.hi (a : Int) (b : Int)) = true := by
  unfold Pl.heldB
  rw [dB_iff]
  constructor
  · rintro ⟨i, hi, hb, hv⟩; exact ⟨i, hi, hs i, (key_btw hr hi a b).2 hb, hv⟩
  · rintro ⟨i, hi, _, hk, hv⟩; exact ⟨i, hi, (key_btw hr hi a b).1 hk, hv⟩
theorem cc_eq {p : Pl.Plan} (hr : Pl.Right p) {sh : Nat → Prop} (hs : ∀ i, ¬ sh i) {a b : Nat} (hn : ¬ hh p a b) : cc p a b = (Pl.goodL p sh p.rn (Pl.lo (a : Int) (b : Int), Pl.hi (a : Int) (b : Int))).length := by
  unfold cc
  have key : ∀ k, k ≤ p.rn → sm (fun i => if btw p i a b then (1 : Int) else 0) k = (Pl.goodL p sh k (Pl.lo (a : Int) (b : Int), Pl.hi (a : Int) (b : Int))).length := by
    intro k
    induction k with
    | zero => intro _; rfl
    | succ k ih =>
      intro hk
      simp only [sm]
      rw [ih (by omega), Pl.goodL_succ]
      by_cases hb : btw p k a b
      · have hg : Pl.gd p k := Classical.byContradiction (fun x => hn ⟨k, by omega, hb, x⟩)
        rw [if_pos hb, dB_tt ⟨hs k, (key_btw hr (by omega) a b).2 hb, hg⟩]
        simp
      · rw [if_neg hb, dB_ff (fun x => hb ((key_btw hr (by omega) a b).1 x.2.1))]
        simp
  exact key p.rn (Nat.le_refl _)
/-- Room by the bundles is room between places. -/
theorem roomB_iff {p : Pl.Plan} (hr : Pl.Right p) {sh : Nat → Prop} (hs : ∀ i, ¬ sh i) {cnt : Nat} {kf : Nat → Int × Int} {fl : Nat → Int} (hinj : ∀ i j, i < cnt → j < cnt → kf i = kf j → i = j) (hko : KeysOk cnt kf p.hn) (hall : ∀ i, i < p.rn → ∃ j, j < cnt ∧ kf j = Pl.key p i) (a b : Nat) :
    RoomR cnt kf (fun j => (Pl.goodL p sh p.rn (kf j)).length) (fun j => Pl.heldB p sh p.rn (kf j)) fl a b ↔ Room (cc p) (hh p) (FB cnt kf fl) a b := by
  constructor
  · rintro ⟨j, hj, e, h⟩
    have hne : a ≠ b := fun x => by
      have := hko j hj
      rw [e, x] at this
      simp only at this
      unfold Pl.lo Pl.hi at this
      split at this <;> omega
    by_cases hH : hh p a b
    · exact Or.inl hH
    · right
      rcases h with h | h
      · simp only [e] at h
        exact absurd ((hh_iff hr hs a b).2 h) hH
      · simp only [e] at h
        rw [FB_at hinj hne hj e, cc_eq hr hs hH]
        exact h
  · rintro (⟨i, hi, hb, hv⟩ | h)
    · obtain ⟨j, hj, e⟩ := hall i hi
      rw [(key_btw hr hi a b).2 hb] at e
      refine ⟨j, hj, e, Or.inl ?_⟩
      simp only [e]
      exact (hh_iff hr hs a b).1 ⟨i, hi, hb, hv⟩
    · by_cases hH : hh p a b
      · obtain ⟨i, hi, hb, hv⟩ := hH
        obtain ⟨j, hj, e⟩ := hall i hi
        rw [(key_btw hr hi a b).2 hb] at e
        refine ⟨j, hj, e, Or.inl ?_⟩
        simp only [e]
        exact (hh_iff hr hs a b).1 ⟨i, hi, hb, hv⟩
      · by_cases hx : a ≠ b ∧ ∃ j, j < cnt ∧ kf j = (Pl.lo (a : Int) (b : Int), Pl.hi (a : Int) (b : Int))
        · obtain ⟨hne, j, hj, e⟩ := hx
          refine ⟨j, hj, e, Or.inr ?_⟩
          simp only [e]
          rw [FB_at hinj hne hj e, cc_eq hr hs hH] at h
          exact h
        · rw [FB_none hx] at h
          have hz : cc p a b = 0 := by
            unfold cc
            refine sm_zero (fun i hi => ?_)
            rw [if_neg (fun hb => hx ⟨fun x => ?_, ?_⟩)]
            · have := hr.ne hi
              unfold btw at hb
              omega
            · obtain ⟨j, hj, e⟩ := hall i hi
              exact ⟨j, hj, e.trans ((key_btw hr hi a b).2 hb)⟩
          omega
/-- Nothing goes at first. -/
theorem flow_zero (p : Pl.Plan) (cnt : Nat) (kf : Nat → Int × Int) (t : Nat) : Flow p.hn (cc p) (hh p) (isSrc p) t (FB cnt kf (fun _ => 0)) 0 := by
  have hz : ∀ a b, FB cnt kf (fun _ => 0) a b = 0 := fun a b => by
    unfold FB dirF
    split
    · split <;> rfl
    · rfl
  refine ⟨fun a b => by rw [hz, hz]; rfl, fun a b _ _ _ => ?_, fun a _ _ _ => sm_zero (fun b _ => hz a b), sm_zero (fun b _ => hz b t)⟩
  rw [hz]
  unfold cc
  have : sm (fun _ => (0 : Int)) p.rn ≤ sm (fun i => if btw p i a b then (1 : Int) else 0) p.rn := sm_le (fun i _ => by split <;> omega)
  rw [sm_zero (fun _ _ => rfl)] at this
  exact this
end Fl
end Go.Proofs.YtipmjobhegpdgaaGreatDoor
namespace Go.Proofs.YtipmjobhegpdgaaGreatDoor
open Go Go.RowKit Go.Deep

theorem d_far' {B n size : Nat} {e : TypeId} {v : Value} {xs : List Value} {W W' : World} (h : W.ownsRow B e size v n xs) (hb : ∀ k, v.ownBlock = some k → k < W.heap.size → W'.heap[k]? = W.heap[k]?) : W'.ownsRow B e size v n xs := by
  refine ⟨h.1, ?_⟩
  rcases h.2 with h2 | ⟨g, cap, cur, e1, e2, e3, e4⟩
  · exact Or.inl h2
  · exact Or.inr ⟨g, cap, cur, e1, e2, (hb g (by rw [e1]; rfl) (Array.getElem?_eq_some_iff.1 e3).1).trans e3, e4⟩
/-- A layout of all rows whose bundles carry ways. -/
structure LayF (p : Pl.Plan) (sh : Nat → Prop) (b cnt : Nat) (kf : Nat → Int × Int) (gv : Nat → Value) (fl : Nat → Int) (B : Nat) (W : World) : Prop where
  map : LMap b cnt kf (fun j => bu (gv j) (Pl.heldB p sh p.rn (kf j)) (fl j)) W
  own : ∀ j, j < cnt → W.ownsRow B 2 1 (gv j) (Pl.goodL p sh p.rn (kf j)).length (numsV (Pl.goodL p sh p.rn (kf j)))
  ne : ∀ j, j < cnt → ∀ g, (gv j).ownBlock = some g → g ≠ b
  lo : B ≤ b
  all : ∀ i, i < p.rn → ¬ sh i → ∃ j, j < cnt ∧ kf j = Pl.key p i
  each : ∀ j, j < cnt → ∃ i, i < p.rn ∧ ¬ sh i ∧ kf j = Pl.key p i
theorem LayF.of {p : Pl.Plan} {sh : Nat → Prop} {b cnt : Nat} {kf : Nat → Int × Int} {gv : Nat → Value} {B : Nat} {W : World} (h : LayS p sh p.rn b cnt kf gv B W) : LayF p sh b cnt kf gv (fun _ => 0) B W := ⟨h.map, h.own, h.ne, h.lo, h.all, h.each⟩
theorem LayF.keep {p : Pl.Plan} {sh : Nat → Prop} {b cnt : Nat} {kf : Nat → Int × Int} {gv : Nat → Value} {fl : Nat → Int} {B : Nat} {W W' : World} (h : LayF p sh b cnt kf gv fl B W) (hb : ∀ k, B ≤ k → k < W.heap.size → W'.heap[k]? = W.heap[k]?) : LayF p sh b cnt kf gv fl B W' :=
  ⟨h.map.of_block (hb _ h.lo h.map.lt), fun j hj => d_far' (h.own j hj) (fun k e hl => hb k ((h.own j hj).lt k e).1 hl), h.ne, h.lo, h.all, h.each⟩
theorem LayF.below {p : Pl.Plan} {sh : Nat → Prop} {b cnt : Nat} {kf : Nat → Int × Int} {gv : Nat → Value} {fl : Nat → Int} {B : Nat} {W W' : World} (h : LayF p sh b cnt kf gv fl B W) (hb : Below W.heap.size W W') : LayF p sh b cnt kf gv fl B W' := h.keep (fun k _ hl => hb.block k hl)
theorem LayF.room {p : Pl.Plan} {sh : Nat → Prop} {b cnt : Nat} {kf : Nat → Int × Int} {gv : Nat → Value} {fl : Nat → Int} {B : Nat} {W : World} (h : LayF p sh b cnt kf gv fl B W) : RoomS b cnt kf (fun j => (Pl.goodL p sh p.rn (kf j)).length) (fun j => Pl.heldB p sh p.rn (kf j)) fl W := by
  have sh' : ∀ j, ∃ ac : Option Addr × Nat, j < cnt → gv j = .slice ac.1 (Pl.goodL p sh p.rn (kf j)).length ac.2 := fun j => by
    by_cases hj : j < cnt
    · rcases (h.own j hj).2 with e | ⟨g, c, _, e, _⟩
      · exact ⟨(none, 0), fun _ => by rw [e.1, e.2]⟩
      · exact ⟨(some ⟨g, 0, none⟩, c), fun _ => e⟩
    · exact ⟨(none, 0), fun x => absurd x hj⟩
  obtain ⟨ac, hac⟩ := Classical.axiomOfChoice sh'
  exact ⟨fun j => (ac j).1, fun j => (ac j).2, h.map.congr (fun _ _ => rfl) (fun j hj => by rw [hac j hj])⟩
theorem LayF.keys {p : Pl.Plan} {sh : Nat → Prop} {b cnt : Nat} {kf : Nat → Int × Int} {gv : Nat → Value} {fl : Nat → Int} {B : Nat} {W : World} (h : LayF p sh b cnt kf gv fl B W) (hr : Pl.Right p) : KeysOk cnt kf p.hn := by
  intro j hj
  obtain ⟨i, hi, _, e⟩ := h.each j hj
  have h1 := hr.rows i hi
  rw [e]
  show 0 ≤ Pl.lo _ _ ∧ Pl.lo _ _ < Pl.hi _ _ ∧ Pl.hi _ _ < _
  unfold Pl.lo Pl.hi
  have h2 := h1.1
  have h3 := h1.2.1
  have h4 := h1.2.2.1
  split <;> omega
/-- One bundle carries another number of ways. -/
theorem LayF.put {p : Pl.Plan} {sh : Nat → Prop} {b cnt : Nat} {kf : Nat → Int × Int} {gv : Nat → Value} {fl : Nat → Int} {B : Nat} {W : World} (h : LayF p sh b cnt kf gv fl B W) {j : Nat} (hj : j < cnt) (x : Int) :
    ∃ Y, (Instr.mapUpdate 79 (.map (some b)) (kV (kf j)) (bu (gv j) (Pl.heldB p sh p.rn (kf j)) x)).run Tryz.prog W = .ok () Y ∧ LayF p sh b cnt kf gv (updI fl j x) B Y ∧ Only b W Y := by
  have hput := h.map.put_hit hj (bu (gv j) (Pl.heldB p sh p.rn (kf j)) x)
  have hO := setBlock_only h.map (.map (LEs cnt kf (updV (fun j => bu (gv j) (Pl.heldB p sh p.rn (kf j)) (fl j)) j (bu (gv j) (Pl.heldB p sh p.rn (kf j)) x))) cnt)
  refine ⟨_, hput, ⟨?_, fun i hi => d_far' (h.own i hi) (fun k e hl => hO.block k hl (h.ne i hi k e)), h.ne, h.lo, h.all, h.each⟩, hO⟩
  refine (h.map.hit _).congr (fun _ _ => rfl) (fun i hi => ?_)
  unfold updV updI
  by_cases e : i = j
  · subst e; rw [if_pos rfl, if_pos rfl]
  · rw [if_neg e, if_neg e]
set_option maxRecDepth 100000 in
set_option maxHeartbeats 2000000 in
theorem pass_any {p : Pl.Plan} {sh : Nat → Prop} {b cnt : Nat} {kf : Nat → Int × Int} {gv : Nat → Value} {fl : Nat → Int} {B : Nat} (u v j : Nat) (w : World) (h : LayF p sh b cnt kf gv fl B w) (hj : j < cnt) (hk : kf j = (Pl.lo (u : Int) (v : Int), Pl.hi (u : Int) (v : Int))) (hf1 : -1000000 ≤ fl j) (hf2 : fl j ≤ 1000000) :
    Calls Tryz.prog 101 #[.map (some b), .int .i64 u, .int .i64 v] w fun e w' => e = .returned (.tuple #[]) ∧ LayF p sh b cnt kf gv (updI fl j (fl j + if u < v then 1 else -1)) B w' ∧ Only b w w' := by
  have H := Lib.hid h
  have HK := Lib.hid hk
  clear h hk
  go_enter Tryz.func101, Tryz.ntmps101
  go_wp2_with fail
  refine (ppair_any _ _ _).mono ?_
  rintro e w1 ⟨rfl, hb1⟩
  obtain ⟨ga, gn, gc, hgj⟩ : ∃ ga gn gc, gv j = .slice ga gn gc := by
    rcases (H.out.own j hj).2 with e | ⟨g, c, _, e, _⟩
    · exact ⟨_, _, _, e.1⟩
    · exact ⟨_, _, _, e⟩
  obtain ⟨l, hl⟩ : ∃ l, l = Pl.lo (u : Int) (v : Int) := ⟨_, rfl⟩
  obtain ⟨r, hr⟩ : ∃ r, r = Pl.hi (u : Int) (v : Int) := ⟨_, rfl⟩
  rw [← hl, ← hr]
  obtain ⟨hh, hhh⟩ : ∃ hh, hh = Pl.heldB p sh p.rn (kf j) := ⟨_, rfl⟩
  have hkv : kV (kf j) = .agg #[.int .i64 l, .int .i64 r] := by rw [HK.out, hl, hr]
  obtain ⟨W1, hW1⟩ : ∃ W1, W1 = w1.alloc (.cells #[.int .i64 l, .int .i64 r] 112) := ⟨_, rfl⟩
  have hbw1 : Below w.heap.size w W1 := by rw [hW1]; exact hb1.alloc hb1.size _
  have hlk : (Instr.lookup 79 (.map (some b)) (.agg #[.int .i64 l, .int .i64 r]) false).run Tryz.prog (w1.alloc (.cells #[.int .i64 l, .int .i64 r] 112)) = .ok (.agg #[.slice ga gn gc, .bool hh, .int .i64 (fl j)]) (w1.alloc (.cells #[.int .i64 l, .int .i64 r] 112)) := by
    have k := (H.out.below hbw1).map.look_hit hj
    rw [hkv, hgj, ← hhh, hW1] at k
    exact k
  obtain ⟨x, hx⟩ : ∃ x, x = fl j + if u < v then 1 else -1 := ⟨_, rfl⟩
  obtain ⟨X, hX⟩ : ∃ X, X = (w1.alloc (.cells #[.int .i64 l, .int .i64 r] 112)).alloc (.cells #[.slice ga gn gc, .bool hh, .int .i64 x] 115) := ⟨_, rfl⟩
  have hbX : Below w.heap.size w X := by rw [hX, ← hW1]; exact hbw1.alloc hbw1.size _
  obtain ⟨Y, hput, hF, hO⟩ := (H.out.below hbX).put hj x
  rw [hkv, hgj, ← hhh, hX] at hput
  have HF := Lib.hid hF
  have HO : Hid (Only b w Y) := ⟨hO.os.trans hbX.os, hO.tape.trans hbX.tape, hO.output.trans hbX.output, Nat.le_trans hbX.size hO.size, fun k hkk hne => (hO.block k (Nat.lt_of_lt_of_le hkk hbX.size) hne).trans (hbX.block k hkk)⟩
  have HX := Lib.hid hx
  clear hl hr hhh hkv hW1 hbw1 hX hbX hF hO hb1 hgj
  by_cases c : u < v
  · have cz : (u : Int) < (v : Int) := by omega
    have ex : fl j + 1 = x := by rw [HX.out, if_pos c]
    rw [← ex] at hput
    have hx2 : fl j + 1 ≤ 1000001 := by omega
    clear hx ex
    go_wp2_with fail
    exact bodyPost_end (v := .tuple #[]) (by simp [results, Tryz.results101, go_sem]) rfl ⟨rfl, (by have h := HF.out; rw [HX.out, if_pos c] at h; exact h), HO.out⟩
  · have cz : ¬ (u : Int) < (v : Int) := by omega
    have ex : fl j - 1 = x := by rw [HX.out, if_neg c]; omega
    rw [← ex] at hput
    have hx2 : -1000001 ≤ fl j - 1 := by omega
    clear hx ex
    go_wp2_with fail
    exact bodyPost_end (v := .tuple #[]) (by simp [results, Tryz.results101, go_sem]) rfl ⟨rfl, (by have h := HF.out; rw [HX.out, if_neg c] at h; exact h), HO.out⟩
set_option maxRecDepth 100000 in
set_option maxHeartbeats 2000000 in
theorem firstWay_any (a : Option Addr) (m cap : Nat) (f : Nat → Int) (g pl : Nat) (nx : Nat → Int) (w : World) (h : IsAt a m f w) (hg : IsBlk 2 g pl nx w) (hm : m ≤ 1000) (hf : ∀ i, i < m → 0 ≤ f i ∧ f i < pl) (_hpl : pl ≤ 1000) :
    Calls Tryz.prog 84 #[.slice a m cap, .slice (some ⟨g, 0, none⟩) pl pl] w fun e w' => ((∃ i, i < m ∧ nx (f i).toNat ≠ -1 ∧ e = .returned (.tuple #[.int .i64 (f i), .bool true])) ∨ ((∀ i, i < m → nx (f i).toNat = -1) ∧ e = .returned (.tuple #[.int .i64 (-1), .bool false]))) ∧ w' = w := by
  have H := Lib.hid h
  have HG := Lib.hid hg
  have HF := Lib.hid hf
  clear h hg hf
  go_enter Tryz.func84, Tryz.ntmps84
  go_wp2_with fail
  go_loopw [10] (fun iv wr => ∃ (i : Nat), i ≤ m ∧ iv = .int .i64 i ∧ wr = w ∧ Hid (∀ j, j < i → nx (f j).toNat = -1)) (fun iv _ => m - (intOf iv).toNat)
  case atStart => exact ⟨0, Nat.zero_le _, rfl, rfl, fun j hj => absurd hj (Nat.not_lt_zero _)⟩
  case round =>
    obtain ⟨i, hi, rfl, rfl, hP⟩ := hrel
    by_cases hlt : i < m
    · have hltz : (i : Int) < (m : Int) := by omega
      obtain ⟨b, e, c0⟩ := H.out.at1 hlt
      subst e
      have hr := HF.out i hlt
      obtain ⟨q, hq⟩ : ∃ q : Nat, f i = (q : Int) := ⟨(f i).toNat, by omega⟩
      rw [hq] at c0 hr
      have hqz : (q : Int) < (pl : Int) := hr.2
      have c1 := HG.out.cell (i := q) (by omega)
      have HQ := Lib.hid hq
      by_cases c : nx q = -1
      · have c' : (nx q != -1) = false := by simp [c]
        have HC : Hid (nx (f i).toNat = -1) := by show _ = _; rw [hq, Int.toNat_natCast]; exact c
        clear c hq hr
        go_wp2_with fail
        go_roundw
        case rel => exact ⟨i + 1, by omega, by go_num, by trivial, fun j hj => by
          by_cases e : j = i
          · subst e; exact HC.out
          · exact hP.out j (by omega)⟩
        case measure => simp [intOf]; omega
      · have c' : (nx q != -1) = true := by simp [c]
        have HC : Hid (nx (f i).toNat ≠ -1) := by show _ ≠ _; rw [hq, Int.toNat_natCast]; exact c
        clear c hq hr
        go_wp2_with fail
        exact bodyPost_ret (v := .tuple #[.int .i64 q, .bool true]) (by simp only [results, Tryz.results84]; simp [go_sem]) rfl ⟨Or.inl ⟨i, hlt, HC.out, by rw [HQ.out]⟩, rfl⟩
    · obtain rfl : i = m := by omega
      go_wp2_with fail
      exact bodyPost_ret (v := .tuple #[.int .i64 (-1), .bool false]) (by simp only [results, Tryz.results84]; simp [go_sem]) rfl ⟨Or.inr ⟨hP.out, rfl⟩, rfl⟩
/-- How many ways a bundle carries, by what goes between its places. -/
theorem fl_near {cnt : Nat} {kf : Nat → Int × Int} {fl fl' : Nat → Int} {n : Nat} (hinj : ∀ i j, i < cnt → j < cnt → kf i = kf j → i = j) (hko : KeysOk cnt kf n) (h : ∀ a b, Fl.FB cnt kf fl a b - 1 ≤ Fl.FB cnt kf fl' a b ∧ Fl.FB cnt kf fl' a b ≤ Fl.FB cnt kf fl a b + 1) {j : Nat} (hj : j < cnt) : fl j - 1 ≤ fl' j ∧ fl' j ≤ fl j + 1 := by
  have hk := hko j hj
  obtain ⟨a, ha⟩ : ∃ a : Nat, (kf j).1 = (a : Int) := ⟨(kf j).1.toNat, by omega⟩
  obtain ⟨c, hc⟩ : ∃ c : Nat, (kf j).2 = (c : Int) := ⟨(kf j).2.toNat, by omega⟩
  have hac : a < c := by omega
  have e : kf j = (Pl.lo (a : Int) (c : Int), Pl.hi (a : Int) (c : Int)) := by
    have e1 : Pl.lo (a : Int) (c : Int) = (a : Int) := by unfold Pl.lo; split <;> omega
    have e2 : Pl.hi (a : Int) (c : Int) = (c : Int) := by unfold Pl.hi; split <;> omega
    rw [e1, e2, ← ha, ← hc]
  have h1 := h a c
  rw [Fl.FB_at hinj (by omega) hj e, Fl.FB_at hinj (by omega) hj e] at h1
  unfold dirF at h1
  have : ¬ (c : Int) < (a : Int) := by omega
  rw [if_neg this, if_neg this] at h1
  exact h1
/-- What stands while a way is taken. -/
structure TkS (p : Pl.Plan) (sh : Nat → Prop) (b cnt : Nat) (kf : Nat → Int × Int) (gv : Nat → Value) (fl : Nat → Int) (B t g : Nat) (nx : Nat → Int) (rk : Nat → Nat) (k : Int) (w : World) (x : Nat) (W : World) : Prop where
  st : ∃ fl1, LayF p sh b cnt kf gv fl1 B W ∧ Fl.AugF p.hn (Fl.cc p) (Fl.hh p) (Fl.isSrc p) t (Fl.FB cnt kf fl) nx rk (Fl.FB cnt kf fl1) x k
  nxb : IsBlk 2 g p.hn nx W
  only : Only b w W
set_option maxRecDepth 100000 in
set_option maxHeartbeats 4000000 in
theorem take_any {p : Pl.Plan} {sh : Nat → Prop} {b cnt : Nat} {kf : Nat → Int × Int} {gv : Nat → Value} {fl : Nat → Int} {B : Nat} (hr : Pl.Right p) (hs : ∀ i, ¬ sh i) (t g s : Nat) (nx : Nat → Int) (k K : Int) (w : World) (h : LayF p sh b cnt kf gv fl B w) (hg : IsBlk 2 g p.hn nx w) (hgb : g ≠ b)
    (hfl : ∀ j, j < cnt → -K ≤ fl j ∧ fl j ≤ K) (hK : K ≤ 900000) (hflow : Fl.Flow p.hn (Fl.cc p) (Fl.hh p) (Fl.isSrc p) t (Fl.FB cnt kf fl) k) (hts : ¬ Fl.isSrc p t)
    (hF : Found p.hn (fun v => v = t) (RoomR cnt kf (fun j => (Pl.goodL p sh p.rn (kf j)).length) (fun j => Pl.heldB p sh p.rn (kf j)) fl) nx) (hss : Fl.isSrc p s) (hsn : s < p.hn) (hsx : nx s ≠ -1) :
    Calls Tryz.prog 86 #[.map (some b), .slice (some ⟨g, 0, none⟩) p.hn p.hn, .int .i64 s] w fun e w' => e = .returned (.tuple #[]) ∧ (∃ fl', LayF p sh b cnt kf gv fl' B w' ∧ Fl.Flow p.hn (Fl.cc p) (Fl.hh p) (Fl.isSrc p) t (Fl.FB cnt kf fl') (k + 1) ∧ ∀ j, j < cnt → -(K + 1) ≤ fl' j ∧ fl' j ≤ K + 1) ∧ Only b w w' := by
  have hinj := h.map.inj
  have hko := h.keys hr
  have hall : ∀ i, i < p.rn → ∃ j, j < cnt ∧ kf j = Pl.key p i := fun i hi => h.all i hi (hs i)
  have hR : ∀ a c, a < p.hn → c < p.hn → (RoomR cnt kf (fun j => (Pl.goodL p sh p.rn (kf j)).length) (fun j => Pl.heldB p sh p.rn (kf j)) fl a c ↔ Fl.Room (Fl.cc p) (Fl.hh p) (Fl.FB cnt kf fl) a c) := fun a c _ _ => Fl.roomB_iff hr hs hinj hko hall a c
  obtain ⟨rk, hst⟩ := Fl.found_steps hR hF
  have HST := Lib.hid hst
  have HRNG := Lib.hid hF.rng
  have H0 : Hid (TkS p sh b cnt kf gv fl B t g nx rk k w s w) := ⟨⟨fl, h, Fl.AugF.start hflow hts hss hsn hsx⟩, hg, Only.refl _ _⟩
  have HINJ := Lib.hid hinj
  have HKO := Lib.hid hko
  have HALL := Lib.hid hall
  have HFL := Lib.hid hfl
  have HTS := Lib.hid hts
  clear h hg hfl hflow hF hinj hko hall hR hst hss hsx hts
  go_enter Tryz.func86, Tryz.ntmps86
  go_wp2_with fail
  refine wp_scope_label 0 (fun a' w' => ∃ (x : Nat) (u6 u7 u8 u9 u10 u11 u12 u13 u14 u15 u16 u17 u18 : Value), a' = { tmps := #[.map (some b), .slice (some ⟨g, 0, none⟩) p.hn p.hn, .int .i64 x, undef, undef, undef, u6, u7, u8, u9, u10, u11, u12, u13, u14, u15, u16, u17, u18], defers := [] } ∧ Hid (TkS p sh b cnt kf gv fl B t g nx rk k w x w')) (fun a' _ => rk (intOf (a'.tmps.getD 2 undef)).toNat) rfl ?_ ?_
  · intro Q' hQ
    go_wp2_with fail
    go_step3
    rename_i hK0
    refine hK0 _ _ (hQ _ _ ⟨s, _, _, _, _, _, _, _, _, _, _, _, _, _, rfl, H0⟩)
  · rintro a' W1 ⟨x, u6, u7, u8, u9, u10, u11, u12, u13, u14, u15, u16, u17, u18, rfl, hW⟩
    obtain ⟨fl1, hL, hA⟩ := hW.out.st
    have hxn := hA.lt
    have hrx := hA.reach
    obtain ⟨y, hy⟩ : ∃ y : Nat, nx x = (y : Int) := by
      rcases HRNG.out x hxn with z | z
      · exact absurd z hrx
      · exact ⟨(nx x).toNat, by omega⟩
    have hyn : y < p.hn := by
      rcases HRNG.out x hxn with z | z
      · exact absurd z hrx
      · omega
    have c0 := hW.out.nxb.cell hxn
    rw [hy] at c0
    have hxz : (x : Int) < (p.hn : Int) := by omega
    by_cases e : y = x
    · have e' : ((y : Int) == (x : Int)) = true := by simp [e]
      have hxt : x = t := by
        rcases HST.out x hxn hrx with ⟨q, _⟩ | ⟨_, _, q⟩
        · exact q
        · rw [hy, e, Int.toNat_natCast] at q; omega
      have HFIN : Hid (∃ fl', LayF p sh b cnt kf gv fl' B W1 ∧ Fl.Flow p.hn (Fl.cc p) (Fl.hh p) (Fl.isSrc p) t (Fl.FB cnt kf fl') (k + 1) ∧ ∀ j, j < cnt → -(K + 1) ≤ fl' j ∧ fl' j ≤ K + 1) := by
        rw [hxt] at hA
        refine ⟨fl1, hL, hA.stop HTS.out, fun j hj => ?_⟩
        have h1 := fl_near HINJ.out HKO.out hA.near hj
        have h2 := HFL.out j hj
        omega
      have HON := Lib.hid hW.out.only
      clear hL hA hW e hxt hy hrx
      go_wp2_with fail
      simp only [Exit.jump]
      exact bodyPost_ret (v := .tuple #[]) (by simp [results, Tryz.results86, go_sem]) rfl ⟨rfl, HFIN.out, HON.out⟩
    · have e' : ((y : Int) == (x : Int)) = false := by simp; omega
      obtain ⟨hA2, hrk, hroom⟩ := hA.step HST.out hy hyn e
      obtain ⟨j, hj, hkj, _⟩ := (Fl.roomB_iff hr hs HINJ.out HKO.out HALL.out x y (fl := fl1)).2 hroom
      have hn1 := fl_near HINJ.out HKO.out hA.near hj
      have hn2 := HFL.out j hj
      have hb2 : Fl.FB cnt kf (updI fl1 j (fl1 j + if x < y then 1 else -1)) = Fl.bump (Fl.FB cnt kf fl1) x y := Fl.FB_bump HINJ.out (Ne.symm e) hj hkj
      rw [← hb2] at hA2
      have HA2 := Lib.hid hA2
      have HRK := Lib.hid hrk
      have HL := Lib.hid hL
      have HNX := Lib.hid hW.out.nxb
      have HON := Lib.hid hW.out.only
      have HKJ := Lib.hid hkj
      clear hA2 hrk hroom hb2 hA hL hW e hy hrx hkj
      go_wp2_with fail
      refine (pass_any x y j _ HL.out hj HKJ.out (by omega) (by omega)).mono ?_
      rintro e W2 ⟨rfl, hL2, hO2⟩
      have HT2 : Hid (TkS p sh b cnt kf gv fl B t g nx rk k w y W2) := ⟨⟨_, hL2, HA2.out⟩, HNX.out.block (hO2.block _ HNX.out.lt hgb), ⟨hO2.os.trans HON.out.os, hO2.tape.trans HON.out.tape, hO2.output.trans HON.out.output, Nat.le_trans HON.out.size hO2.size, fun q h1 h2 => (hO2.block q (Nat.lt_of_lt_of_le h1 HON.out.size) h2).trans (HON.out.block q h1 h2)⟩⟩
      clear hL2 hO2 HL HNX HON HA2
      go_wp2_with fail
      go_step3
      exact ⟨rfl, ⟨y, _, _, _, _, _, _, _, _, _, _, _, _, _, rfl, HT2⟩, by simpa [intOf] using HRK.out⟩
end Go.Proofs.YtipmjobhegpdgaaGreatDoor
namespace Go.Proofs.YtipmjobhegpdgaaGreatDoor
open Go Go.RowKit Go.Deep

theorem key_seq_inj {cnt : Nat} {kf : Nat → Int × Int} {f : Nat → Int} (hinj : ∀ i j, i < cnt → j < cnt → kf i = kf j → i = j) (h : ∀ j, j < cnt → ∃ i, i < cnt ∧ kf j = (f (i * 2), f (i * 2 + 1))) : ∀ i i', i < cnt → i' < cnt → (f (i * 2), f (i * 2 + 1)) = (f (i' * 2), f (i' * 2 + 1)) → i = i' := by
  have hc : ∀ j, ∃ i, j < cnt → i < cnt ∧ kf j = (f (i * 2), f (i * 2 + 1)) := fun j => by
    by_cases hj : j < cnt
    · obtain ⟨i, h1⟩ := h j hj; exact ⟨i, fun _ => h1⟩
    · exact ⟨0, fun x => absurd x hj⟩
  obtain ⟨ψ, hψ⟩ := Classical.axiomOfChoice hc
  have hpi : ∀ j j', j < cnt → j' < cnt → ψ j = ψ j' → j = j' := fun j j' hj hj' e => hinj j j' hj hj' (by rw [(hψ j hj).2, (hψ j' hj').2, e])
  have hnd : ((List.range cnt).map ψ).Nodup := by
    rw [List.nodup_iff_pairwise_ne, List.pairwise_map]
    have : (List.range cnt).Pairwise (fun a b => a < cnt ∧ b < cnt ∧ a ≠ b) := by
      have h1 : (List.range cnt).Pairwise (· < ·) := List.pairwise_lt_range
      refine List.Pairwise.imp_of_mem (fun {a b} ha hb hab => ⟨List.mem_range.1 ha, List.mem_range.1 hb, by omega⟩) h1
    exact this.imp (fun {a b} x e => x.2.2 (hpi a b x.1 x.2.1 e))
  have hsur : ∀ i, i < cnt → ∃ j, j < cnt ∧ ψ j = i := fun i hi => Classical.byContradiction (fun hno => by
    have hni : i ∉ (List.range cnt).map ψ := fun hm => by
      obtain ⟨j, hj, e⟩ := List.mem_map.1 hm
      exact hno ⟨j, List.mem_range.1 hj, e⟩
    have h2 : (i :: (List.range cnt).map ψ).Nodup := List.nodup_cons.2 ⟨hni, hnd⟩
    have h3 := nodup_len (n := cnt) h2 (fun j hj => by
      rcases List.mem_cons.1 hj with e | e
      · omega
      · obtain ⟨q, hq, e2⟩ := List.mem_map.1 e
        rw [← e2]; exact (hψ q (List.mem_range.1 hq)).1)
    simp at h3
    omega)
  intro i i' hi hi' e
  obtain ⟨j, hj, rfl⟩ := hsur i hi
  obtain ⟨j', hj', rfl⟩ := hsur i' hi'
  rw [hinj j j' hj hj' (by rw [(hψ j hj).2, (hψ j' hj').2, e])]
/-- The rows that are gathered from the first bundles. -/
noncomputable def gath (p : Pl.Plan) (sh : Nat → Prop) (nx : Nat → Int) (f : Nat → Int) : Nat → List Nat
  | 0 => []
  | i + 1 => gath p sh nx f i ++ (if ((nx (f (i * 2)).toNat == -1) != (nx (f (i * 2 + 1)).toNat == -1)) = true then Pl.goodL p sh p.rn (f (i * 2), f (i * 2 + 1)) else [])
theorem gath_mem {p : Pl.Plan} {sh : Nat → Prop} {nx f : Nat → Int} {r : Nat} : ∀ c, r ∈ gath p sh nx f c ↔ ∃ i, i < c ∧ ((nx (f (i * 2)).toNat == -1) != (nx (f (i * 2 + 1)).toNat == -1)) = true ∧ r ∈ Pl.goodL p sh p.rn (f (i * 2), f (i * 2 + 1)) := by
  intro c
  induction c with
  | zero => simp [gath]
  | succ c ih =>
    simp only [gath, List.mem_append, ih]
    constructor
    · rintro (⟨i, h1, h2⟩ | h)
      · exact ⟨i, by omega, h2⟩
      · split at h
        · rename_i hc
          exact ⟨c, by omega, hc, h⟩
        · cases h
    · rintro ⟨i, h1, h2, h3⟩
      by_cases e : i = c
      · subst e; right; rw [if_pos h2]; exact h3
      · exact Or.inl ⟨i, by omega, h2, h3⟩
theorem goodL_mem {p : Pl.Plan} {sh : Nat → Prop} {k r : Nat} {κ : Int × Int} : r ∈ Pl.goodL p sh k κ ↔ r < k ∧ ¬ sh r ∧ Pl.key p r = κ ∧ Pl.gd p r := by
  unfold Pl.goodL
  rw [List.mem_filter, List.mem_range, dB_iff]
theorem gath_nodup {p : Pl.Plan} {sh : Nat → Prop} {nx f : Nat → Int} {c : Nat} (hf : ∀ i i', i < c → i' < c → (f (i * 2), f (i * 2 + 1)) = (f (i' * 2), f (i' * 2 + 1)) → i = i') : ∀ k, k ≤ c → (gath p sh nx f k).Nodup := by
  intro k
  induction k with
  | zero => intro _; exact List.nodup_nil
  | succ k ih =>
    intro hk
    simp only [gath]
    rw [List.nodup_append]
    refine ⟨ih (by omega), ?_, ?_⟩
    · split
      · unfold Pl.goodL; exact List.Sublist.nodup List.filter_sublist List.nodup_range
      · exact List.nodup_nil
    · intro a ha b hb e
      subst e
      obtain ⟨i, h1, _, h3⟩ := (gath_mem k).1 ha
      split at hb
      · have e1 := (goodL_mem.1 h3).2.2.1
        have e2 := (goodL_mem.1 hb).2.2.1
        have := hf i k (by omega) (by omega) (e1.symm.trans e2)
        omega
      · cases hb
theorem gath_about {p : Pl.Plan} (hr : Pl.Right p) {sh : Nat → Prop} (hs : ∀ i, ¬ sh i) {nx f : Nat → Int} {cnt : Nat} {kf : Nat → Int × Int} (h2 : ∀ j, j < cnt → ∃ i, i < cnt ∧ kf j = (f (i * 2), f (i * 2 + 1))) (hall : ∀ i, i < p.rn → ∃ j, j < cnt ∧ kf j = Pl.key p i)
    (hheld : ∀ a c, a < p.hn → c < p.hn → Fl.hh p a c → ((nx a != -1) = (nx c != -1))) (r : Nat) : r ∈ gath p sh nx f cnt ↔ r ∈ Fl.about p (fun v => nx v != -1) := by
  have hlo : ∀ r, r < p.rn → ((nx (Pl.key p r).1.toNat == -1) != (nx (Pl.key p r).2.toNat == -1)) = ((nx (p.from_ r) != -1) != (nx (p.to_ r) != -1)) := fun r hr' => by
    have hrow := hr.rows r hr'
    unfold Pl.key Pl.lo Pl.hi
    have e1 : p.from_ r = (p.R (r * 3)).toNat := rfl
    have e2 : p.to_ r = (p.R (r * 3 + 1)).toNat := rfl
    rw [e1, e2]
    split <;> simp only [bne] <;> cases (nx (p.R (r * 3)).toNat == -1) <;> cases (nx (p.R (r * 3 + 1)).toNat == -1) <;> rfl
  unfold Fl.about
  rw [gath_mem, List.mem_filter, List.mem_range]
  constructor
  · rintro ⟨i, hi, hc, hg⟩
    obtain ⟨hrr, _, hk, _⟩ := goodL_mem.1 hg
    refine ⟨hrr, ?_⟩
    rw [← hlo r hrr, hk]
    exact hc
  · rintro ⟨hrr, hc⟩
    obtain ⟨j, hj, e⟩ := hall r hrr
    obtain ⟨i, hi, e2⟩ := h2 j hj
    have ek : Pl.key p r = (f (i * 2), f (i * 2 + 1)) := e.symm.trans e2
    refine ⟨i, hi, ?_, goodL_mem.2 ⟨hrr, hs r, ek, ?_⟩⟩
    · have := hlo r hrr
      rw [ek] at this
      rw [this]; exact hc
    · refine Classical.byContradiction (fun hng => ?_)
      have hrow := hr.rows r hrr
      have hb : Fl.hh p (p.from_ r) (p.to_ r) := ⟨r, hrr, Or.inl ⟨rfl, rfl⟩, hng⟩
      have := hheld _ _ (by have := hrow.1; show (p.R (r * 3)).toNat < _; omega) (by have := hrow.2.1; show (p.R (r * 3 + 1)).toNat < _; omega) hb
      simp only [this] at hc
      simp at hc
/-- Sorted, they are the rows about the near places. -/
theorem gath_sorted {p : Pl.Plan} {N : Nat → Bool} {l : List Nat} (hn : l.Nodup) (hm : ∀ r, r ∈ l ↔ r ∈ Fl.about p N) : (l.map (fun i : Nat => (i : Int))).mergeSort (fun x y => decide (x ≤ y)) = (Fl.about p N).map (fun i : Nat => (i : Int)) := by
  have hp : l.Perm (Fl.about p N) := (List.perm_ext_iff_of_nodup hn (List.Sublist.nodup List.filter_sublist List.nodup_range)).2 hm
  have hs : ((Fl.about p N).map (fun i : Nat => (i : Int))).Pairwise (fun x y => decide (x ≤ y) = true) := by
    rw [List.pairwise_map]
    have h1 : (List.range p.rn).Pairwise (· < ·) := List.pairwise_lt_range
    exact (h1.filter _).imp (fun {a b} h => by simp; omega)
  have hp2 := (hp.map (fun i : Nat => (i : Int)))
  have hm2 := (List.mergeSort_perm (l.map (fun i : Nat => (i : Int))) (fun x y => decide (x ≤ y))).trans hp2
  have hs2 : ((l.map (fun i : Nat => (i : Int))).mergeSort (fun x y => decide (x ≤ y))).Pairwise (fun x y => decide (x ≤ y) = true) := List.pairwise_mergeSort (fun a b c h1 h2 => by simp at h1 h2 ⊢; omega) (fun a b => by simp; omega) _
  exact List.Perm.eq_of_pairwise (fun a b _ _ h1 h2 => by simp at h1 h2; omega) hs2 hs hm2
end Go.Proofs.YtipmjobhegpdgaaGreatDoor
namespace Go.Proofs.YtipmjobhegpdgaaGreatDoor
open Go Go.RowKit Go.Deep

theorem psort_any (v : Value) (l : List Nat) (B : Nat) (w : World) (h : w.ownsRow B 2 1 v l.length (numsV l)) (hl : l.length ≤ 1000) :
    Calls Tryz.prog 100 #[v] w fun e w' => e = .returned (.tuple #[]) ∧ (∀ ts : List Nat, (l.map (fun i : Nat => (i : Int))).mergeSort (fun x y => decide (x ≤ y)) = ts.map (fun i : Nat => (i : Int)) → w'.ownsRow B 2 1 v l.length (numsV ts)) ∧ w.grownBy w' v.ownBlock := by
  rcases h.2 with ⟨rfl, h0⟩ | ⟨g, cap, cur, rfl, e2, e3, e4, e5, e6, e7⟩
  · refine (AnyM.slices_Sort_int_none Tryz.sortI none 0 w).mono ?_
    rintro e w' ⟨rfl, rfl⟩
    refine ⟨rfl, fun ts hts => ?_, ⟨rfl, rfl, rfl, Nat.le_refl _, fun _ _ _ => rfl⟩⟩
    obtain rfl : l = [] := List.eq_nil_of_length_eq_zero h0
    have : ts = [] := by
      have := congrArg List.length hts
      simp at this
      exact List.eq_nil_of_length_eq_zero this.symm
    subst this
    exact h
  · have hm : l.length = (l.map (fun i : Nat => (i : Int))).length := by simp
    have ht : cur.toList.take (l.map (fun i : Nat => (i : Int))).length = (l.map (fun i : Nat => (i : Int))).map (Value.int .i64) := by
      rw [← hm]
      rw [Nat.mul_one] at e7
      rw [e7]
      simp [numsV]
    have hH := holds_of_blockI e3 ht
    have hc := AnyM.slices_Sort_int Tryz.sortI g 0 cap (l.map (fun i : Nat => (i : Int))) w hH (Array.getElem?_eq_some_iff.1 e3).1 (by rw [← hm]; omega)
    rw [← hm] at hc
    refine hc.mono ?_
    rintro e w' ⟨rfl, n, os, rfl⟩
    refine ⟨rfl, fun ts hts => ?_, grownBy_sortedI _⟩
    rw [hts]
    have hlt : (ts.map (fun i : Nat => (i : Int))).length = (l.map (fun i : Nat => (i : Int))).length := by rw [← hts, List.length_mergeSort]
    have k := ownsRow_sortedI (n := n) (os := os) (cap := cap) hlt e2 e3 (by rw [← hm]; exact e4) e5 e6
    rw [← hm] at k
    have e8 : (ts.map (fun i : Nat => (i : Int))).map (Value.int .i64) = numsV ts := by simp [numsV]
    rw [e8] at k
    exact k
theorem dyown2 {B n s : Nat} {t : TypeId} {v : Value} {xs : List Value} {W W' : World} (h : W.ownsRow B t s v n xs) (hb : Below W.heap.size W W') : W'.ownsRow B t s v n xs := d_far' h (fun k _ hl => hb.block k hl)
theorem bu_good (a : Option Addr) (k c : Nat) (h : Bool) (d : Int) (w : World) : (Instr.field 115 (.agg #[.slice a k c, .bool h, .int .i64 d]) 0).run Tryz.prog w = .ok (.slice a k c) w := by kernel_rfl
/-- What stands from bundle to bundle. -/
structure ArS (p : Pl.Plan) (sh : Nat → Prop) (nx f : Nat → Int) (i : Nat) (rv : Value) (w1 W : World) : Prop where
  own : W.ownsRow w1.heap.size 2 1 rv (gath p sh nx f i).length (numsV (gath p sh nx f i))
  old : Below w1.heap.size w1 W
theorem gath_len {p : Pl.Plan} {sh : Nat → Prop} {nx f : Nat → Int} {c : Nat} (hf : ∀ i i', i < c → i' < c → (f (i * 2), f (i * 2 + 1)) = (f (i' * 2), f (i' * 2 + 1)) → i = i') {k : Nat} (hk : k ≤ c) : (gath p sh nx f k).length ≤ p.rn := nodup_len (gath_nodup hf k hk) (fun j hj => by
  obtain ⟨i, _, _, h⟩ := (gath_mem k).1 hj
  exact (goodL_mem.1 h).1)
set_option maxRecDepth 100000 in
set_option maxHeartbeats 4000000 in
theorem around_any {p : Pl.Plan} {sh : Nat → Prop} {b cnt : Nat} {kf : Nat → Int × Int} {gv : Nat → Value} {fl : Nat → Int} {B : Nat} (hr : Pl.Right p) (hs : ∀ i, ¬ sh i) (g : Nat) (nx : Nat → Int) (w : World) (h : LayF p sh b cnt kf gv fl B w) (hg : IsBlk 2 g p.hn nx w) (hcn : cnt ≤ 1000)
    (hheld : ∀ a c, a < p.hn → c < p.hn → Fl.hh p a c → ((nx a != -1) = (nx c != -1))) :
    Calls Tryz.prog 85 #[.map (some b), .slice (some ⟨g, 0, none⟩) p.hn p.hn] w fun e w' => (∃ v, e = .returned v ∧ w'.ownsRow w.heap.size 2 1 v (Fl.about p (fun v => nx v != -1)).length (numsV (Fl.about p (fun v => nx v != -1)))) ∧ Below w.heap.size w w' := by
  obtain ⟨i0, hi0, hz0, hz1, hz2⟩ := info_parts yinfo_i64
  have HPI := Lib.hid (And.intro hi0 (And.intro hz0 (And.intro hz1 hz2)))
  have hko := h.keys hr
  have hinj := h.map.inj
  have HALL : Hid (∀ i, i < p.rn → ∃ j, j < cnt ∧ kf j = Pl.key p i) := fun i hi => h.all i hi (hs i)
  have HKO := Lib.hid hko
  have HINJ := Lib.hid hinj
  have H := Lib.hid h
  have HG := Lib.hid hg
  have HHE := Lib.hid hheld
  clear hi0 hz0 hz1 hz2 hko hinj h hg hheld
  go_enter Tryz.func85, Tryz.ntmps85
  go_wp2_with fail
  refine (sorted_any b cnt kf _ _ H.out.map hcn).mono ?_
  rintro e w1 ⟨⟨gk, ck, f, rfl, hgk, hf, hf1, hf2⟩, hb1⟩
  have HF := Lib.hid hf
  have HF1 := Lib.hid hf1
  have HF2 := Lib.hid hf2
  have HFI := Lib.hid (key_seq_inj HINJ.out hf2)
  have HB1 := Lib.hid hb1
  have HL1 := Lib.hid (H.out.below hb1)
  have HG1 := Lib.hid (HG.out.below hb1)
  clear hf hf1 hf2 hb1 H HG hgk
  have HS0 : Hid (ArS p sh nx f 0 (.slice none 0 0) w1 w1) := ⟨World.ownsRow_nil _ _ _ _, Below.refl _ _⟩
  go_wp2_with fail
  go_loopw [5, 11] (fun rv iv wr => ∃ (i : Nat) (ra : Option Addr) (rn rc : Nat), i ≤ cnt ∧ iv = .int .i64 i ∧ rv = .slice ra rn rc ∧ Hid (ArS p sh nx f i (.slice ra rn rc) w1 wr)) (fun _ iv _ => cnt - (intOf iv).toNat)
  case atStart => exact ⟨0, none, 0, 0, Nat.zero_le _, rfl, rfl, HS0⟩
  case round =>
    clear HS0
    obtain ⟨i, ra, rn, rc, hi, rfl, rfl, hS⟩ := hrel
    by_cases hlt : i < cnt
    · have hltz : (i : Int) < (cnt : Int) := by omega
      obtain ⟨bk, ebk, k0, k1⟩ := (HF.out.below hS.out.old).at2 hlt
      cases ebk
      obtain ⟨j, hj, hkj⟩ := HF1.out i hlt
      have hkb := HKO.out j hj
      rw [hkj] at hkb
      obtain ⟨l, hl⟩ : ∃ l : Nat, f (i * 2) = (l : Int) := ⟨(f (i * 2)).toNat, by have := hkb.1; simp only at this; omega⟩
      obtain ⟨q, hq⟩ : ∃ q : Nat, f (i * 2 + 1) = (q : Int) := ⟨(f (i * 2 + 1)).toNat, by have := hkb; simp only at this; omega⟩
      have hlq : l < p.hn ∧ q < p.hn := by simp only at hkb; omega
      have HGA : Hid (gath p sh nx f (i + 1) = gath p sh nx f i ++ (if ((nx l == -1) != (nx q == -1)) = true then Pl.goodL p sh p.rn (kf j) else [])) := by
        show _ = _
        simp only [gath]
        rw [hl, hq, Int.toNat_natCast, Int.toNat_natCast, hkj, hl, hq]
      have HKJ : Hid (kf j = ((l : Int), (q : Int))) := by show _ = _; rw [hkj, hl, hq]
      rw [hl] at k0
      rw [hq] at k1
      have n0 := (HG1.out.below hS.out.old).cell hlq.1
      have n1 := (HG1.out.below hS.out.old).cell hlq.2
      have hlz : (l : Int) < (p.hn : Int) ∧ (q : Int) < (p.hn : Int) := by omega
      have HGL : Hid ((gath p sh nx f (i + 1)).length ≤ p.rn) := gath_len HFI.out (by omega)
      have hrn := hr.r
      clear hkj hkb hl hq
      by_cases cx : ((nx l == -1) != (nx q == -1)) = true
      · rw [if_pos cx] at HGA
        obtain ⟨gq, gc, hgj⟩ : ∃ gq gc, gv j = .slice (some ⟨gq, 0, none⟩) (Pl.goodL p sh p.rn (kf j)).length gc := by
          have hne : Pl.goodL p sh p.rn (kf j) ≠ [] := by
            obtain ⟨r, hrr, hsr, er⟩ := HL1.out.each j hj
            by_cases hgd : Pl.gd p r
            · intro e
              have : r ∈ Pl.goodL p sh p.rn (kf j) := goodL_mem.2 ⟨hrr, hsr, er.symm, hgd⟩
              rw [e] at this; cases this
            · exfalso
              have hk2 := er.symm.trans HKJ.out
              have hb := (Fl.key_btw hr hrr l q).1 (by
                rw [hk2]
                have hko := HKO.out j hj
                rw [HKJ.out] at hko
                simp only at hko
                unfold Pl.lo Pl.hi
                rw [if_pos (by omega), if_pos (by omega)])
              have := HHE.out l q hlq.1 hlq.2 ⟨r, hrr, hb, hgd⟩
              simp only [bne] at this cx
              cases h1 : (nx l == -1) <;> cases h2 : (nx q == -1) <;> rw [h1, h2] at this cx <;> simp at this cx
          rcases (HL1.out.own j hj).2 with e | ⟨g, c, _, e, _⟩
          · exact absurd (List.eq_nil_of_length_eq_zero e.2) hne
          · exact ⟨g, c, e⟩
        obtain ⟨W2, hW2⟩ : ∃ W2, W2 = wr.alloc (.cells #[.int .i64 l, .int .i64 q] 112) := ⟨_, rfl⟩
        have hb2 : Below wr.heap.size wr W2 := by rw [hW2]; exact nbel_alloc _ _
        have hbW : Below w1.heap.size w1 W2 := hS.out.old.trans (hb2.mono hS.out.old.size)
        have HO2 := Lib.hid (dyown2 hS.out.own hb2)
        have HLW := Lib.hid (HL1.out.below hbW)
        obtain ⟨hh, hhh⟩ : ∃ hh, hh = Pl.heldB p sh p.rn (kf j) := ⟨_, rfl⟩
        obtain ⟨fj, hfj⟩ : ∃ fj, fj = fl j := ⟨_, rfl⟩
        obtain ⟨m, hm⟩ : ∃ m, m = (Pl.goodL p sh p.rn (kf j)).length := ⟨_, rfl⟩
        have hlk0 := HLW.out.map.look_hit hj
        have hlk : ∀ nq, (Instr.lookup 79 (.map (some b)) (.agg #[.int .i64 l, .int .i64 q]) false).run Tryz.prog ((wr.alloc (.cells #[.int .i64 l, .int .i64 q] 112)).drewN nq) = .ok (.agg #[.slice (some ⟨gq, 0, none⟩) m gc, .bool hh, .int .i64 fj]) ((wr.alloc (.cells #[.int .i64 l, .int .i64 q] 112)).drewN nq) := fun nq => by
          have k := (HLW.out.below (ndrewN (Below.refl _ _) nq)).map.look_hit hj
          rw [HKJ.out, ← HKJ.out, ← hhh, ← hfj, hgj, ← hm, HKJ.out, hW2] at k
          exact k
        have zg : g < wr.heap.size := World.block_lt_of_cell? _ _ n0
        have HGV : Hid (∀ s x, (numsV (Pl.goodL p sh p.rn (kf j)))[s]? = some x → ∀ nq, ((wr.alloc (.cells #[.int .i64 l, .int .i64 q] 112)).drewN nq).cell? ((⟨gq, 0, none⟩ : Addr).add s) = some x) := fun s x hx nq => by
          have k := (HLW.out.below (ndrewN (Below.refl _ _) nq)).own j hj
          rw [hgj] at k
          rw [← hW2]
          exact k.cells rfl s x hx
        have HM := Lib.hid hm
        have HBW := Lib.hid hbW
        have HW2 := Lib.hid hW2
        have HML : Hid (m ≤ 100) := by show m ≤ 100; rw [hm]; have := Pl.goodL_len (p := p) (sh := sh) (k := p.rn) (κ := kf j); omega
        have HRNL : Hid (rn = (gath p sh nx f i).length ∧ (gath p sh nx f i).length ≤ 100) := by
          have h1 : (gath p sh nx f i).length ≤ p.rn := gath_len HFI.out (by omega)
          rcases hS.out.own.2 with e | ⟨g, c, _, e, _⟩
          · have := e.1; injection this with _ e2 _; exact ⟨by omega, by omega⟩
          · injection e with _ e2 _; exact ⟨e2, by omega⟩
        clear hW2 hb2 hbW hhh hfj hm hlk0 hgj
        go_wp2_with fail
        go_quiet (fail)
        have cx' : (!((nx l == -1) == (nx q == -1))) = true := cx
        rw [cx']
        obtain ⟨hi0, hz0, hz1, hz2⟩ := HPI.out
        have hlk1 := hlk nq
        have hoq : ((wr.alloc (.cells #[.int .i64 l, .int .i64 q] 112)).drewN nq).ownsRow w1.heap.size 2 1 (.slice ra rn rc) (gath p sh nx f i).length (numsV (gath p sh nx f i)) := by
          rw [← HW2.out]; exact dyown2 HO2.out (ndrewN (Below.refl _ _) nq)
        have hcq := HGV.out
        have hml := HML.out
        clear hlk cx
        have hfd := bu_good (some ⟨gq, 0, none⟩) m gc hh fj
        go_wp2_with (at_builtin; refine wpList_append_own _ rfl _ _ 23 rfl w1.heap.size 2 i0 (.int .i64 0) 1 8 Tryz.underlying23 hi0 hz0 hz1 hz2 rfl (by decide) _ _ _ rfl hoq ⟨gq, 0, none⟩ m gc (numsV (Pl.goodL p sh p.rn (kf j))) rfl ?d0 ?d1 ?d2 ?d3 ?d4 ?d5 ?_)
        case d0 => simp [numsV, HM.out]
        case d1 => exact fun s x hx => HGV.out s x hx nq
        case d2 =>
          intro x hx
          unfold numsV at hx
          obtain ⟨y, _, rfl⟩ := List.mem_map.1 hx
          rfl
        case d3 => have := HRNL.out; unfold maxLen; omega
        case d4 => have := HRNL.out; omega
        case d5 => have := HBW.out.size; rw [HW2.out] at this; exact this
        intro v' w5 hown hgrow hnil
        have hown2 : w5.ownsRow w1.heap.size 2 1 v' (gath p sh nx f (i + 1)).length (numsV (gath p sh nx f (i + 1))) := by
          have e2 : numsV (gath p sh nx f (i + 1)) = numsV (gath p sh nx f i) ++ numsV (Pl.goodL p sh p.rn (kf j)) := by rw [HGA.out]; simp [numsV]
          have e3 : (gath p sh nx f (i + 1)).length = (gath p sh nx f i).length + m := by rw [HGA.out, List.length_append, HM.out]
          rw [e2, e3]; exact hown
        obtain ⟨a9, n9, c9, rfl⟩ : ∃ a9 n9 c9, v' = .slice a9 n9 c9 := by
          rcases hown2.2 with e | ⟨g, c, _, e, _⟩
          · exact ⟨_, _, _, e.1⟩
          · exact ⟨_, _, _, e⟩
        have HB5 : Hid (Below w1.heap.size w1 w5) := by
          have hbn : Below w1.heap.size w1 ((wr.alloc (.cells #[.int .i64 l, .int .i64 q] 112)).drewN nq) := by
            have := ndrewN HBW.out nq
            rw [HW2.out] at this
            exact this
          exact ⟨hgrow.os.trans hbn.os, hgrow.tape.trans hbn.tape, hgrow.output.trans hbn.output, Nat.le_trans hbn.size hgrow.size, fun k hk => (hgrow.block k (Nat.lt_of_lt_of_le hk hbn.size) (fun e => by have := (hoq.lt k e.symm).1; omega)).trans (hbn.block k hk)⟩
        have HS5 : Hid (ArS p sh nx f (i + 1) (.slice a9 n9 c9) w1 w5) := ⟨hown2, HB5.out⟩
        clear hown hown2 hgrow hnil hoq hlk1 hfd hcq
        go_wp2_with fail
        go_roundw
        case rel => exact ⟨i + 1, a9, n9, c9, by omega, by go_num, rfl, HS5⟩
        case measure => simp [intOf]; omega
      · rw [if_neg cx] at HGA
        have zg : g < wr.heap.size := World.block_lt_of_cell? _ _ n0
        have HS5 : Hid (∀ nq, ArS p sh nx f (i + 1) (.slice ra rn rc) w1 ((wr.alloc (.cells #[.int .i64 l, .int .i64 q] 112)).drewN nq)) := fun nq => by
          have hb2 : Below wr.heap.size wr ((wr.alloc (.cells #[.int .i64 l, .int .i64 q] 112)).drewN nq) := ndrewN (nbel_alloc _ _) nq
          refine ⟨?_, hS.out.old.trans (hb2.mono hS.out.old.size)⟩
          rw [HGA.out, List.append_nil]
          exact dyown2 hS.out.own hb2
        go_wp2_with fail
        go_quiet (fail)
        have cx' : (!((nx l == -1) == (nx q == -1))) = false := by simpa [bne] using cx
        rw [cx']
        clear cx cx'
        go_wp2_with fail
        go_roundw
        case rel => exact ⟨i + 1, ra, rn, rc, by omega, by go_num, rfl, HS5.out _⟩
        case measure => simp [intOf]; omega
    · obtain rfl : i = cnt := by omega
      have HLE : Hid ((gath p sh nx f i).length ≤ 1000) := by
        show _ ≤ _
        have h1 : (gath p sh nx f i).length ≤ p.rn := gath_len HFI.out (Nat.le_refl _)
        have := hr.r
        omega
      go_wp2_with fail
      refine (psort_any _ (gath p sh nx f i) _ _ hS.out.own HLE.out).mono ?_
      rintro e w6 ⟨rfl, hso, hgrow⟩
      have hso2 := hso _ (gath_sorted (gath_nodup HFI.out i (Nat.le_refl _)) (fun r => gath_about hr hs HF2.out HALL.out HHE.out r))
      have hle : (gath p sh nx f i).length = (Fl.about p (fun v => nx v != -1)).length := by
        have h1 : (numsV (Fl.about p (fun v => nx v != -1))).length = (gath p sh nx f i).length * 1 := hso2.1
        simpa [numsV] using h1.symm
      rw [hle] at hso2
      have HB6 : Hid (Below w1.heap.size w1 w6) := by
        have hbn := hS.out.old
        exact ⟨hgrow.os.trans hbn.os, hgrow.tape.trans hbn.tape, hgrow.output.trans hbn.output, Nat.le_trans hbn.size hgrow.size, fun k hk => (hgrow.block k (Nat.lt_of_lt_of_le hk hbn.size) (fun e => by have := (hS.out.own.lt k e.symm).1; omega)).trans (hbn.block k hk)⟩
      have HFIN : Hid (w6.ownsRow w.heap.size 2 1 (.slice ra rn rc) (Fl.about p (fun v => nx v != -1)).length (numsV (Fl.about p (fun v => nx v != -1)))) := by
        refine ⟨hso2.1, ?_⟩
        rcases hso2.2 with e | ⟨g, c, cur, e1, e2, e3⟩
        · exact Or.inl e
        · exact Or.inr ⟨g, c, cur, e1, Nat.le_trans HB1.out.size e2, e3⟩
      clear hso hso2 hgrow hle hS
      go_wp2_with fail
      go_ret
      exact ⟨⟨_, rfl, HFIN.out⟩, HB1.out.trans (HB6.out.mono HB1.out.size)⟩
end Go.Proofs.YtipmjobhegpdgaaGreatDoor
namespace Go.Proofs.YtipmjobhegpdgaaGreatDoor
open Go Go.RowKit Go.Deep

/-- How many ways a bundle carries, read off the map. -/
def thirdOf : Value → Value
  | .agg a => a.getD 2 undef
  | _ => undef
def flOf (b : Nat) (W : World) (j : Nat) : Int := match W.heap[b]? with
  | some (.map es _) => (es[j]?.map (fun e => intOf (thirdOf e.val))).getD 0
  | _ => 0
theorem LayF.flOf {p : Pl.Plan} {sh : Nat → Prop} {b cnt : Nat} {kf : Nat → Int × Int} {gv : Nat → Value} {fl : Nat → Int} {B : Nat} {W : World} (h : LayF p sh b cnt kf gv fl B W) {j : Nat} (hj : j < cnt) : flOf b W j = fl j := by
  unfold Go.Proofs.YtipmjobhegpdgaaGreatDoor.flOf
  rw [h.map.heap]
  have : (LEs cnt kf (fun j => bu (gv j) (Pl.heldB p sh p.rn (kf j)) (fl j)))[j]? = some (ent kf (fun j => bu (gv j) (Pl.heldB p sh p.rn (kf j)) (fl j)) j) := by rw [← Array.getElem?_toList]; exact LEs.at_ hj
  simp only [this, ent, Option.map_some, Option.getD_some]
  rfl
theorem FB_congr {cnt : Nat} {kf : Nat → Int × Int} {fl fl' : Nat → Int} (h : ∀ j, j < cnt → fl j = fl' j) : Fl.FB cnt kf fl = Fl.FB cnt kf fl' := by
  funext a b
  unfold Fl.FB
  split
  · rename_i hx
    rw [h _ (Classical.choose_spec hx.2).1]
  · rfl
/-- How many ways were taken. -/
noncomputable def kOf (n : Pl.Plan) (b cnt : Nat) (kf : Nat → Int × Int) (t : Nat) (W : World) : Int := Fl.sm (fun a => Fl.FB cnt kf (flOf b W) a t) n.hn
theorem kOf_eq {p : Pl.Plan} {sh : Nat → Prop} {b cnt : Nat} {kf : Nat → Int × Int} {gv : Nat → Value} {fl : Nat → Int} {B t : Nat} {k : Int} {W : World} (h : LayF p sh b cnt kf gv fl B W) (hf : Fl.Flow p.hn (Fl.cc p) (Fl.hh p) (Fl.isSrc p) t (Fl.FB cnt kf fl) k) : kOf p b cnt kf t W = k := by
  unfold kOf
  rw [FB_congr (fun j hj => h.flOf hj)]
  exact hf.val
/-- What stands from way to way. -/
structure LwS (n : Pl.Plan) (la : Option Addr) (lk : Nat) (fa : Option Addr) (fk : Nat) (wa : Option Addr) (wk : Nat) (b cnt : Nat) (kf : Nat → Int × Int) (gv : Nat → Value) (B t : Nat) (k : Int) (w W : World) : Prop where
  st : ∃ fl, LayF n (Pl.In 0 (fun _ => 0)) b cnt kf gv fl B W ∧ Fl.Flow n.hn (Fl.cc n) (Fl.hh n) (Fl.isSrc n) t (Fl.FB cnt kf fl) k ∧ ∀ j, j < cnt → -k ≤ fl j ∧ fl j ≤ k
  pl : W.rowIs w.heap.size 32 3 (rowN (plL n la lk fa fk wa wk))
  old : Below w.heap.size w W
  lo : w.heap.size < b
theorem LwS.below {n : Pl.Plan} {la : Option Addr} {lk : Nat} {fa : Option Addr} {fk : Nat} {wa : Option Addr} {wk : Nat} {b cnt : Nat} {kf : Nat → Int × Int} {gv : Nat → Value} {B t : Nat} {k : Int} {w W W' : World} (h : LwS n la lk fa fk wa wk b cnt kf gv B t k w W) (hb : Below W.heap.size W W') : LwS n la lk fa fk wa wk b cnt kf gv B t k w W' := by
  obtain ⟨fl, h1, h2, h3⟩ := h.st
  exact ⟨⟨fl, h1.below hb, h2, h3⟩, nrow_below h.pl hb, h.old.trans (hb.mono h.old.size), h.lo⟩
set_option maxRecDepth 100000 in
set_option maxHeartbeats 4000000 in
theorem leastRows_any (n : Pl.Plan) (la : Option Addr) (lk : Nat) (fa : Option Addr) (fk : Nat) (wa : Option Addr) (wk : Nat) (t : Nat) (w : World) (h : PlAt n la fa wa w) (hr : Pl.Right n) (ht : t < n.hn) (hd : ¬ Pl.Wet n (Pl.Good n) t) :
    Calls Tryz.prog 65 #[plV n la lk fa fk wa wk, .int .i64 t] w fun e w' => (∃ v, e = .returned v ∧ w'.ownsRow w.heap.size 2 1 v (Fl.lrows n t).length (numsV (Fl.lrows n t))) ∧ Below w.heap.size w w' := by
  obtain ⟨W, hW⟩ : ∃ W, W = w.alloc (.cells #[.slice la n.rn lk, .slice fa n.sn fk, .slice wa n.hn wk] 32) := ⟨_, rfl⟩
  have hb : Below w.heap.size w W := by rw [hW]; exact nbel_alloc _ _
  have HR : Hid (W.rowIs w.heap.size 32 3 (rowN (plL n la lk fa fk wa wk))) := by show World.rowIs _ _ _ _ _; rw [hW]; exact rowN_alloc w _ _
  have H := Lib.hid h
  have HB := Lib.hid hb
  have HD := Lib.hid hd
  have hts : ¬ Fl.isSrc n t := fun ⟨i, hi, e⟩ => by
    have := Pl.Wet.src (p := n) (sh := Pl.Good n) i hi
    rw [e] at this
    exact hd (by simpa using this)
  have HTS := Lib.hid hts
  have HSN : Hid (∀ i, ¬ Pl.In 0 (fun _ => (0 : Int)) i) := fun i ⟨q, hq, _⟩ => absurd hq (Nat.not_lt_zero _)
  have HLC : Hid (Fl.lcode n t = 0) := by
    show _ = _
    unfold Fl.lcode
    rw [dB_tt ⟨hr, by omega, by omega⟩, if_pos rfl]
    have e : ((t : Int)).toNat = t := by omega
    rw [e, dB_ff hd]
    rfl
  have hh2 := hr.h2
  have hh1 := hr.h1
  have hsn : n.sn ≤ 40 := hr.sn40
  have HW := Lib.hid hW
  clear hW hb h hd hts
  go_enter Tryz.func65, Tryz.ntmps65
  go_wp2_with fail
  rw [← HW.out]
  refine (layoutOf_any n la lk none 0 0 (fun _ => 0) _ (H.out.l.below HB.out) hr (Or.inl rfl) (by omega)).mono ?_
  rintro e w1 ⟨⟨b, cnt, kf, gv, rfl, hL⟩, hb1⟩
  have hcn := lay_cnt hL hr
  have HS0 : Hid (LwS n la lk fa fk wa wk b cnt kf gv W.heap.size t 0 w w1) := by
    refine ⟨⟨fun _ => 0, LayF.of hL, Fl.flow_zero n cnt kf t, fun j _ => by simp⟩, nrow_below HR.out hb1, HB.out.trans (hb1.mono HB.out.size), ?_⟩
    have h1 := hL.lo
    have h2 := HR.out.lt
    omega
  have HK0 : Hid (kOf n b cnt kf t w1 = 0) := kOf_eq (LayF.of hL) (Fl.flow_zero n cnt kf t)
  clear hL hb1 HW HB HR
  go_wp2_with fail
  go_loopw [] (fun wr => ∃ k : Int, 0 ≤ k ∧ Hid (LwS n la lk fa fk wa wk b cnt kf gv W.heap.size t k w wr) ∧ Hid (kOf n b cnt kf t wr = k)) (fun wr => (160001 - kOf n b cnt kf t wr).toNat)
  case atStart => exact ⟨0, Int.le_refl _, HS0, HK0⟩
  case round =>
    clear HS0 HK0
    obtain ⟨k, hk0, hS, hK⟩ := hrel
    obtain ⟨⟨p0, p1, p2⟩, _⟩ := rowN3 hS.out.pl
    have hzb : w.heap.size < wr.heap.size := hS.out.pl.lt
    obtain ⟨W2, hW2⟩ : ∃ W2, W2 = wr.alloc (.cells #[.int .i64 t] 2) := ⟨_, rfl⟩
    have hb2 : Below wr.heap.size wr W2 := by rw [hW2]; exact nbel_alloc _ _
    have HS2 := Lib.hid (hS.out.below hb2)
    have HGT : Hid (IsAt (some ⟨wr.heap.size, 0, none⟩) 1 (fun _ => (t : Int)) W2) := by
      refine Or.inr ⟨_, rfl, fun j hj => ?_⟩
      obtain rfl : j = 0 := by omega
      rw [hW2]
      exact (rowN_alloc wr [.int .i64 t] 2).cell (i := 0) (by simp)
    have HW2 := Lib.hid hW2
    obtain ⟨fl, hLF, hFlow, hfl⟩ := HS2.out.st
    have hkk : k ≤ 160000 := Fl.Flow.few hr ht HD.out hFlow
    have HLF := Lib.hid hLF
    have HFlow := Lib.hid hFlow
    have HFL := Lib.hid hfl
    have HKO := Lib.hid (hLF.keys hr)
    have HINJ := Lib.hid hLF.map.inj
    have HALL : Hid (∀ i, i < n.rn → ∃ j, j < cnt ∧ kf j = Pl.key n i) := fun i hi => hLF.all i hi (HSN.out i)
    have HRM := Lib.hid hLF.room
    clear hW2 hb2 hLF hFlow hfl
    go_wp2_with fail
    rw [← HW2.out]
    clear HW2
    refine (waysTo_any b cnt kf _ _ fl (some ⟨wr.heap.size, 0, none⟩) 1 1 (fun _ => (t : Int)) n.hn _ HRM.out hcn HKO.out (fun j hj => by have := HFL.out j hj; omega) (fun j _ => by have := Pl.goodL_len (p := n) (sh := Pl.In 0 (fun _ => (0 : Int))) (k := n.rn) (κ := kf j); have := hr.r; omega) HGT.out (by omega) (fun e => by cases e) (fun i _ => by omega) (by omega) (by omega)).mono ?_
    rintro e w3 ⟨⟨g, nx, rfl, hgl, hgb, hFo⟩, hb3⟩
    have hgo : (fun v : Nat => Pl.Has 1 (fun _ => (t : Int)) (v : Int)) = (fun v => v = t) := by
      funext v
      apply propext
      constructor
      · rintro ⟨i, _, e⟩
        have e' : (t : Int) = (v : Int) := e
        omega
      · intro e; exact ⟨0, by omega, by rw [e]⟩
    rw [hgo] at hFo
    have HS3 := Lib.hid (HS2.out.below hb3)
    have HLF3 := Lib.hid (HLF.out.below hb3)
    have HFO := Lib.hid hFo
    have HGB := Lib.hid hgb
    have HGN : Hid (g ≠ b) := by have := HLF.out.map.lt; show g ≠ b; omega
    clear hgo hFo hgb hb3 HS2 p0 p1 p2 hS HRM HLF HGT hgl
    obtain ⟨⟨p0, p1, p2⟩, _⟩ := rowN3 HS3.out.pl
    go_wp2_with fail
    refine (firstWay_any fa n.sn fk n.S g n.hn nx _ (H.out.f.below HS3.out.old) HGB.out (by omega) (fun i hi => (hr.s i hi).1) (by omega)).mono ?_
    rintro e w4 ⟨hcase, rfl⟩
    have hRR : ∀ a c, a < n.hn → c < n.hn → (RoomR cnt kf (fun j => (Pl.goodL n (Pl.In 0 (fun _ => (0 : Int))) n.rn (kf j)).length) (fun j => Pl.heldB n (Pl.In 0 (fun _ => (0 : Int))) n.rn (kf j)) fl a c ↔ Fl.Room (Fl.cc n) (Fl.hh n) (Fl.FB cnt kf fl) a c) := fun a c _ _ => Fl.roomB_iff hr HSN.out HINJ.out HKO.out HALL.out a c
    have HRR := Lib.hid hRR
    clear hRR
    rcases hcase with ⟨i, hi, hne, rfl⟩ | ⟨hno, rfl⟩
    · obtain ⟨s, hs⟩ : ∃ s : Nat, n.S i = (s : Int) := ⟨(n.S i).toNat, by have := (hr.s i hi).1; omega⟩
      have hsn2 : s < n.hn := by have := (hr.s i hi).1; omega
      rw [hs, Int.toNat_natCast] at hne
      rw [hs]
      have HNE := Lib.hid hne
      have HSS : Hid (Fl.isSrc n s) := ⟨i, hi, hs⟩
      clear hne hs
      go_wp2_with fail
      refine (take_any hr HSN.out t g s nx k k _ HLF3.out HGB.out HGN.out HFL.out (by omega) HFlow.out HTS.out HFO.out HSS.out hsn2 HNE.out).mono ?_
      rintro e w5 ⟨rfl, ⟨fl', hL', hF', hfl'⟩, hO⟩
      have HS5 : Hid (LwS n la lk fa fk wa wk b cnt kf gv W.heap.size t (k + 1) w w5) := by
        have lo := HS3.out.lo
        refine ⟨⟨fl', hL', hF', hfl'⟩, HS3.out.pl.of_block (hO.block _ HS3.out.pl.lt (by omega)), HS3.out.old.trans ⟨hO.os, hO.tape, hO.output, hO.size, fun q hq => hO.block q (Nat.lt_of_lt_of_le hq HS3.out.old.size) (by omega)⟩, lo⟩
      have HK5 : Hid (kOf n b cnt kf t w5 = k + 1) := kOf_eq hL' hF'
      clear hL' hF' hfl' hO HS3 p0 p1 p2
      go_wp2_with fail
      go_roundw
      case rel => exact ⟨k + 1, by omega, HS5, HK5⟩
      case measure => rw [hK.out, HK5.out]; omega
    · have HBEST : Hid (Fl.Best n t (fun v => nx v != -1)) := Fl.found_best ht HFlow.out HRR.out HFO.out (fun a ha ⟨i, hi, e⟩ => by
        have := hno i hi
        rw [e, Int.toNat_natCast] at this
        exact this)
      have HEQ : Hid (Fl.lrows n t = Fl.about n (fun v => nx v != -1)) := Fl.lrows_ok hr ht HLC.out HBEST.out
      have HHE : Hid (∀ a c, a < n.hn → c < n.hn → Fl.hh n a c → ((nx a != -1) = (nx c != -1))) := fun a c ha hc hh => by
        have h1 := HFO.out.shut a c ha hc
        have h2 := HFO.out.shut c a hc ha
        have r1 := (HRR.out a c ha hc).2 (Or.inl hh)
        have r2 := (HRR.out c a hc ha).2 (Or.inl (by
          obtain ⟨i, hi, hb, hv⟩ := hh
          exact ⟨i, hi, by unfold Fl.btw at hb ⊢; rcases hb with h | h
                           · exact Or.inr ⟨h.1, h.2⟩
                           · exact Or.inl ⟨h.1, h.2⟩, hv⟩))
        by_cases e1 : nx a = -1
        · by_cases e2 : nx c = -1
          · rw [e1, e2]
          · exact absurd e1 (h1 e2 r1)
        · have e2 := h2 e1 r2
          have q1 : (nx a != -1) = true := by simpa using e1
          have q2 : (nx c != -1) = true := by simpa using e2
          rw [q1, q2]
      clear hno
      go_wp2_with fail
      refine (around_any hr HSN.out g nx _ HLF3.out HGB.out hcn HHE.out).mono ?_
      rintro e w5 ⟨⟨v, rfl, hown⟩, hb5⟩
      have HOW : Hid (w5.ownsRow w.heap.size 2 1 v (Fl.lrows n t).length (numsV (Fl.lrows n t))) := by
        show World.ownsRow _ _ _ _ _ _ _
        rw [HEQ.out]
        refine ⟨hown.1, ?_⟩
        rcases hown.2 with e | ⟨g, c, cur, e1, e2, e3⟩
        · exact Or.inl e
        · exact Or.inr ⟨g, c, cur, e1, Nat.le_trans HS3.out.old.size e2, e3⟩
      have HB5 : Hid (Below w.heap.size w w5) := HS3.out.old.trans (hb5.mono HS3.out.old.size)
      clear hown hb5
      go_wp2_with fail
      go_ret
      exact ⟨⟨_, rfl, HOW.out⟩, HB5.out⟩
end Go.Proofs.YtipmjobhegpdgaaGreatDoor
namespace Go.Proofs.YtipmjobhegpdgaaGreatDoor
open Go Go.RowKit Go.Deep

namespace Pl
/-- The first rows with good valves. -/
noncomputable def goods (p : Plan) (i : Nat) : List Nat := (List.range i).filter fun r => dB (gd p r)
theorem goods_yes {p : Plan} {i : Nat} (h : gd p i) : goods p (i + 1) = goods p i ++ [i] := by unfold goods; rw [List.range_succ, List.filter_append]; simp [dB_tt h]
theorem goods_no {p : Plan} {i : Nat} (h : ¬ gd p i) : goods p (i + 1) = goods p i := by unfold goods; rw [List.range_succ, List.filter_append]; simp [dB_ff h]
theorem goods_len {p : Plan} {i : Nat} : (goods p i).length ≤ i := by
  have := List.length_filter_le (fun r => dB (gd p r)) (List.range i)
  simpa [goods] using this
theorem goods_mem {p : Plan} {i r : Nat} : r ∈ goods p i ↔ r < i ∧ gd p r := by unfold goods; rw [List.mem_filter, List.mem_range, dB_iff]
theorem goods_in {p : Plan} (r : Nat) : In (goods p p.rn).length (fun j => (((goods p p.rn).getD j 0 : Nat) : Int)) r ↔ Good p r := by
  have e : Good p r ↔ r ∈ goods p p.rn := goods_mem.symm
  rw [e, List.mem_iff_getElem?]
  constructor
  · rintro ⟨i, hi, h⟩
    refine ⟨i, ?_⟩
    rw [List.getElem?_eq_getElem hi]
    simp only [List.getD_eq_getElem?_getD, List.getElem?_eq_getElem hi, Option.getD_some] at h
    congr 1
    omega
  · rintro ⟨i, h⟩
    obtain ⟨hi, h2⟩ := List.getElem?_eq_some_iff.1 h
    refine ⟨i, hi, ?_⟩
    simp only [List.getD_eq_getElem?_getD, h, Option.getD_some]
theorem goods_set {p : Plan} : SetOk p (goods p p.rn).length (fun j => (((goods p p.rn).getD j 0 : Nat) : Int)) := by
  have hpw : (goods p p.rn).Pairwise (· < ·) := by
    have h1 : (List.range p.rn).Pairwise (· < ·) := List.pairwise_lt_range
    exact h1.filter _
  have hg : ∀ j, j < (goods p p.rn).length → (goods p p.rn).getD j 0 ∈ goods p p.rn := fun j hj => by
    rw [List.getD_eq_getElem?_getD, List.getElem?_eq_getElem hj, Option.getD_some]
    exact List.getElem_mem hj
  refine ⟨fun i hi => ⟨⟨by omega, ?_⟩, fun h0 => ?_⟩, fun i hi => ?_⟩
  · have := (goods_mem.1 (hg i hi)).1
    omega
  · have h1 := List.pairwise_iff_getElem.1 hpw (i - 1) i (by omega) hi (by omega)
    simp only [List.getD_eq_getElem?_getD, List.getElem?_eq_getElem hi, List.getElem?_eq_getElem (show i - 1 < (goods p p.rn).length by omega), Option.getD_some]
    omega
  · have := (goods_mem.1 (hg i hi)).2
    rw [Int.toNat_natCast]
    exact this
theorem goods_shut {p : Plan} (hr : Right p) {t : Nat} (ht : t < p.hn) : ShutOk p (t : Int) (goods p p.rn).length (fun j => (((goods p p.rn).getD j 0 : Nat) : Int)) ↔ ¬ Wet p (Good p) t := by
  have hl := goods_len (p := p) (i := p.rn)
  have hrr := hr.r
  constructor
  · rintro ⟨_, v, e, _, h⟩
    obtain rfl : t = v := by omega
    exact fun k => h (k.mono (fun i hi => (goods_in i).1 hi))
  · intro h
    exact ⟨⟨by omega, hr, goods_set⟩, t, rfl, ht, fun k => h (k.mono (fun i hi => (goods_in i).2 hi))⟩
end Pl
/-- What stands from row to row. -/
structure GdS (n : Pl.Plan) (i : Nat) (rv : Value) (w W : World) : Prop where
  own : W.ownsRow w.heap.size 2 1 rv (Pl.goods n i).length (numsV (Pl.goods n i))
  old : Below w.heap.size w W
set_option maxRecDepth 100000 in
set_option maxHeartbeats 4000000 in
theorem goodRows_any (n : Pl.Plan) (la : Option Addr) (lk : Nat) (w : World) (h : IsAt la (n.rn * 3) n.R w) (hrn : n.rn ≤ 100) :
    Calls Tryz.prog 64 #[.slice la n.rn lk] w fun e w' => (∃ v, e = .returned v ∧ w'.ownsRow w.heap.size 2 1 v (Pl.goods n n.rn).length (numsV (Pl.goods n n.rn))) ∧ Below w.heap.size w w' := by
  obtain ⟨i0, hi0, hz0, hz1, hz2⟩ := info_parts yinfo_i64
  have H := Lib.hid h
  clear h
  have HS0 : Hid (GdS n 0 (.slice none 0 0) w w) := ⟨World.ownsRow_nil _ _ _ _, Below.refl _ _⟩
  go_enter Tryz.func64, Tryz.ntmps64
  go_wp2_with fail
  go_loopw [3, 8] (fun rv iv wr => ∃ (i : Nat) (ra : Option Addr) (rn rc : Nat), i ≤ n.rn ∧ iv = .int .i64 i ∧ rv = .slice ra rn rc ∧ Hid (GdS n i (.slice ra rn rc) w wr)) (fun _ iv _ => n.rn - (intOf iv).toNat)
  case atStart => exact ⟨0, none, 0, 0, Nat.zero_le _, rfl, rfl, HS0⟩
  case round =>
    clear HS0
    obtain ⟨i, ra, rn, rc, hi, rfl, rfl, hS⟩ := hrel
    by_cases hlt : i < n.rn
    · have hltz : (i : Int) < (n.rn : Int) := by omega
      obtain ⟨b, e, c0, c1, c2⟩ := (H.out.below hS.out.old).at3 hlt
      subst e
      have hll := Pl.goods_len (p := n) (i := i)
      obtain ⟨x0, x1, x2, hx⟩ : ∃ x0 x1 x2 : Int, n.R (i * 3) = x0 ∧ n.R (i * 3 + 1) = x1 ∧ n.R (i * 3 + 2) = x2 := ⟨_, _, _, rfl, rfl, rfl⟩
      rw [hx.1] at c0
      rw [hx.2.1] at c1
      rw [hx.2.2] at c2
      have HX : Hid (n.R (i * 3 + 2) = x2) := hx.2.2
      clear hx
      by_cases hg : x2 = 1
      · have hg' : (x2 == 1) = true := by simp [hg]
        have HGD : Hid (Pl.goods n (i + 1) = Pl.goods n i ++ [i]) := Pl.goods_yes (by show n.R (i * 3 + 2) = 1; rw [HX.out]; exact hg)
        clear hg
        have ho2 := (dyown2 hS.out.own (nbel_alloc wr (.cells #[.int .i64 x0, .int .i64 x1, .int .i64 x2] 61)))
        go_wp2_with (at_builtin; refine wpList_append_own _ rfl _ _ 23 rfl w.heap.size 2 i0 (.int .i64 0) 1 8 Tryz.underlying23 hi0 hz0 hz1 hz2 rfl (by decide) _ _ _ rfl (ho2.alloc _) ⟨wr.heap.size + 1, 0, none⟩ 1 1 [.int .i64 (i : Nat)] rfl rfl ?d1 ?d2 ?d3 ?d4 ?d5 ?_)
        case d1 =>
          intro s x hx
          match s, hx with
          | 0, hx => simp at hx; subst hx; exact (rowN_alloc' (g := wr.heap.size + 1) (by simp) [.int .i64 (i : Nat)] 2).cell (i := 0) (by simp)
        case d2 => intro x hx; simp at hx; subst hx; rfl
        case d3 => unfold maxLen; omega
        case d4 => omega
        case d5 => have := hS.out.old.size; simp; omega
        intro v' w5 hown hgrow hnil
        have hown2 : w5.ownsRow w.heap.size 2 1 v' (Pl.goods n (i + 1)).length (numsV (Pl.goods n (i + 1))) := by
          rw [HGD.out, List.length_append]
          have e2 : numsV (Pl.goods n i ++ [i]) = numsV (Pl.goods n i) ++ [.int .i64 (i : Nat)] := by simp [numsV]
          rw [e2]; exact hown
        obtain ⟨a9, n9, c9, rfl⟩ : ∃ a9 n9 c9, v' = .slice a9 n9 c9 := by
          rcases hown2.2 with e | ⟨g, c, _, e, _⟩
          · exact ⟨_, _, _, e.1⟩
          · exact ⟨_, _, _, e⟩
        have HS5 : Hid (GdS n (i + 1) (.slice a9 n9 c9) w w5) := by
          have hbn : Below w.heap.size w ((wr.alloc (.cells #[.int .i64 x0, .int .i64 x1, .int .i64 x2] 61)).alloc (.cells #[.int .i64 (i : Nat)] 2)) := (hS.out.old.alloc hS.out.old.size _).alloc (by have := hS.out.old.size; simp; omega) _
          exact ⟨hown2, ⟨hgrow.os.trans hbn.os, hgrow.tape.trans hbn.tape, hgrow.output.trans hbn.output, Nat.le_trans hbn.size hgrow.size, fun k hk => (hgrow.block k (Nat.lt_of_lt_of_le hk hbn.size) (fun e => by have := (hS.out.own.lt k e.symm).1; omega)).trans (hbn.block k hk)⟩⟩
        clear hown hown2 hgrow hnil ho2
        go_wp2_with fail
        go_roundw
        case rel => exact ⟨i + 1, a9, n9, c9, by omega, by go_num, rfl, HS5⟩
        case measure => simp [intOf]; omega
      · have hg' : (x2 == 1) = false := by simp [hg]
        have HGD : Hid (Pl.goods n (i + 1) = Pl.goods n i) := Pl.goods_no (fun x => hg (by rw [← HX.out]; exact x))
        have HS5 : Hid (GdS n (i + 1) (.slice ra rn rc) w (wr.alloc (.cells #[.int .i64 x0, .int .i64 x1, .int .i64 x2] 61))) := by
          refine ⟨?_, hS.out.old.alloc hS.out.old.size _⟩
          rw [HGD.out]
          exact dyown2 hS.out.own (nbel_alloc _ _)
        clear hg
        go_wp2_with fail
        go_roundw
        case rel => exact ⟨i + 1, ra, rn, rc, by omega, by go_num, rfl, HS5⟩
        case measure => simp [intOf]; omega
    · obtain rfl : i = n.rn := by omega
      go_wp2_with fail
      go_ret
      exact ⟨⟨_, rfl, hS.out.own⟩, hS.out.old⟩
end Go.Proofs.YtipmjobhegpdgaaGreatDoor
namespace Go.Proofs.YtipmjobhegpdgaaGreatDoor
open Go Go.RowKit Go.Deep

abbrev shV (v : Value) (h c : Int) : Value := .agg #[v, .int .i64 h, .int .i64 c]
abbrev shL (v : Value) (h c : Int) : List Value := [v, .int .i64 h, .int .i64 c]
theorem sput3 {V : World} {g : Nat} {x0 x1 x2 : Value} {t : TypeId} (h : V.rowIs g t 3 (rowN [x0, x1, x2])) (y0 y1 y2 : Value) : (((V.setCell ⟨g, 0, none⟩ y0).setCell ⟨g, 1, none⟩ y1).setCell ⟨g, 2, none⟩ y2).rowIs g t 3 (rowN [y0, y1, y2]) :=
  rowN_put (rowN_put (rowN_put h 0 _ (by simp)) 1 _ (by simp)) 2 _ (by simp)
theorem sbel3 {V w : World} {B g : Nat} (h : Below B w V) (hg : B ≤ g) (y0 y1 y2 : Value) : Below B w (((V.setCell ⟨g, 0, none⟩ y0).setCell ⟨g, 1, none⟩ y1).setCell ⟨g, 2, none⟩ y2) :=
  ((h.setCell (p := ⟨g, 0, none⟩) hg _).setCell (p := ⟨g, 1, none⟩) hg _).setCell (p := ⟨g, 2, none⟩) hg _
theorem sblk3 (V : World) {g k : Nat} (hk : k ≠ g) (y0 y1 y2 : Value) : (((V.setCell ⟨g, 0, none⟩ y0).setCell ⟨g, 1, none⟩ y1).setCell ⟨g, 2, none⟩ y2).heap[k]? = V.heap[k]? := by
  rw [Below.heap_setCell _ _ _ _ (by show k ≠ g; exact hk), Below.heap_setCell _ _ _ _ (by show k ≠ g; exact hk), Below.heap_setCell _ _ _ _ (by show k ≠ g; exact hk)]
set_option maxRecDepth 100000 in
set_option maxHeartbeats 4000000 in
theorem tellShut_ok (a : Option Addr) (k d : Nat) (h c : Int) (w : World) :
    Calls Tryz.prog 36 #[shV (.slice a k d) h c, .nilIface] w fun e w' => e = .returned (shV (.slice a k d) h c) ∧ Below w.heap.size w w' := by
  go_enter Tryz.func36, Tryz.ntmps36
  go_wp2_with fail
  exact bodyPost_ret (v := shV (.slice a k d) h c) (by simp only [results, Tryz.results36]; simp [go_sem]) rfl ⟨rfl, (nbel_alloc _ _).alloc (by simp) _⟩
set_option maxRecDepth 100000 in
set_option maxHeartbeats 4000000 in
theorem tellShut_bad (a : Option Addr) (k d : Nat) (h c : Int) (ev : Value) (c' : Int) (w : World) (he : ErrIs ev c') (hg : Et w) :
    Calls Tryz.prog 36 #[shV (.slice a k d) h c, ev] w fun e w' => e = .returned (shV (.slice none 0 0) 0 c') ∧ Below w.heap.size w w' := by
  obtain ⟨yy, rfl, hy⟩ := he
  obtain ⟨W, hW⟩ : ∃ W, W = (w.alloc (.cells #[.slice a k d, .int .i64 h, .int .i64 c] 28)).alloc (.cells #[.slice none 0 0, .int .i64 0, .int .i64 0] 28) := ⟨_, rfl⟩
  have HB : Hid (Below w.heap.size w W) := by show Below _ _ _; rw [hW]; exact (nbel_alloc _ _).alloc (by simp) _
  have HO : Hid (W.rowIs (w.heap.size + 1) 28 3 (rowN (shL (.slice none 0 0) 0 0))) := by show W.rowIs _ _ _ _; rw [hW]; exact rowN_alloc' (by simp) _ _
  have HW := Lib.hid hW
  have HET := Lib.hid (hg.below HB.out)
  have HY := Lib.hid hy
  clear hW hg hy
  go_enter Tryz.func36, Tryz.ntmps36
  go_wp2_with fail
  rw [← HW.out]
  clear HW
  refine (codeOf_any yy c' HY.out _ HET.out).mono ?_
  rintro e w1 ⟨rfl, hb⟩
  have HO1 := Lib.hid (nrow_below HO.out hb)
  have HB1 : Hid (Below w.heap.size w w1) := HB.out.trans (hb.mono HB.out.size)
  clear hb HO HB
  obtain ⟨⟨o0, o1, o2⟩, z0, z1, z2⟩ := rowN3 HO1.out
  have hol := HO1.out.lt
  go_wp2_with fail
  have zr := sput3 HO1.out (.slice none 0 0) (.int .i64 0) (.int .i64 c')
  have zb := sbel3 (g := w.heap.size + 1) HB1.out (by omega) (.slice none 0 0) (.int .i64 0) (.int .i64 c')
  generalize ((w1.setCell ⟨w.heap.size + 1, 0, none⟩ (.slice none 0 0)).setCell ⟨w.heap.size + 1, 1, none⟩ (.int .i64 (0))).setCell ⟨w.heap.size + 1, 2, none⟩ (.int .i64 (c')) = Z at zr zb ⊢
  obtain ⟨⟨c0, c1, c2⟩, _⟩ := rowN3 zr
  exact bodyPost_ret (v := shV (.slice none 0 0) 0 c') (by simp only [results, Tryz.results36]; simp [go_sem, c0, c1, c2]) rfl ⟨rfl, zb⟩
theorem Fl.lrows_len' {n : Pl.Plan} {place : Int} : (Fl.lrows n place).length ≤ n.rn := by
  unfold Fl.lrows
  split
  · exact Fl.abTo_len
  · simp
/-- What the inner function hands back. -/
def SlEnd (B : Nat) (n : Pl.Plan) (place : Int) (e : Ending) (W : World) : Prop :=
  (Fl.lcode n place ≠ 0 ∧ ∃ ev, e = .returned (.tuple #[shV (.slice none 0 0) 0 0, ev]) ∧ ErrIs ev (Fl.lcode n place)) ∨
  (Fl.lcode n place = 0 ∧ ∃ a c, e = .returned (.tuple #[shV (.slice a (Fl.lrows n place).length c) (Fl.lhomes n place) 0, .nilIface]) ∧ W.ownsRow B 2 1 (.slice a (Fl.lrows n place).length c) (Fl.lrows n place).length (numsV (Fl.lrows n place)))
set_option maxRecDepth 100000 in
set_option maxHeartbeats 8000000 in
theorem leastShut_any (n : Pl.Plan) (la : Option Addr) (lk : Nat) (fa : Option Addr) (fk : Nat) (wa : Option Addr) (wk : Nat) (place : Int) (w : World) (h : PlAt n la fa wa w) (hs : PlSmall n) (hfn : fa = none → n.sn = 0) :
    Calls Tryz.prog 37 #[plV n la lk fa fk wa wk, .int .i64 place] w fun e w' => SlEnd w.heap.size n place e w' ∧ Below w.heap.size w w' := by
  obtain ⟨W, hW⟩ : ∃ W, W = (w.alloc (.cells #[.slice la n.rn lk, .slice fa n.sn fk, .slice wa n.hn wk] 32)).alloc (.cells #[.slice none 0 0, .int .i64 0, .int .i64 0] 28) := ⟨_, rfl⟩
  have HB : Hid (Below w.heap.size w W) := by show Below _ _ _; rw [hW]; exact (nbel_alloc _ _).alloc (by simp) _
  have HR : Hid (W.rowIs w.heap.size 32 3 (rowN (plL n la lk fa fk wa wk))) := by show W.rowIs _ _ _ _; rw [hW]; exact nrow_below (rowN_alloc w _ _) (nbel_alloc _ _)
  have HO : Hid (W.rowIs (w.heap.size + 1) 28 3 (rowN (shL (.slice none 0 0) 0 0))) := by show W.rowIs _ _ _ _; rw [hW]; exact rowN_alloc' (by simp) _ _
  have HW := Lib.hid hW
  have H := Lib.hid (h.below HB.out)
  have HS := Lib.hid hs
  clear hW h hs
  go_enter Tryz.func37, Tryz.ntmps37
  go_wp2_with fail
  rw [← HW.out]
  clear HW
  refine (planRight_any n la lk fa fk wa wk _ H.out HS.out).mono ?_
  rintro e w1 ⟨rfl, hb⟩
  replace HR := Lib.hid (nrow_below HR.out hb)
  replace HO := Lib.hid (nrow_below HO.out hb)
  replace H := Lib.hid (H.out.below hb)
  replace HB : Hid (Below w.heap.size w w1) := HB.out.trans (hb.mono HB.out.size)
  clear hb
  obtain ⟨⟨p0, p1, p2⟩, _⟩ := rowN3 HR.out
  obtain ⟨⟨o0, o1, o2⟩, z0, z1, z2⟩ := rowN3 HO.out
  have hol := HO.out.lt
  by_cases q1 : Pl.Right n
  case neg =>
    rw [dB_ff q1]
    have HC : Hid (Fl.lcode n place = 1) := Fl.lcode_form (fun x => q1 x.1)
    clear q1
    go_wp2_with fail
    have zr := sput3 HO.out (.slice none 0 0) (.int .i64 0) (.int .i64 0)
    have zb := sbel3 (g := w.heap.size + 1) HB.out (by omega) (.slice none 0 0) (.int .i64 0) (.int .i64 0)
    generalize ((w1.setCell ⟨w.heap.size + 1, 0, none⟩ (.slice none 0 0)).setCell ⟨w.heap.size + 1, 1, none⟩ (.int .i64 (0))).setCell ⟨w.heap.size + 1, 2, none⟩ (.int .i64 (0)) = Z at zr zb ⊢
    obtain ⟨⟨c0, c1, c2⟩, _⟩ := rowN3 zr
    exact bodyPost_ret (v := .tuple #[shV (.slice none 0 0) 0 0, errV ⟨#[116, 104, 101, 32, 112, 108, 97, 110, 32, 97, 110, 100, 32, 105, 116, 115, 32, 112, 108, 97, 99, 101]⟩ 1]) (by simp only [results, Tryz.results37]; simp [go_sem, c0, c1, c2]) rfl ⟨Or.inl ⟨by rw [HC.out]; simp, _, rfl, by rw [HC.out]; exact errIs_one _ _⟩, zb⟩
  rw [dB_tt q1]
  have HRT := Lib.hid q1
  clear q1
  go_wp2_with fail
  refine (phas_any n la lk fa fk wa wk place _).mono ?_
  rintro e w2 ⟨rfl, hb⟩
  replace HR := Lib.hid (nrow_below HR.out hb)
  replace HO := Lib.hid (nrow_below HO.out hb)
  replace H := Lib.hid (H.out.below hb)
  replace HB : Hid (Below w.heap.size w w2) := HB.out.trans (hb.mono HB.out.size)
  clear hb p0 p1 p2 o0 o1 o2 z0 z1 z2 hol
  obtain ⟨⟨p0, p1, p2⟩, _⟩ := rowN3 HR.out
  obtain ⟨⟨o0, o1, o2⟩, z0, z1, z2⟩ := rowN3 HO.out
  have hol := HO.out.lt
  by_cases q2 : 0 ≤ place ∧ place < n.hn
  case neg =>
    rw [dB_ff q2]
    have HC : Hid (Fl.lcode n place = 1) := Fl.lcode_form (fun x => q2 x.2)
    clear q2
    go_wp2_with fail
    have zr := sput3 HO.out (.slice none 0 0) (.int .i64 0) (.int .i64 0)
    have zb := sbel3 (g := w.heap.size + 1) HB.out (by omega) (.slice none 0 0) (.int .i64 0) (.int .i64 0)
    generalize ((w2.setCell ⟨w.heap.size + 1, 0, none⟩ (.slice none 0 0)).setCell ⟨w.heap.size + 1, 1, none⟩ (.int .i64 (0))).setCell ⟨w.heap.size + 1, 2, none⟩ (.int .i64 (0)) = Z at zr zb ⊢
    obtain ⟨⟨c0, c1, c2⟩, _⟩ := rowN3 zr
    exact bodyPost_ret (v := .tuple #[shV (.slice none 0 0) 0 0, errV ⟨#[116, 104, 101, 32, 112, 108, 97, 110, 32, 97, 110, 100, 32, 105, 116, 115, 32, 112, 108, 97, 99, 101]⟩ 1]) (by simp only [results, Tryz.results37]; simp [go_sem, c0, c1, c2]) rfl ⟨Or.inl ⟨by rw [HC.out]; simp, _, rfl, by rw [HC.out]; exact errIs_one _ _⟩, zb⟩
  rw [dB_tt q2]
  obtain ⟨t, rfl⟩ : ∃ t : Nat, place = (t : Int) := ⟨place.toNat, by omega⟩
  have ht : t < n.hn := by omega
  clear q2 p0 p1 p2 o0 o1 o2 z0 z1 z2 hol
  go_wp2_with fail
  refine wp_region_held_drew (S := fun V => Below w2.heap.size w2 V) (by kernel_rfl) (Below.refl _ _).drew (fun hHeld => ?_)
  obtain ⟨Z, hZ⟩ : ∃ Z, Z = w2.drew := ⟨_, rfl⟩
  rw [← hZ] at hHeld ⊢
  clear hZ
  refine take_do (i := 0) (v := (plV n la lk fa fk wa wk)) rfl (by kernel_rfl) (by kernel_rfl) (by kernel_rfl) (fun _ _ _ h => h) (by rfl) ?_ (by assumption) ?_
  · intro w hSw
    obtain ⟨⟨x0, x1, x2⟩, _⟩ := rowN3 (nrow_below HR.out hSw)
    go_simp
  simp only [Act.put, List.setIfInBounds_toArray, List.set_cons_zero, List.set_cons_succ]
  refine take_do (i := 1) (v := (.int .i64 (t : Nat))) rfl (by kernel_rfl) (by kernel_rfl) (by kernel_rfl) (fun _ _ _ h => h) (by rfl) ?_ (by assumption) ?_
  · intro w hSw
    skip
    go_simp
  simp only [Act.put, List.setIfInBounds_toArray, List.set_cons_zero, List.set_cons_succ]
  refine take_do (i := 2) (v := (.pointer (some ⟨w.heap.size, 0, none⟩))) rfl (by kernel_rfl) (by kernel_rfl) (by kernel_rfl) (fun _ _ _ h => h) (by rfl) ?_ (by assumption) ?_
  · intro w hSw
    skip
    go_simp
  simp only [Act.put, List.setIfInBounds_toArray, List.set_cons_zero, List.set_cons_succ]
  refine take_do (i := 3) (v := (.slice la n.rn lk)) rfl (by kernel_rfl) (by kernel_rfl) (by kernel_rfl) (fun _ _ _ h => h) (by rfl) ?_ (by assumption) ?_
  · intro w hSw
    obtain ⟨⟨x0, x1, x2⟩, _⟩ := rowN3 (nrow_below HR.out hSw)
    go_simp
  simp only [Act.put, List.setIfInBounds_toArray, List.set_cons_zero, List.set_cons_succ]
  refine take_call (i := 4) rfl (by kernel_rfl) (fun K2 hK => ?_)
  go_simp
  refine (goodRows_any n la lk _ ((H.out.below hHeld).l) HRT.out.r).mono ?_
  rintro e w3 ⟨⟨v, rfl, hown⟩, hb⟩
  obtain ⟨ga, gc, hv, hga⟩ := own_at hown
  subst hv
  have HGA := Lib.hid hga
  go_wp2_with fail
  refine hK.out _ _ (hHeld.trans (hb.mono hHeld.size)) (fun hHeld2 => ?_)
  clear hK hHeld hown hb hga
  refine take_call (i := 5) rfl (by kernel_rfl) (fun K2 hK => ?_)
  go_simp
  refine (implShut_any n la lk fa fk wa wk (t : Int) ga _ gc _ _ (H.out.below hHeld2) HS.out HGA.out (by have := Pl.goods_len (p := n) (i := n.rn); have := HS.out.1; omega) hfn).mono ?_
  rintro e w4 ⟨rfl, hb⟩
  rw [dB_congr (Pl.goods_shut HRT.out ht)]
  obtain ⟨sb, hsb⟩ : ∃ sb, sb = dB (¬ Pl.Wet n (Pl.Good n) t) := ⟨_, rfl⟩
  rw [← hsb]
  have HSB := Lib.hid hsb
  clear hsb
  go_wp2_with fail
  refine hK.out _ _ (hHeld2.trans (hb.mono hHeld2.size)) (fun hHeld => ?_)
  clear hK hHeld2 hb HGA
  refine take_do (i := 6) (v := (.bool (!sb))) rfl (by kernel_rfl) (by kernel_rfl) (by kernel_rfl) (fun _ _ _ h => h) (by rfl) ?_ (by assumption) ?_
  · intro w hSw
    skip
    go_simp
  simp only [Act.put, List.setIfInBounds_toArray, List.set_cons_zero, List.set_cons_succ]
  refine wpAnyH_done (by kernel_rfl) ?_ _
  replace HR := Lib.hid (nrow_below HR.out hHeld)
  replace HO := Lib.hid (nrow_below HO.out hHeld)
  replace H := Lib.hid (H.out.below hHeld)
  replace HB : Hid (Below w.heap.size w w4) := HB.out.trans (hHeld.mono HB.out.size)
  clear hHeld
  obtain ⟨⟨p0, p1, p2⟩, _⟩ := rowN3 HR.out
  obtain ⟨⟨o0, o1, o2⟩, z0, z1, z2⟩ := rowN3 HO.out
  have hol := HO.out.lt
  cases sb with
  | false =>
    have HC : Hid (Fl.lcode n (t : Int) = 4) := Fl.lcode_none HRT.out ht (Classical.byContradiction (fun x => by have := HSB.out; rw [dB_tt x] at this; cases this))
    go_wp2_with fail
    have zr := sput3 HO.out (.slice none 0 0) (.int .i64 0) (.int .i64 0)
    have zb := sbel3 (g := w.heap.size + 1) HB.out (by omega) (.slice none 0 0) (.int .i64 0) (.int .i64 0)
    generalize ((w4.setCell ⟨w.heap.size + 1, 0, none⟩ (.slice none 0 0)).setCell ⟨w.heap.size + 1, 1, none⟩ (.int .i64 (0))).setCell ⟨w.heap.size + 1, 2, none⟩ (.int .i64 (0)) = Z at zr zb ⊢
    obtain ⟨⟨c0, c1, c2⟩, _⟩ := rowN3 zr
    exact bodyPost_ret (v := .tuple #[shV (.slice none 0 0) 0 0, errV ⟨#[115, 104, 117, 116, 116, 105, 110, 103, 32, 97, 108, 108, 32, 103, 111, 111, 100, 32, 118, 97, 108, 118, 101, 115]⟩ 4]) (by simp only [results, Tryz.results37]; simp [go_sem, c0, c1, c2]) rfl ⟨Or.inl ⟨by rw [HC.out]; simp, _, rfl, by rw [HC.out]; exact errIs_one _ _⟩, zb⟩
  | true =>
    have HDR : Hid (¬ Pl.Wet n (Pl.Good n) t) := dB_iff.1 HSB.out.symm
    have HC : Hid (Fl.lcode n (t : Int) = 0) := Fl.lcode_ok HRT.out ht HDR.out
    go_wp2_with fail
    refine (leastRows_any n la lk fa fk wa wk t _ H.out HRT.out ht HDR.out).mono ?_
    rintro e w5 ⟨⟨v, rfl, hown⟩, hb⟩
    obtain ⟨ra, rc, hv, hra⟩ := own_at hown
    subst hv
    replace HR := Lib.hid (nrow_below HR.out hb)
    replace HO := Lib.hid (nrow_below HO.out hb)
    replace H := Lib.hid (H.out.below hb)
    have HWB : Hid (w.heap.size + 1 < w4.heap.size ∧ w.heap.size ≤ w4.heap.size) := ⟨hol, HB.out.size⟩
    replace HB : Hid (Below w.heap.size w w5) := HB.out.trans (hb.mono HB.out.size)
    have HOW := Lib.hid hown
    have HRA := Lib.hid hra
    have HLL : Hid ((Fl.lrows n (t : Int)).length ≤ 1048576) := by
      show _ ≤ _
      have := Fl.lrows_len' (n := n) (place := (t : Int))
      have := HRT.out.r
      omega
    clear hown hra hb p0 p1 p2 o0 o1 o2 z0 z1 z2 hol
    obtain ⟨⟨p0, p1, p2⟩, _⟩ := rowN3 HR.out
    obtain ⟨m, hm⟩ : ∃ m, m = (Fl.lrows n (t : Int)).length := ⟨_, rfl⟩
    have HM := Lib.hid hm
    rw [← hm] at HRA HLL ⊢
    clear hm
    go_wp2_with fail
    refine (implHomes_any n la lk fa fk wa wk ra m rc _ _ H.out HS.out HRA.out HLL.out hfn).mono ?_
    rintro e w6 ⟨rfl, hb⟩
    replace HO := Lib.hid (nrow_below HO.out hb)
    replace HB : Hid (Below w.heap.size w w6) := HB.out.trans (hb.mono HB.out.size)
    have HOW6 := Lib.hid (dyown2 HOW.out hb)
    clear hb p0 p1 p2
    obtain ⟨hm, hhm⟩ : ∃ hm, hm = Pl.homes n m (fun j => (((Fl.lrows n (t : Int)).getD j 0 : Nat) : Int)) := ⟨_, rfl⟩
    rw [← hhm]
    have HHM : Hid (Fl.lhomes n (t : Int) = hm) := by
      show _ = _
      rw [hhm, HM.out]
      unfold Fl.lhomes
      rw [dB_tt HC.out, if_pos rfl]
    clear hhm
    obtain ⟨⟨o0, o1, o2⟩, z0, z1, z2⟩ := rowN3 HO.out
    have hol := HO.out.lt
    go_wp2_with fail
    have zr := sput3 HO.out (.slice ra m rc) (.int .i64 hm) (.int .i64 0)
    have zb := sbel3 (g := w.heap.size + 1) HB.out (by omega) (.slice ra m rc) (.int .i64 hm) (.int .i64 0)
    have zo : World.ownsRow _ w.heap.size 2 1 (.slice ra m rc) (Fl.lrows n (t : Int)).length (numsV (Fl.lrows n (t : Int))) := own_low (d_far' (by have := HOW6.out; rw [← HM.out] at this ⊢; exact this) (fun k e hl => sblk3 w6 (by
      have h1 := (HOW6.out.lt k (by rw [← HM.out]; exact e)).1
      have h2 := HWB.out
      show k ≠ w.heap.size + 1
      omega) (.slice ra m rc) (.int .i64 hm) (.int .i64 0))) HWB.out.2
    generalize ((w6.setCell ⟨w.heap.size + 1, 0, none⟩ (.slice ra m rc)).setCell ⟨w.heap.size + 1, 1, none⟩ (.int .i64 (hm))).setCell ⟨w.heap.size + 1, 2, none⟩ (.int .i64 (0)) = Z at zr zb zo ⊢
    obtain ⟨⟨c0, c1, c2⟩, _⟩ := rowN3 zr
    exact bodyPost_ret (v := .tuple #[shV (.slice ra m rc) hm 0, .nilIface]) (by simp only [results, Tryz.results37]; simp [go_sem, c0, c1, c2]) rfl ⟨Or.inr ⟨HC.out, ra, rc, by rw [← HM.out, HHM.out], by rw [← HM.out] at zo ⊢; exact zo⟩, zb⟩
end Go.Proofs.YtipmjobhegpdgaaGreatDoor
namespace Go.Proofs.YtipmjobhegpdgaaGreatDoor
open Go Go.RowKit Go.Deep

/-- A list that an answer is: its own memory, or none. -/
def SlOwn (B N : Nat) (a : Option Addr) (c : Nat) (f : Nat → Int) (W : World) : Prop := (a = none ∧ N = 0 ∧ c = 0) ∨ ∃ g, a = some ⟨g, 0, none⟩ ∧ B ≤ g ∧ IsBlk 2 g N f W
theorem SlOwn.same {B N c : Nat} {a : Option Addr} {f : Nat → Int} {W W' : World} (h : SlOwn B N a c f W) (hb : ∀ k, B ≤ k → k < W.heap.size → W'.heap[k]? = W.heap[k]?) : SlOwn B N a c f W' := by
  rcases h with h | ⟨g, e, h1, h2⟩
  · exact Or.inl h
  · exact Or.inr ⟨g, e, h1, h2.block (hb g h1 h2.lt)⟩
theorem SlOwn.below {B N c : Nat} {a : Option Addr} {f : Nat → Int} {W W' : World} (h : SlOwn B N a c f W) (hb : Below W.heap.size W W') : SlOwn B N a c f W' := h.same (fun k _ hk => hb.block k hk)
theorem SlOwn.at_ {B N c : Nat} {a : Option Addr} {f : Nat → Int} {W : World} (h : SlOwn B N a c f W) : IsAt a N f W := by
  rcases h with h | ⟨g, e, h1, h2⟩
  · exact Or.inl h.2.1
  · rw [e]; exact h2.at_
theorem SlOwn.low {B B' N c : Nat} {a : Option Addr} {f : Nat → Int} {W : World} (h : SlOwn B N a c f W) (hb : B' ≤ B) : SlOwn B' N a c f W := by
  rcases h with h | ⟨g, e, h1, h2⟩
  · exact Or.inl h
  · exact Or.inr ⟨g, e, Nat.le_trans hb h1, h2⟩
theorem SlOwn.lt {B N c : Nat} {a : Option Addr} {f : Nat → Int} {W : World} (h : SlOwn B N a c f W) {k : Nat} (e : a = some ⟨k, 0, none⟩) : B ≤ k ∧ k < W.heap.size := by
  rcases h with h | ⟨g, e', h1, h2⟩
  · rw [h.1] at e; cases e
  · rw [e'] at e; cases e; exact ⟨h1, h2.lt⟩
def snls (l : List Nat) (j : Nat) : Int := ((l.getD j 0 : Nat) : Int)
theorem sls_own {B : Nat} {v : Value} {l : List Nat} {W : World} (h : W.ownsRow B 2 1 v l.length (numsV l)) : ∃ a c, v = .slice a l.length c ∧ SlOwn B l.length a c (snls l) W := by
  rcases h.2 with h2 | ⟨g, cap, cur, e1, e2, e3, e4, e5, e6, e7⟩
  · exact ⟨none, 0, by rw [h2.1, h2.2], Or.inl ⟨rfl, h2.2, rfl⟩⟩
  · refine ⟨_, _, e1, Or.inr ⟨g, rfl, e2, cap, fun i => cur[i]?.getD undef, by omega, ⟨cur, e3, by simpa using e6, fun i hi => ?_⟩, fun j hj => ?_⟩⟩
    · show cur[i]? = some (cur[i]?.getD undef)
      rw [Array.getElem?_eq_getElem (by omega)]
      rfl
    · have h1 : (cur.toList.take (l.length * 1))[j]? = (numsV l)[j]? := by rw [e7]
      rw [List.getElem?_take, if_pos (by omega), Array.getElem?_toList] at h1
      show cur[j]?.getD undef = _
      rw [h1]
      simp [numsV, snls, hj]
theorem smarkLs {B N c : Nat} {a : Option Addr} {f : Nat → Int} (w : World) (h : SlOwn B N a c f w) (hn : N ≤ 1048576) :
    Calls Tryz.prog 41 #[.slice a N c, .int .i64 1] w fun e w' => e = .returned (.int .i64 ((1 + N : Nat) : Int)) ∧ SlOwn B N a c (mk1 1) w' ∧ (∀ k, k < w.heap.size → a ≠ some ⟨k, 0, none⟩ → w'.heap[k]? = w.heap[k]?) ∧ w'.os = w.os ∧ w'.tape = w.tape ∧ w'.output = w.output ∧ w.heap.size ≤ w'.heap.size := by
  rcases h with ⟨rfl, rfl, rfl⟩ | ⟨g, rfl, h1, h2⟩
  · refine (nmarkInt64S_nil 1 w).mono ?_
    rintro e w' ⟨rfl, rfl⟩
    exact ⟨rfl, Or.inl ⟨rfl, rfl, rfl⟩, fun _ _ _ => rfl, rfl, rfl, rfl, Nat.le_refl _⟩
  · refine (nmarkInt64S_any g N c 1 f w h2 hn (by omega)).mono ?_
    rintro e w' ⟨rfl, hm, ho⟩
    exact ⟨rfl, Or.inr ⟨g, rfl, h1, hm⟩, fun k hk hne => ho.block k hk (fun e => hne (by rw [e])), ho.os, ho.tape, ho.output, ho.size⟩
theorem sheldLs {B N c : Nat} {a : Option Addr} (w : World) (h : SlOwn B N a c (mk1 1) w) (hn : N ≤ 1048576) :
    Calls Tryz.prog 42 #[.slice a N c, .int .i64 1] w fun e w' => e = .returned (.int .i64 ((1 + N : Nat) : Int)) ∧ w' = w := by
  rcases h with ⟨rfl, rfl, rfl⟩ | ⟨g, rfl, h1, h2⟩
  · exact nheldInt64S_nil 1 w
  · exact nheldInt64S_any g N c 1 w h2 hn (by omega)
set_option maxRecDepth 100000 in
set_option maxHeartbeats 2000000 in
theorem eqShutOut_same (a b : Option Addr) (N c c' : Nat) (x y : Int) (f : Nat → Int) (w : World) (h1 : IsAt a N f w) (h2 : IsAt b N f w) (hn : N ≤ 1048576) :
    Calls Tryz.prog 10 #[shV (.slice a N c) x y, shV (.slice b N c') x y] w fun e w' => e = .returned (.bool true) ∧ Below w.heap.size w w' := by
  obtain ⟨W, hW⟩ : ∃ W, W = (w.alloc (.cells #[.slice a N c, .int .i64 x, .int .i64 y] 28)).alloc (.cells #[.slice b N c', .int .i64 x, .int .i64 y] 28) := ⟨_, rfl⟩
  have HB : Hid (Below w.heap.size w W) := by show Below _ _ _; rw [hW]; exact (nbel_alloc _ _).alloc (by simp) _
  have HR : Hid (W.rowIs w.heap.size 28 3 (rowN (shL (.slice a N c) x y))) := by show W.rowIs _ _ _ _; rw [hW]; exact nrow_below (rowN_alloc w _ _) (nbel_alloc _ _)
  have HO : Hid (W.rowIs (w.heap.size + 1) 28 3 (rowN (shL (.slice b N c') x y))) := by show W.rowIs _ _ _ _; rw [hW]; exact rowN_alloc' (by simp) _ _
  have HW := Lib.hid hW
  have H1 := Lib.hid (h1.below HB.out)
  have H2 := Lib.hid (h2.below HB.out)
  clear hW h1 h2
  go_enter Tryz.func10, Tryz.ntmps10
  go_wp2_with fail
  rw [← HW.out]
  clear HW
  refine (neqInt64S_same _ _ N _ _ f _ H1.out H2.out hn).mono ?_
  rintro e w1 ⟨rfl, hb⟩
  obtain ⟨⟨x0, x1, x2⟩, _⟩ := rowN3 (nrow_below HR.out hb)
  obtain ⟨⟨y0, y1, y2⟩, _⟩ := rowN3 (nrow_below HO.out hb)
  have HB1 : Hid (Below w.heap.size w w1) := HB.out.trans (hb.mono HB.out.size)
  clear hb
  go_wp2_with fail
  go_ret
  exact ⟨rfl, HB1.out⟩
set_option maxRecDepth 100000 in
set_option maxHeartbeats 2000000 in
theorem markShutOut_any {B N c : Nat} {a : Option Addr} {f : Nat → Int} (x y : Int) (w : World) (h : SlOwn B N a c f w) (hn : N ≤ 1048576) :
    Calls Tryz.prog 13 #[shV (.slice a N c) x y, .int .i64 1] w fun e w' => e = .returned (.int .i64 ((1 + N : Nat) : Int)) ∧ SlOwn B N a c (mk1 1) w' ∧ (∀ k, k < w.heap.size → a ≠ some ⟨k, 0, none⟩ → w'.heap[k]? = w.heap[k]?) ∧ w'.os = w.os ∧ w'.tape = w.tape ∧ w'.output = w.output ∧ w.heap.size ≤ w'.heap.size := by
  obtain ⟨W, hW⟩ : ∃ W, W = w.alloc (.cells #[.slice a N c, .int .i64 x, .int .i64 y] 28) := ⟨_, rfl⟩
  have HB : Hid (Below w.heap.size w W) := by show Below _ _ _; rw [hW]; exact nbel_alloc _ _
  have H := Lib.hid (h.below HB.out)
  have HW := Lib.hid hW
  clear hW h
  go_enter Tryz.func13, Tryz.ntmps13
  go_wp2_with fail
  rw [← HW.out]
  clear HW
  refine (smarkLs _ H.out hn).mono ?_
  rintro e w1 ⟨rfl, hm, hk, h1, h2, h3, h4⟩
  have HM := Lib.hid hm
  have HP : Hid ((∀ k, k < w.heap.size → a ≠ some ⟨k, 0, none⟩ → w1.heap[k]? = w.heap[k]?) ∧ w1.os = w.os ∧ w1.tape = w.tape ∧ w1.output = w.output ∧ w.heap.size ≤ w1.heap.size) := by
    have b := HB.out
    exact ⟨fun k hkk hne => (hk k (Nat.lt_of_lt_of_le hkk b.size) hne).trans (b.block k hkk), h1.trans b.os, h2.trans b.tape, h3.trans b.output, Nat.le_trans b.size h4⟩
  clear hm hk h1 h2 h3 h4
  obtain ⟨Q, hQ⟩ : ∃ Q : Nat, Q = 1 + N := ⟨_, rfl⟩
  rw [← hQ]
  have HQ := Lib.hid hQ
  clear hQ
  go_wp2_with fail
  go_ret
  exact ⟨by rw [← HQ.out]; rfl, HM.out, HP.out⟩
set_option maxRecDepth 100000 in
set_option maxHeartbeats 2000000 in
theorem heldShutOut_any {B N c : Nat} {a : Option Addr} (x y : Int) (w : World) (h : SlOwn B N a c (mk1 1) w) (hn : N ≤ 1048576) :
    Calls Tryz.prog 14 #[shV (.slice a N c) x y, .int .i64 1] w fun e w' => e = .returned (.int .i64 ((1 + N : Nat) : Int)) ∧ Below w.heap.size w w' := by
  obtain ⟨W, hW⟩ : ∃ W, W = w.alloc (.cells #[.slice a N c, .int .i64 x, .int .i64 y] 28) := ⟨_, rfl⟩
  have HB : Hid (Below w.heap.size w W) := by show Below _ _ _; rw [hW]; exact nbel_alloc _ _
  have H := Lib.hid (h.below HB.out)
  have HW := Lib.hid hW
  clear hW h
  go_enter Tryz.func14, Tryz.ntmps14
  go_wp2_with fail
  rw [← HW.out]
  clear HW
  refine (sheldLs _ H.out hn).mono ?_
  rintro e w1 ⟨rfl, rfl⟩
  obtain ⟨Q, hQ⟩ : ∃ Q : Nat, Q = 1 + N := ⟨_, rfl⟩
  rw [← hQ]
  have hQ0 : ¬ (Q : Int) < 0 := by omega
  have HQ := Lib.hid hQ
  clear hQ
  go_wp2_with fail
  go_ret
  exact ⟨by rw [← HQ.out]; rfl, HB.out⟩
theorem Fl.lnone {n : Pl.Plan} {place : Int} (h : Fl.lcode n place ≠ 0) : Fl.lrows n place = [] ∧ Fl.lhomes n place = 0 := by
  unfold Fl.lrows Fl.lhomes
  rw [dB_ff (fun x => h x.1), dB_ff h]
  exact ⟨rfl, rfl⟩
set_option maxRecDepth 100000 in
set_option maxHeartbeats 4000000 in
theorem implLeast_any (n : Pl.Plan) (la : Option Addr) (lk : Nat) (fa : Option Addr) (fk : Nat) (wa : Option Addr) (wk : Nat) (place : Int) (w : World) (h : PlAt n la fa wa w) (hs : PlSmall n) (hfn : fa = none → n.sn = 0) (hg : Et w) :
    Calls Tryz.prog 9 #[plV n la lk fa fk wa wk, .int .i64 place] w fun e w' => (∃ rv, e = .returned (shV rv (Fl.lhomes n place) (Fl.lcode n place)) ∧ w'.ownsRow w.heap.size 2 1 rv (Fl.lrows n place).length (numsV (Fl.lrows n place))) ∧ Below w.heap.size w w' := by
  obtain ⟨W, hW⟩ : ∃ W, W = (w.alloc (.cells #[.slice la n.rn lk, .slice fa n.sn fk, .slice wa n.hn wk] 32)).alloc (.cells #[.slice none 0 0, .int .i64 0, .int .i64 0] 28) := ⟨_, rfl⟩
  have HB : Hid (Below w.heap.size w W) := by show Below _ _ _; rw [hW]; exact (nbel_alloc _ _).alloc (by simp) _
  have HO : Hid (W.rowIs (w.heap.size + 1) 28 3 (rowN (shL (.slice none 0 0) 0 0))) := by show W.rowIs _ _ _ _; rw [hW]; exact rowN_alloc' (by simp) _ _
  have H := Lib.hid (h.below HB.out)
  have HW := Lib.hid hW
  have HG := Lib.hid hg
  clear hW h hg
  go_enter Tryz.func9, Tryz.ntmps9
  go_wp2_with fail
  rw [← HW.out]
  clear HW
  refine (leastShut_any n la lk fa fk wa wk place _ H.out hs hfn).mono ?_
  rintro e w1 ⟨hE, hb⟩
  have HO1 := Lib.hid (nrow_below HO.out hb)
  have HL : Hid (w.heap.size ≤ W.heap.size ∧ w.heap.size + 1 < W.heap.size) := ⟨HB.out.size, HO.out.lt⟩
  have HB1 : Hid (Below w.heap.size w w1) := HB.out.trans (hb.mono HB.out.size)
  clear hb H HB HO
  obtain ⟨⟨o0, o1, o2⟩, z0, z1, z2⟩ := rowN3 HO1.out
  have hol := HO1.out.lt
  rcases hE with ⟨hc, ev, rfl, he⟩ | ⟨hc, a, c, rfl, ho⟩
  · obtain ⟨h0, h1⟩ := Fl.lnone hc
    have HE := Lib.hid he
    have HN : Hid (Fl.lrows n place = [] ∧ Fl.lhomes n place = 0) := ⟨h0, h1⟩
    clear h0 h1 he hc
    go_wp2_with fail
    refine (tellShut_bad _ _ _ _ _ _ _ _ HE.out (HG.out.below HB1.out)).mono ?_
    rintro e w2 ⟨rfl, hb⟩
    have HB3 : Hid (Below w.heap.size w w2) := HB1.out.trans (hb.mono HB1.out.size)
    have HO2 := Lib.hid (nrow_below HO1.out hb)
    clear hb o0 o1 o2 z0 z1 z2 hol
    obtain ⟨⟨o0, o1, o2⟩, z0, z1, z2⟩ := rowN3 HO2.out
    have hol := HO2.out.lt
    obtain ⟨cd, hcd⟩ : ∃ cd, cd = Fl.lcode n place := ⟨_, rfl⟩
    rw [← hcd]
    have HCD := Lib.hid hcd
    clear hcd
    go_wp2_with fail
    have zr := sput3 HO2.out (.slice none 0 0) (.int .i64 0) (.int .i64 cd)
    have zb := sbel3 (g := w.heap.size + 1) HB3.out (by omega) (.slice none 0 0) (.int .i64 0) (.int .i64 cd)
    generalize ((w2.setCell ⟨w.heap.size + 1, 0, none⟩ (.slice none 0 0)).setCell ⟨w.heap.size + 1, 1, none⟩ (.int .i64 (0))).setCell ⟨w.heap.size + 1, 2, none⟩ (.int .i64 (cd)) = Z at zr zb ⊢
    obtain ⟨⟨c0, c1, c2⟩, _⟩ := rowN3 zr
    refine bodyPost_ret (v := shV (.slice none 0 0) 0 cd) (by simp only [results, Tryz.results9]; simp [go_sem, c0, c1, c2]) rfl ?_
    exact ⟨⟨.slice none 0 0, by rw [HN.out.2, ← HCD.out], by rw [HN.out.1]; exact World.ownsRow_nil _ _ _ _⟩, zb⟩
  · have HOW := Lib.hid ho
    clear ho
    have HC := Lib.hid hc
    clear hc
    obtain ⟨hm, hh⟩ : ∃ hm, hm = Fl.lhomes n place := ⟨_, rfl⟩
    rw [← hh]
    have HH := Lib.hid hh
    clear hh
    obtain ⟨L, hL⟩ : ∃ L, L = Fl.lrows n place := ⟨_, rfl⟩
    rw [← hL] at HOW ⊢
    have HLL := Lib.hid hL
    clear hL
    obtain ⟨m, hm'⟩ : ∃ m, m = L.length := ⟨_, rfl⟩
    rw [← hm'] at HOW ⊢
    have HM := Lib.hid hm'
    clear hm'
    go_wp2_with fail
    refine (tellShut_ok _ _ _ _ _ _).mono ?_
    rintro e w2 ⟨rfl, hb⟩
    have HB3 : Hid (Below w.heap.size w w2) := HB1.out.trans (hb.mono HB1.out.size)
    have HO3 := Lib.hid (dyown2 (own_low HOW.out HL.out.1) hb)
    have HO2 := Lib.hid (nrow_below HO1.out hb)
    clear hb o0 o1 o2 z0 z1 z2 hol
    obtain ⟨⟨o0, o1, o2⟩, z0, z1, z2⟩ := rowN3 HO2.out
    have hol := HO2.out.lt
    go_wp2_with fail
    have zr := sput3 HO2.out (.slice a m c) (.int .i64 hm) (.int .i64 0)
    have zb := sbel3 (g := w.heap.size + 1) HB3.out (by omega) (.slice a m c) (.int .i64 hm) (.int .i64 0)
    have zo : World.ownsRow _ w.heap.size 2 1 (.slice a m c) m (numsV L) := d_far' HO3.out (fun k e hl => sblk3 w2 (by
      have h1 := (HOW.out.lt k e).1
      have h2 := HL.out
      show k ≠ w.heap.size + 1
      omega) (.slice a m c) (.int .i64 hm) (.int .i64 0))
    generalize ((w2.setCell ⟨w.heap.size + 1, 0, none⟩ (.slice a m c)).setCell ⟨w.heap.size + 1, 1, none⟩ (.int .i64 (hm))).setCell ⟨w.heap.size + 1, 2, none⟩ (.int .i64 (0)) = Z at zr zb zo ⊢
    obtain ⟨⟨c0, c1, c2⟩, _⟩ := rowN3 zr
    refine bodyPost_ret (v := shV (.slice a m c) hm 0) (by simp only [results, Tryz.results9]; simp [go_sem, c0, c1, c2]) rfl ?_
    exact ⟨⟨.slice a m c, by rw [← HH.out, HC.out], by rw [← HLL.out, ← HM.out]; exact zo⟩, zb⟩
end Go.Proofs.YtipmjobhegpdgaaGreatDoor
