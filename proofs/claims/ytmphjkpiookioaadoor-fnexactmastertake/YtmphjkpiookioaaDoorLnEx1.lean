/-
  The laws' conversions, comparisons and marks of notes.
-/
import Derived.Test.YtmphjkpiookioaaDoorLnMem
import Derived.Test.YtmphjkpiookioaaDoorReg
namespace Go.Proofs.YtmphjkpiookioaaDoor
open Go.RowKit Go.Deep

theorem ninfo_Note : (Tryd.prog.info? 47).map (fun i => (i.zero, i.size, i.bytes)) = some (some (.agg #[.int .i64 0, .int .i64 0]), 2, 16) := by kernel_rfl
theorem nmk_Note (n : Nat) (hn : n ≤ 1048576) (w : World) : (Instr.makeSlice 27 (.int .i64 (n : Int)) (.int .i64 (n : Int))).run Tryd.prog w = .ok (.slice (some ⟨w.heap.size, 0, none⟩) n n) (w.alloc (.cells (madeCells #[.int .i64 0, .int .i64 0] (n * 2)) 47)) := by
  obtain ⟨i0, hi, hz0, hz1, hz2⟩ := info_parts ninfo_Note
  have := run_make (P := Tryd.prog) w 27 47 i0 _ Tryd.underlying27 hi hz0 .i64 .i64 n n (by omega) (Int.le_refl _) (by rw [hz2]; omega) (by omega)
  rw [hz1] at this
  simp only [Int.toNat_natCast] at this
  exact this
set_option maxRecDepth 100000 in
set_option maxHeartbeats 1000000 in
theorem ntoNote_any (x0 x1 : Int) (w : World) :
    Calls Tryd.prog 38 #[.agg #[.int .i64 x0, .int .i64 x1]] w fun e w' => e = .returned (.agg #[.int .i64 x0, .int .i64 x1]) ∧ Below w.heap.size w w' := by
  go_enter Tryd.func38, Tryd.ntmps38
  go_wp2_with fail
  exact bodyPost_ret (v := .agg #[.int .i64 x0, .int .i64 x1]) (by simp [results, Tryd.results38, go_sem]) rfl ⟨rfl, (((Below.refl _ _).alloc (Nat.le_refl _) _).alloc (by simp) _).alloc (by simp <;> omega) _⟩
set_option maxRecDepth 100000 in
set_option maxHeartbeats 2000000 in
theorem ntoNoteS_any (a : Option Addr) (n cap : Nat) (f : Nat → Int) (w : World) (h : IsIn a (n * 2) f w) (hn : n ≤ 1048576) :
    Calls Tryd.prog 21 #[.slice a n cap] w fun e w' => (e = .returned (.slice (some ⟨w.heap.size, 0, none⟩) n n) ∧ IsBlk 47 w.heap.size (n * 2) f w') ∧ Below w.heap.size w w' := by
  have hmk := nmk_Note n hn
  have H := Lib.hid h
  have HST : Hid (IsPart 47 w.heap.size (n * 2) (0 * 2) f (w.alloc (.cells (madeCells #[.int .i64 0, .int .i64 0] (n * 2)) 47))) := ⟨_, made_is _ _ w _ (by intro i hi; simp at hi; have : i = 0 ∨ i = 1 := (by omega); rcases this with rfl | rfl <;> rfl) (by simp), fun j hj => absurd hj (by omega)⟩
  clear h
  go_enter Tryd.func21, Tryd.ntmps21
  go_wp2_with fail
  clear hmk
  go_loopw [4] (fun iv wr => ∃ (i : Nat), i ≤ n ∧ iv = .int .i64 i ∧ Hid (IsPart 47 w.heap.size (n * 2) (i * 2) f wr) ∧ Hid (Below w.heap.size w wr)) (fun iv _ => n - (intOf iv).toNat)
  case atStart => exact ⟨0, Nat.zero_le _, rfl, HST, (Below.refl _ _).alloc (Nat.le_refl _) _⟩
  case round =>
    obtain ⟨i, hi, rfl, hP, hB⟩ := hrel
    clear HST
    by_cases hlt : i < n
    · have hltz : (i : Int) < (n : Int) := by omega
      obtain ⟨b, o, rfl, c0, c1⟩ := (H.out.below hB.out).at2 hlt
      go_wp2_with fail
      refine (ntoNote_any (f (i * 2)) (f (i * 2 + 1)) _).mono ?_
      rintro e w1 ⟨rfl, hb⟩
      have hP1 := hP.out.block (hb.block _ hP.out.lt)
      have HB1 : Hid (Below w.heap.size w w1) := hB.out.trans (hb.mono hB.out.size)
      have HP2 := Lib.hid (((hP1.put (f (i * 2)) rfl).put (f (i * 2 + 1)) rfl))
      obtain ⟨v0, y0⟩ := hP1.cell (j := i * 2) (by omega)
      have z0 := hP1.frozen (i * 2)
      obtain ⟨v1, y1⟩ := hP1.cell (j := i * 2 + 1) (by omega)
      have z1 := hP1.frozen (i * 2 + 1)
      have hz : w.heap.size < w1.heap.size := hP1.lt
      clear hP1 hb hP hB c0 c1
      go_wp2_with fail
      go_roundw
      case rel => exact ⟨i + 1, by omega, by go_num, by rw [Nat.succ_mul]; exact HP2, ((HB1.out.setCell (p := ⟨w.heap.size, _, none⟩) (Nat.le_refl _) _).setCell (p := ⟨w.heap.size, _, none⟩) (Nat.le_refl _) _)⟩
      case measure => simp [intOf]; omega
    · obtain rfl : i = n := by omega
      go_wp2_with fail
      go_ret
      exact ⟨⟨rfl, hP.out.full (Nat.le_refl _)⟩, hB.out⟩
theorem nszNote_in (a : Option Addr) (n cap : Nat) (l : Nat) (w : World) (hn : n ≤ l) (hl : l ≤ 1048576) :
    Calls Tryd.prog 17 #[.slice a n cap, .int .i64 l] w fun e w' => e = .returned (.int .i64 ((l - n : Nat) : Int)) ∧ w' = w := by
  have h1 : ¬ ((l : Int) - (n : Int)) < 0 := by omega
  have h2 : ((l : Int) - (n : Int)) = ((l - n : Nat) : Int) := by omega
  have h3 : ¬ (((l - n : Nat) : Int)) < 0 := by omega
  have h4 : ((l - n : Nat) : Int) ≤ 1048576 := by omega
  have h5 : 0 ≤ ((l - n : Nat) : Int) := by omega
  have h6 : (n : Int) ≤ 1048576 := by omega
  have h7 : (l : Int) ≤ 1048576 := by omega
  go_enter Tryd.func17, Tryd.ntmps17
  go_wp2_with fail
  go_ret
  exact ⟨ret_int (by omega), rfl⟩
theorem nszNote_over (a : Option Addr) (n cap : Nat) (l : Nat) (w : World) (hn : l < n) (hl : l ≤ 1048576) (hm : n ≤ 9223372036854775807) :
    Calls Tryd.prog 17 #[.slice a n cap, .int .i64 l] w fun e w' => e = .returned (.int .i64 (-1)) ∧ w' = w := by
  have h1 : ((l : Int) - (n : Int)) < 0 := by omega
  have h7 : (l : Int) ≤ 1048576 := by omega
  have h8 : (n : Int) ≤ 9223372036854775807 := by omega
  go_enter Tryd.func17, Tryd.ntmps17
  go_wp2_with fail
  go_ret
  exact ⟨rfl, rfl⟩
/-- What a round of the comparison reads. -/
def EqSNote (w : World) (b1 o1 b2 o2 i : Nat) (f : Nat → Int) (W : World) : Prop := (W.cell? ⟨b1, o1 + i * 2, none⟩ = some (.int .i64 (f (i * 2))) ∧ W.cell? ⟨b1, o1 + i * 2 + 1, none⟩ = some (.int .i64 (f (i * 2 + 1)))) ∧ (W.cell? ⟨b2, o2 + i * 2, none⟩ = some (.int .i64 (f (i * 2))) ∧ W.cell? ⟨b2, o2 + i * 2 + 1, none⟩ = some (.int .i64 (f (i * 2 + 1)))) ∧ Below w.heap.size w W
theorem EqSNote.below {w : World} {b1 o1 b2 o2 i : Nat} {f : Nat → Int} {W W' : World} (h : EqSNote w b1 o1 b2 o2 i f W) (hb : Below W.heap.size W W') : EqSNote w b1 o1 b2 o2 i f W' := by
  obtain ⟨⟨c0, c1⟩, ⟨d0, d1⟩, h3⟩ := h
  exact ⟨⟨(hb.cell (World.block_lt_of_cell? _ _ c0)).trans c0, (hb.cell (World.block_lt_of_cell? _ _ c1)).trans c1⟩, ⟨(hb.cell (World.block_lt_of_cell? _ _ d0)).trans d0, (hb.cell (World.block_lt_of_cell? _ _ d1)).trans d1⟩, h3.trans (hb.mono h3.size)⟩
set_option maxRecDepth 100000 in
set_option maxHeartbeats 1000000 in
theorem neqNote_same (x0 x1 : Int) (w : World) :
    Calls Tryd.prog 45 #[.agg #[.int .i64 x0, .int .i64 x1], .agg #[.int .i64 x0, .int .i64 x1]] w fun e w' => e = .returned (.bool true) ∧ Below w.heap.size w w' := by
  go_enter Tryd.func45, Tryd.ntmps45
  go_wp2_with fail
  go_ret
  exact ⟨rfl, ((Below.refl _ _).alloc (Nat.le_refl _) _).alloc (by simp) _⟩
set_option maxRecDepth 100000 in
set_option maxHeartbeats 2000000 in
theorem neqNoteS_same (a b : Option Addr) (n ca cb : Nat) (f : Nat → Int) (w : World) (h1 : IsIn a (n * 2) f w) (h2 : IsIn b (n * 2) f w) (hn : n ≤ 1048576) :
    Calls Tryd.prog 25 #[.slice a n ca, .slice b n cb] w fun e w' => e = .returned (.bool true) ∧ Below w.heap.size w w' := by
  have H1 := Lib.hid h1
  have H2 := Lib.hid h2
  clear h1 h2
  go_enter Tryd.func25, Tryd.ntmps25
  go_wp2_with fail
  go_loopw [5] (fun iv wr => ∃ (i : Nat), i ≤ n ∧ iv = .int .i64 i ∧ Hid (Below w.heap.size w wr)) (fun iv _ => n - (intOf iv).toNat)
  case atStart => exact ⟨0, Nat.zero_le _, rfl, Below.refl _ _⟩
  case round =>
    obtain ⟨i, hi, rfl, hB⟩ := hrel
    by_cases hlt : i < n
    · have hltz : (i : Int) < (n : Int) := by omega
      obtain ⟨b1, o1, rfl, k1⟩ := (H1.out.below hB.out).at2 hlt
      obtain ⟨b2, o2, rfl, k2⟩ := (H2.out.below hB.out).at2 hlt
      have HE : Hid (EqSNote w b1 o1 b2 o2 i f wr) := ⟨k1, k2, hB.out⟩
      clear k1 k2 hB
      go_wp2_with fail
      refine wp_region_held_drew (S := EqSNote w b1 o1 b2 o2 i f) (by kernel_rfl) (HE.out.below (Below.refl _ _).drew) (fun hHeld => ?_)
      clear HE
      refine take_do (i := 0) (v := (.slice (some ⟨b1, o1, none⟩) n ca)) rfl (by kernel_rfl) (by kernel_rfl) (by kernel_rfl) (fun _ _ _ h => h) (by rfl) ?_ (by assumption) ?_
      · intro w hSw
        obtain ⟨⟨c0, c1⟩, ⟨d0, d1⟩, _⟩ := hSw
        go_simp
      simp only [Act.put, List.setIfInBounds_toArray, List.set_cons_zero, List.set_cons_succ]
      refine take_do (i := 1) (v := (.int .i64 i)) rfl (by kernel_rfl) (by kernel_rfl) (by kernel_rfl) (fun _ _ _ h => h) (by rfl) ?_ (by assumption) ?_
      · intro w hSw
        obtain ⟨⟨c0, c1⟩, ⟨d0, d1⟩, _⟩ := hSw
        go_simp
      simp only [Act.put, List.setIfInBounds_toArray, List.set_cons_zero, List.set_cons_succ]
      refine take_do (i := 2) (v := (.pointer (some ⟨b1, o1 + i * 2, none⟩))) rfl (by kernel_rfl) (by kernel_rfl) (by kernel_rfl) (fun _ _ _ h => h) (by rfl) ?_ (by assumption) ?_
      · intro w hSw
        obtain ⟨⟨c0, c1⟩, ⟨d0, d1⟩, _⟩ := hSw
        go_simp
      simp only [Act.put, List.setIfInBounds_toArray, List.set_cons_zero, List.set_cons_succ]
      refine take_do (i := 3) (v := (.agg #[.int .i64 (f (i * 2)), .int .i64 (f (i * 2 + 1))])) rfl (by kernel_rfl) (by kernel_rfl) (by kernel_rfl) (fun _ _ _ h => h) (by rfl) ?_ (by assumption) ?_
      · intro w hSw
        obtain ⟨⟨c0, c1⟩, ⟨d0, d1⟩, _⟩ := hSw
        go_simp
      simp only [Act.put, List.setIfInBounds_toArray, List.set_cons_zero, List.set_cons_succ]
      refine take_do (i := 4) (v := (.slice (some ⟨b2, o2, none⟩) n cb)) rfl (by kernel_rfl) (by kernel_rfl) (by kernel_rfl) (fun _ _ _ h => h) (by rfl) ?_ (by assumption) ?_
      · intro w hSw
        obtain ⟨⟨c0, c1⟩, ⟨d0, d1⟩, _⟩ := hSw
        go_simp
      simp only [Act.put, List.setIfInBounds_toArray, List.set_cons_zero, List.set_cons_succ]
      refine take_do (i := 5) (v := (.int .i64 i)) rfl (by kernel_rfl) (by kernel_rfl) (by kernel_rfl) (fun _ _ _ h => h) (by rfl) ?_ (by assumption) ?_
      · intro w hSw
        obtain ⟨⟨c0, c1⟩, ⟨d0, d1⟩, _⟩ := hSw
        go_simp
      simp only [Act.put, List.setIfInBounds_toArray, List.set_cons_zero, List.set_cons_succ]
      refine take_do (i := 6) (v := (.pointer (some ⟨b2, o2 + i * 2, none⟩))) rfl (by kernel_rfl) (by kernel_rfl) (by kernel_rfl) (fun _ _ _ h => h) (by rfl) ?_ (by assumption) ?_
      · intro w hSw
        obtain ⟨⟨c0, c1⟩, ⟨d0, d1⟩, _⟩ := hSw
        go_simp
      simp only [Act.put, List.setIfInBounds_toArray, List.set_cons_zero, List.set_cons_succ]
      refine take_do (i := 7) (v := (.agg #[.int .i64 (f (i * 2)), .int .i64 (f (i * 2 + 1))])) rfl (by kernel_rfl) (by kernel_rfl) (by kernel_rfl) (fun _ _ _ h => h) (by rfl) ?_ (by assumption) ?_
      · intro w hSw
        obtain ⟨⟨c0, c1⟩, ⟨d0, d1⟩, _⟩ := hSw
        go_simp
      simp only [Act.put, List.setIfInBounds_toArray, List.set_cons_zero, List.set_cons_succ]
      refine take_call (i := 8) rfl (by kernel_rfl) (fun K2 hK => ?_)
      go_simp
      refine (neqNote_same (f (i * 2)) (f (i * 2 + 1)) _).mono ?_
      rintro e w1 ⟨rfl, hb⟩
      go_wp2_with fail
      refine hK.out _ _ (hHeld.below hb) (fun hHeld2 => ?_)
      clear hK hHeld hb
      have hHeld := hHeld2
      clear hHeld2
      refine take_do (i := 9) (v := (.bool false)) rfl (by kernel_rfl) (by kernel_rfl) (by kernel_rfl) (fun _ _ _ h => h) (by rfl) ?_ (by assumption) ?_
      · intro w hSw
        obtain ⟨⟨c0, c1⟩, ⟨d0, d1⟩, _⟩ := hSw
        go_simp
      simp only [Act.put, List.setIfInBounds_toArray, List.set_cons_zero, List.set_cons_succ]
      refine wpAnyH_done (by kernel_rfl) ?_ _
      have HB1 := Lib.hid hHeld.2.2
      clear hHeld
      go_wp2_with fail
      go_roundw
      case rel => exact ⟨i + 1, by omega, by go_num, HB1⟩
      case measure => simp [intOf]; omega
    · obtain rfl : i = n := by omega
      go_wp2_with fail
      go_ret
      exact ⟨rfl, hB.out⟩
set_option maxRecDepth 100000 in
set_option maxHeartbeats 2000000 in
theorem nmarkNoteS_any (g n c k : Nat) (f : Nat → Int) (w : World) (h : IsBlk 47 g (n * 2) f w) (hn : n ≤ 1048576) (hk : k ≤ 16777216) :
    Calls Tryd.prog 34 #[.slice (some ⟨g, 0, none⟩) n c, .int .i64 k] w fun e w' => e = .returned (.int .i64 ((k + n * 2 : Nat) : Int)) ∧ IsBlk 47 g (n * 2) (mk1 k) w' ∧ Only g w w' := by
  obtain ⟨M, F0, hM, hR, _⟩ := h
  have H : Hid (IsPart 47 g M 0 (mk1 k) w) := ⟨F0, hR, fun j hj => absurd hj (Nat.not_lt_zero _)⟩
  clear hR
  go_enter Tryd.func34, Tryd.ntmps34
  go_wp2_with fail
  go_loopw [1, 5] (fun kv iv wr => ∃ (i : Nat), i ≤ n ∧ kv = .int .i64 ((k + i * 2 : Nat) : Int) ∧ iv = .int .i64 i ∧ Hid (IsPart 47 g M (i * 2) (mk1 k) wr) ∧ Hid (Only g w wr)) (fun _ iv _ => n - (intOf iv).toNat)
  case atStart => exact ⟨0, Nat.zero_le _, by simp, rfl, by simpa using H, Only.refl _ _⟩
  case round =>
    obtain ⟨i, hi, rfl, rfl, hP, hO⟩ := hrel
    clear H
    by_cases hlt : i < n
    · have hltz : (i : Int) < (n : Int) := by omega
      obtain ⟨v0, y0⟩ := hP.out.cell (j := i * 2) (by omega)
      have z0 := hP.out.frozen (i * 2)
      obtain ⟨v1, y1⟩ := hP.out.cell (j := i * 2 + 1) (by omega)
      have z1 := hP.out.frozen (i * 2 + 1)
      have zg : g < wr.heap.size := hP.out.lt
      obtain ⟨K, hK⟩ : ∃ K : Nat, K = k + i * 2 := ⟨_, rfl⟩
      rw [← hK]
      have hK2 : K ≤ 25165824 := by omega
      have HP5 := Lib.hid (((hP.out.put ((K : Int)) (by unfold mk1; omega)).put ((K : Int) + 1) (by unfold mk1; omega)))
      have HO5 := Lib.hid (((hO.out.set (i * 2) (.int .i64 ((K : Int)))).set (i * 2 + 1) (.int .i64 ((K : Int) + 1))))
      have HKE : Hid (K = k + i * 2) := hK
      clear hP hO hK
      go_wp2_with fail
      go_roundw
      case rel =>
        refine ⟨i + 1, by omega, ?_, by go_num, by rw [Nat.succ_mul]; exact HP5, HO5⟩
        have := HKE.out
        congr 1; omega
      case measure => simp [intOf]; omega
    · obtain rfl : i = n := by omega
      go_wp2_with fail
      go_ret
      exact ⟨rfl, hP.out.full (by omega), hO.out⟩
set_option maxRecDepth 100000 in
set_option maxHeartbeats 2000000 in
theorem nmarkNoteS_nil (k : Nat) (w : World) :
    Calls Tryd.prog 34 #[.slice none 0 0, .int .i64 k] w fun e w' => e = .returned (.int .i64 k) ∧ w' = w := by
  go_enter Tryd.func34, Tryd.ntmps34
  go_wp2_with fail
  go_loopw [1, 5] (fun kv iv wr => kv = .int .i64 k ∧ iv = .int .i64 0 ∧ wr = w) (fun _ _ _ => 0)
  case atStart => exact ⟨rfl, rfl, rfl⟩
  case round =>
    obtain ⟨rfl, rfl, rfl⟩ := hrel
    go_wp2_with fail
    go_ret
    exact ⟨rfl, rfl⟩
set_option maxRecDepth 100000 in
set_option maxHeartbeats 2000000 in
theorem nheldNoteS_any (g n c k : Nat) (w : World) (h : IsBlk 47 g (n * 2) (mk1 k) w) (hn : n ≤ 1048576) (hk : k ≤ 16777216) :
    Calls Tryd.prog 35 #[.slice (some ⟨g, 0, none⟩) n c, .int .i64 k] w fun e w' => e = .returned (.int .i64 ((k + n * 2 : Nat) : Int)) ∧ w' = w := by
  have H := Lib.hid h
  clear h
  go_enter Tryd.func35, Tryd.ntmps35
  go_wp2_with fail
  go_loopw [1, 5] (fun kv iv wr => ∃ (i : Nat), i ≤ n ∧ kv = .int .i64 ((k + i * 2 : Nat) : Int) ∧ iv = .int .i64 i ∧ Hid (wr = w)) (fun _ iv _ => n - (intOf iv).toNat)
  case atStart => exact ⟨0, Nat.zero_le _, by simp, rfl, rfl⟩
  case round =>
    obtain ⟨i, hi, rfl, rfl, hW⟩ := hrel
    obtain rfl := hW.out
    clear hW
    by_cases hlt : i < n
    · have hltz : (i : Int) < (n : Int) := by omega
      obtain ⟨K, hK⟩ : ∃ K : Nat, K = k + i * 2 := ⟨_, rfl⟩
      have c0 : wr.cell? ⟨g, i * 2, none⟩ = some (.int .i64 ((K : Int))) := (H.out.cell (i := i * 2) (by omega)).trans (by unfold mk1; rw [hK])
      have c1 : wr.cell? ⟨g, i * 2 + 1, none⟩ = some (.int .i64 ((K : Int) + 1)) := (H.out.cell (i := i * 2 + 1) (by omega)).trans (by unfold mk1; rw [hK]; simp; omega)
      rw [← hK]
      have hK2 : K ≤ 25165824 := by omega
      have HKE : Hid (K = k + i * 2) := hK
      clear hK
      go_wp2_with fail
      go_roundw
      case rel =>
        refine ⟨i + 1, by omega, ?_, by go_num, by first | exact rfl | exact (trivial : True)⟩
        have := HKE.out
        congr 1; omega
      case measure => simp [intOf]; omega
    · obtain rfl : i = n := by omega
      go_wp2_with fail
      go_ret
      exact ⟨rfl, rfl⟩
set_option maxRecDepth 100000 in
set_option maxHeartbeats 2000000 in
theorem nheldNoteS_nil (k : Nat) (w : World) :
    Calls Tryd.prog 35 #[.slice none 0 0, .int .i64 k] w fun e w' => e = .returned (.int .i64 k) ∧ w' = w := by
  go_enter Tryd.func35, Tryd.ntmps35
  go_wp2_with fail
  go_loopw [1, 5] (fun kv iv wr => kv = .int .i64 k ∧ iv = .int .i64 0 ∧ wr = w) (fun _ _ _ => 0)
  case atStart => exact ⟨rfl, rfl, rfl⟩
  case round =>
    obtain ⟨rfl, rfl, rfl⟩ := hrel
    go_wp2_with fail
    go_ret
    exact ⟨rfl, rfl⟩
/-- The first numbers of a block from a place on are there. -/
def NsPart (T : TypeId) (g o M N : Nat) (f : Nat → Int) (w : World) : Prop := ∃ F, w.rowIs g T M F ∧ ∀ j, j < N → F (o + j) = .int .i64 (f j)
theorem NsPart.lt {T : TypeId} {g o M N : Nat} {f : Nat → Int} {w : World} (h : NsPart T g o M N f w) : g < w.heap.size := by obtain ⟨F, h1, _⟩ := h; exact h1.lt
theorem NsPart.cell {T : TypeId} {g o M N j : Nat} {f : Nat → Int} {w : World} (h : NsPart T g o M N f w) (hj : o + j < M) : ∃ v, w.cell? ⟨g, o + j, none⟩ = some v := by obtain ⟨F, h1, _⟩ := h; exact ⟨_, h1.cell hj⟩
theorem NsPart.frozen {T : TypeId} {g o M N : Nat} {f : Nat → Int} {w : World} (h : NsPart T g o M N f w) (j : Nat) : w.frozen? ⟨g, j, none⟩ = false := by obtain ⟨F, h1, _⟩ := h; exact h1.frozen j
theorem NsPart.put {T : TypeId} {g o M N : Nat} {f : Nat → Int} {w : World} (h : NsPart T g o M N f w) (z : Int) (hz : z = f N) : NsPart T g o M (N + 1) f (w.setCell ⟨g, o + N, none⟩ (.int .i64 z)) := by
  obtain ⟨F, h1, h2⟩ := h
  subst hz
  refine ⟨_, h1.set (o + N) _, fun j hj => ?_⟩
  by_cases e : j = N
  · subst e; simp
  · simp only [show ¬ o + j = o + N by omega, if_false]; exact h2 j (by omega)
set_option maxRecDepth 100000 in
set_option maxHeartbeats 2000000 in
theorem omarkNoteS_any (g o n c k : Nat) (f : Nat → Int) (w : World) (h : NsBlk 47 g o (n * 2) f w) (hn : n ≤ 1048576) (hk : k ≤ 16777216) :
    Calls Tryd.prog 34 #[.slice (some ⟨g, o, none⟩) n c, .int .i64 k] w fun e w' => e = .returned (.int .i64 ((k + n * 2 : Nat) : Int)) ∧ NsBlk 47 g o (n * 2) (mk1 k) w' ∧ Only g w w' := by
  obtain ⟨M, F0, hM, hR, _⟩ := h
  have H : Hid (NsPart 47 g o M 0 (mk1 k) w) := ⟨F0, hR, fun j hj => absurd hj (Nat.not_lt_zero _)⟩
  clear hR
  go_enter Tryd.func34, Tryd.ntmps34
  go_wp2_with fail
  go_loopw [1, 5] (fun kv iv wr => ∃ (i : Nat), i ≤ n ∧ kv = .int .i64 ((k + i * 2 : Nat) : Int) ∧ iv = .int .i64 i ∧ Hid (NsPart 47 g o M (i * 2) (mk1 k) wr) ∧ Hid (Only g w wr)) (fun _ iv _ => n - (intOf iv).toNat)
  case atStart => exact ⟨0, Nat.zero_le _, by simp, rfl, by simpa using H, Only.refl _ _⟩
  case round =>
    obtain ⟨i, hi, rfl, rfl, hP, hO⟩ := hrel
    clear H
    by_cases hlt : i < n
    · have hltz : (i : Int) < (n : Int) := by omega
      obtain ⟨v0, y0⟩ := hP.out.cell (j := i * 2) (by omega)
      have z0 := hP.out.frozen (o + i * 2)
      obtain ⟨v1, y1⟩ : ∃ v, wr.cell? ⟨g, o + i * 2 + 1, none⟩ = some v := hP.out.cell (j := i * 2 + 1) (by omega)
      have z1 := hP.out.frozen (o + i * 2 + 1)
      have zg : g < wr.heap.size := hP.out.lt
      obtain ⟨K, hK⟩ : ∃ K : Nat, K = k + i * 2 := ⟨_, rfl⟩
      rw [← hK]
      have hK2 : K ≤ 25165824 := by omega
      have HP5 := Lib.hid (((hP.out.put ((K : Int)) (by unfold mk1; omega)).put ((K : Int) + 1) (by unfold mk1; omega)))
      have HO5 := Lib.hid (((hO.out.set (o + i * 2) (.int .i64 ((K : Int)))).set (o + i * 2 + 1) (.int .i64 ((K : Int) + 1))))
      have HKE : Hid (K = k + i * 2) := hK
      clear hP hO hK
      go_wp2_with fail
      go_roundw
      case rel =>
        refine ⟨i + 1, by omega, ?_, by go_num, by rw [Nat.succ_mul]; exact HP5, HO5⟩
        have := HKE.out
        congr 1; omega
      case measure => simp [intOf]; omega
    · obtain rfl : i = n := by omega
      have HX : Hid (NsBlk 47 g o (i * 2) (mk1 k) wr) := by obtain ⟨F, h1, h2⟩ := hP.out; exact ⟨M, F, hM, h1, h2⟩
      go_wp2_with fail
      go_ret
      exact ⟨rfl, HX.out, hO.out⟩
set_option maxRecDepth 100000 in
set_option maxHeartbeats 2000000 in
theorem omarkNoteS_nil (a : Option Addr) (c k : Nat) (w : World) :
    Calls Tryd.prog 34 #[.slice a 0 c, .int .i64 k] w fun e w' => e = .returned (.int .i64 k) ∧ w' = w := by
  go_enter Tryd.func34, Tryd.ntmps34
  go_wp2_with fail
  go_loopw [1, 5] (fun kv iv wr => kv = .int .i64 k ∧ iv = .int .i64 0 ∧ wr = w) (fun _ _ _ => 0)
  case atStart => exact ⟨rfl, rfl, rfl⟩
  case round =>
    obtain ⟨rfl, rfl, rfl⟩ := hrel
    go_wp2_with fail
    go_ret
    exact ⟨rfl, rfl⟩
set_option maxRecDepth 100000 in
set_option maxHeartbeats 2000000 in
theorem oheldNoteS_any (g o n c k : Nat) (w : World) (h : NsBlk 47 g o (n * 2) (mk1 k) w) (hn : n ≤ 1048576) (hk : k ≤ 16777216) :
    Calls Tryd.prog 35 #[.slice (some ⟨g, o, none⟩) n c, .int .i64 k] w fun e w' => e = .returned (.int .i64 ((k + n * 2 : Nat) : Int)) ∧ w' = w := by
  have H := Lib.hid h
  clear h
  go_enter Tryd.func35, Tryd.ntmps35
  go_wp2_with fail
  go_loopw [1, 5] (fun kv iv wr => ∃ (i : Nat), i ≤ n ∧ kv = .int .i64 ((k + i * 2 : Nat) : Int) ∧ iv = .int .i64 i ∧ Hid (wr = w)) (fun _ iv _ => n - (intOf iv).toNat)
  case atStart => exact ⟨0, Nat.zero_le _, by simp, rfl, rfl⟩
  case round =>
    obtain ⟨i, hi, rfl, rfl, hW⟩ := hrel
    obtain rfl := hW.out
    clear hW
    by_cases hlt : i < n
    · have hltz : (i : Int) < (n : Int) := by omega
      obtain ⟨K, hK⟩ : ∃ K : Nat, K = k + i * 2 := ⟨_, rfl⟩
      have c0 : wr.cell? ⟨g, o + i * 2, none⟩ = some (.int .i64 ((K : Int))) := (H.out.cell (i := i * 2) (by omega)).trans (by unfold mk1; rw [hK])
      have c1 : wr.cell? ⟨g, o + i * 2 + 1, none⟩ = some (.int .i64 ((K : Int) + 1)) := (H.out.cell (i := i * 2 + 1) (by omega)).trans (by unfold mk1; rw [hK]; simp; omega)
      rw [← hK]
      have hK2 : K ≤ 25165824 := by omega
      have HKE : Hid (K = k + i * 2) := hK
      clear hK
      go_wp2_with fail
      go_roundw
      case rel =>
        refine ⟨i + 1, by omega, ?_, by go_num, by first | exact rfl | exact (trivial : True)⟩
        have := HKE.out
        congr 1; omega
      case measure => simp [intOf]; omega
    · obtain rfl : i = n := by omega
      go_wp2_with fail
      go_ret
      exact ⟨rfl, rfl⟩
set_option maxRecDepth 100000 in
set_option maxHeartbeats 2000000 in
theorem oheldNoteS_nil (a : Option Addr) (c k : Nat) (w : World) :
    Calls Tryd.prog 35 #[.slice a 0 c, .int .i64 k] w fun e w' => e = .returned (.int .i64 k) ∧ w' = w := by
  go_enter Tryd.func35, Tryd.ntmps35
  go_wp2_with fail
  go_loopw [1, 5] (fun kv iv wr => kv = .int .i64 k ∧ iv = .int .i64 0 ∧ wr = w) (fun _ _ _ => 0)
  case atStart => exact ⟨rfl, rfl, rfl⟩
  case round =>
    obtain ⟨rfl, rfl, rfl⟩ := hrel
    go_wp2_with fail
    go_ret
    exact ⟨rfl, rfl⟩
/-- The marks of an own list. -/
theorem markNs {B N c k : Nat} {a : Option Addr} {f : Nat → Int} (w : World) (h : NqOwn 47 B N a f w) (hn : N ≤ 1048576) (hk : k ≤ 16777216) (hB : B ≤ w.heap.size) :
    Calls Tryd.prog 34 #[.slice a N c, .int .i64 k] w fun e w' => e = .returned (.int .i64 ((k + N * 2 : Nat) : Int)) ∧ NqOwn 47 B N a (mk1 k) w' ∧ Below B w w' ∧ (∀ j T n F, w.rowIs j T n F → 47 ≠ T → w'.rowIs j T n F) ∧ (∀ j, j < w.heap.size → (N ≠ 0 → ∀ o, a ≠ some ⟨j, o, none⟩) → w'.heap[j]? = w.heap[j]?) := by
  by_cases h0 : N = 0
  · subst h0
    refine (omarkNoteS_nil a c k w).mono ?_
    rintro e w' ⟨rfl, rfl⟩
    exact ⟨rfl, Or.inl rfl, Below.refl _ _, fun _ _ _ _ h _ => h, fun _ _ _ => rfl⟩
  · rcases h with h | ⟨g, o, rfl, h1, h2⟩
    · exact absurd h h0
    · have hty : ∀ T n F, w.rowIs g T n F → ¬ 47 ≠ T := by
        intro T n F hr hT
        obtain ⟨_, _, _, q2, _⟩ := h2
        obtain ⟨_, q3, _⟩ := q2
        obtain ⟨_, q1, _⟩ := hr
        rw [q1] at q3
        simp at q3
        exact hT q3.2.symm
      refine (omarkNoteS_any g o N c k f w h2 hn hk).mono ?_
      rintro e w' ⟨rfl, hm, ho⟩
      exact ⟨rfl, Or.inr ⟨g, o, rfl, h1, hm⟩, ho.below h1 hB, fun j T n F hr hT => hr.of_block (ho.block j hr.lt (fun e => by subst e; exact hty T n F hr hT)), fun j hj hne => ho.block j hj (fun e => hne h0 o (by rw [e]))⟩
theorem heldNs {B N c k : Nat} {a : Option Addr} (w : World) (h : NqOwn 47 B N a (mk1 k) w) (hn : N ≤ 1048576) (hk : k ≤ 16777216) :
    Calls Tryd.prog 35 #[.slice a N c, .int .i64 k] w fun e w' => e = .returned (.int .i64 ((k + N * 2 : Nat) : Int)) ∧ w' = w := by
  by_cases h0 : N = 0
  · subst h0
    exact oheldNoteS_nil a c k w
  · rcases h with h | ⟨g, o, rfl, h1, h2⟩
    · exact absurd h h0
    · exact oheldNoteS_any g o N c k w h2 hn hk
end Go.Proofs.YtmphjkpiookioaaDoor
