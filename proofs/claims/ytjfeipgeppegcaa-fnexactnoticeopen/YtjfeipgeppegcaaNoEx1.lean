/-
  The laws' conversions, comparisons, sizes and marks of homes.
-/
import Derived.Test.YtjfeipgeppegcaaNtEx1
import Derived.Test.YtjfeipgeppegcaaNoMem
import Derived.Test.YtjfeipgeppegcaaMarkText
namespace Go.Proofs.Ytjfeipgeppegcaa
open Go.RowKit Go.Deep

theorem made_ho (w : World) (n : Nat) : (w.alloc (.cells (madeCells #[.string ⟨#[]⟩, .int .i64 0] (n * 2)) 46)).rowIs w.heap.size 46 (n * 2) (fun i => (#[Value.string ⟨#[]⟩, .int .i64 0])[i % 2]'(by have := Nat.mod_lt i (show 0 < 2 by omega); simpa using this)) := by
  refine ⟨_, blk_alloc_new _ _, size_madeCells _ _, fun i hi => ?_⟩
  have h4 : i % 2 < 2 := Nat.mod_lt _ (by omega)
  simp [madeCells, hi, h4]

theorem ninfo_Home : (Try.prog.info? 46).map (fun i => (i.zero, i.size, i.bytes)) = some (some (.agg #[.string ⟨#[]⟩, .int .i64 0]), 2, 24) := by kernel_rfl
theorem nmk_Home (n : Nat) (hn : n ≤ 1048576) (w : World) : (Instr.makeSlice 25 (.int .i64 (n : Int)) (.int .i64 (n : Int))).run Try.prog w = .ok (.slice (some ⟨w.heap.size, 0, none⟩) n n) (w.alloc (.cells (madeCells #[.string ⟨#[]⟩, .int .i64 0] (n * 2)) 46)) := by
  obtain ⟨i0, hi, hz0, hz1, hz2⟩ := info_parts ninfo_Home
  have := run_make (P := Try.prog) w 25 46 i0 _ Try.underlying25 hi hz0 .i64 .i64 n n (by omega) (Int.le_refl _) (by rw [hz2]; omega) (by omega)
  rw [hz1] at this
  simp only [Int.toNat_natCast] at this
  exact this
set_option maxRecDepth 100000 in
set_option maxHeartbeats 1000000 in
theorem ntoHome_any (x0 : ByteArray) (x1 : Int) (w : World) :
    Calls Try.prog 25 #[.agg #[.string x0, .int .i64 x1]] w fun e w' => e = .returned (.agg #[.string x0, .int .i64 x1]) ∧ Below w.heap.size w w' := by
  go_enter Try.func25, Try.ntmps25
  go_wp2_with fail
  exact bodyPost_ret (v := .agg #[.string x0, .int .i64 x1]) (by simp [results, Try.results25, go_sem]) rfl ⟨rfl, (((Below.refl _ _).alloc (Nat.le_refl _) _).alloc (by simp) _).alloc (by simp <;> omega) _⟩
set_option maxRecDepth 100000 in
set_option maxHeartbeats 2000000 in
theorem ntoHomeS_any (a : Option Addr) (n cap : Nat) (B : Nat → No.Ho) (w : World) (h : HosIn a n B w) (hn : n ≤ 1048576) :
    Calls Try.prog 8 #[.slice a n cap] w fun e w' => (e = .returned (.slice (some ⟨w.heap.size, 0, none⟩) n n) ∧ VsBlk 46 w.heap.size (n * 2) (hoF B) w') ∧ Below w.heap.size w w' := by
  have hmk := nmk_Home n hn
  have H := Lib.hid h
  have HST : Hid (VsPart 46 w.heap.size (n * 2) (0 * 2) (hoF B) (w.alloc (.cells (madeCells #[.string ⟨#[]⟩, .int .i64 0] (n * 2)) 46))) := ⟨_, made_ho w n, fun j hj => absurd hj (by omega)⟩
  clear h
  go_enter Try.func8, Try.ntmps8
  go_wp2_with fail
  clear hmk
  go_loopw [4] (fun iv wr => ∃ (i : Nat), i ≤ n ∧ iv = .int .i64 i ∧ Hid (VsPart 46 w.heap.size (n * 2) (i * 2) (hoF B) wr) ∧ Hid (Below w.heap.size w wr)) (fun iv _ => n - (intOf iv).toNat)
  case atStart => exact ⟨0, Nat.zero_le _, rfl, HST, (Below.refl _ _).alloc (Nat.le_refl _) _⟩
  case round =>
    obtain ⟨i, hi, rfl, hP, hB⟩ := hrel
    clear HST
    by_cases hlt : i < n
    · have hltz : (i : Int) < (n : Int) := by omega
      obtain ⟨b, o, rfl, c0, c1⟩ := (H.out.below hB.out).at_ hlt
      go_wp2_with fail
      refine (ntoHome_any (B i).name (B i).area _).mono ?_
      rintro e w1 ⟨rfl, hb⟩
      have hP1 := hP.out.block (hb.block _ hP.out.lt)
      have HB1 : Hid (Below w.heap.size w w1) := hB.out.trans (hb.mono hB.out.size)
      have HP2 := Lib.hid (((hP1.put (.string (B i).name) (hoF0 B i).symm).put (.int .i64 (B i).area) (hoF1 B i).symm))
      obtain ⟨v0, y0⟩ := hP1.cell (j := i * 2) (by omega)
      have z0 := hP1.frozen (i * 2)
      obtain ⟨v1, y1⟩ := hP1.cell (j := i * 2 + 1) (by omega)
      have z1 := hP1.frozen (i * 2 + 1)
      have hz : w.heap.size < w1.heap.size := hP1.lt
      clear hP1 hb hP hB c0 c1
      go_wp2_with fail
      go_roundw
      case rel => exact ⟨i + 1, by omega, by go_num, by rw [Nat.succ_mul]; exact HP2, ((HB1.out.setCell (p := ⟨w.heap.size, _, none⟩) (Nat.le_refl _) _).setCell (p := ⟨w.heap.size, _, none⟩) (Nat.le_refl _) _)⟩
      case measure => simp [intOf]; omega
    · obtain rfl : i = n := by omega
      go_wp2_with fail
      go_ret
      exact ⟨⟨rfl, hP.out.full (Nat.le_refl _)⟩, hB.out⟩
/-- What is left behind a list of homes. -/
def SzHs (n : Nat) (B : Nat → No.Ho) (l : Nat) (e : Ending) : Prop := (∃ z : Int, e = .returned (.int .i64 z) ∧ z < 0) ∨ ∃ m : Nat, e = .returned (.int .i64 m) ∧ m ≤ l ∧ n ≤ l ∧ HoNames 1048576 n B
def SzHo (x : No.Ho) (l : Nat) (e : Ending) : Prop := (x.name.size ≤ l ∧ e = .returned (.int .i64 ((l - x.name.size : Nat) : Int))) ∨ (l < x.name.size ∧ e = .returned (.int .i64 (-1)))
theorem nszHome_any (x : No.Ho) (l : Nat) (w : World) (hx : x.name.size ≤ 9223372036854775807) (hl : l ≤ 1048576) :
    Calls Try.prog 23 #[hoV x, .int .i64 l] w fun e w' => SzHo x l e ∧ Below w.heap.size w w' := by
  obtain ⟨s, a⟩ := x
  have h7 : (l : Int) ≤ 1048576 := by omega
  have h8 : (s.size : Int) ≤ 9223372036854775807 := by have : s.size ≤ 9223372036854775807 := hx; omega
  by_cases c : s.size ≤ l
  · have h1 : ¬ ((l : Int) - (s.size : Int)) < 0 := by omega
    have h2 : ((l : Int) - (s.size : Int)) = ((l - s.size : Nat) : Int) := by omega
    have h3 : ¬ (((l - s.size : Nat) : Int)) < 0 := by omega
    go_enter Try.func23, Try.ntmps23
    go_wp2_with fail
    go_ret
    exact ⟨Or.inl ⟨c, rfl⟩, nbel_alloc _ _⟩
  · have h1 : ((l : Int) - (s.size : Int)) < 0 := by omega
    go_enter Try.func23, Try.ntmps23
    go_wp2_with fail
    go_ret
    exact ⟨Or.inr ⟨by show l < s.size; omega, rfl⟩, nbel_alloc _ _⟩
set_option maxRecDepth 100000 in
set_option maxHeartbeats 2000000 in
theorem nszHomes_any (a : Option Addr) (n cap : Nat) (B : Nat → No.Ho) (l : Nat) (w : World) (h : HosIn a n B w) (hb : ∀ i, i < n → (B i).name.size ≤ 9223372036854775807) (hm : n ≤ 9223372036854775807) (hl : l ≤ 1048576) :
    Calls Try.prog 6 #[.slice a n cap, .int .i64 l] w fun e w' => SzHs n B l e ∧ Below w.heap.size w w' := by
  have H := Lib.hid h
  have HBD := Lib.hid hb
  clear h hb
  have h7 : (l : Int) ≤ 1048576 := by omega
  have h8 : (n : Int) ≤ 9223372036854775807 := by omega
  by_cases c : n ≤ l
  · have h1 : ¬ ((l : Int) - (n : Int)) < 0 := by omega
    have h2 : ((l : Int) - (n : Int)) = ((l - n : Nat) : Int) := by omega
    have h3 : ¬ (((l - n : Nat) : Int)) < 0 := by omega
    go_enter Try.func6, Try.ntmps6
    go_wp2_with fail
    go_loopw [1, 5] (fun lv iv wr => ∃ (i m : Nat), i ≤ n ∧ lv = .int .i64 m ∧ iv = .int .i64 i ∧ m ≤ l ∧ Hid (∀ j, j < i → (B j).name.size ≤ 1048576) ∧ Hid (Below w.heap.size w wr)) (fun _ iv _ => n - (intOf iv).toNat)
    case atStart => exact ⟨0, l - n, Nat.zero_le _, by simp, rfl, by omega, fun j hj => absurd hj (Nat.not_lt_zero _), Below.refl _ _⟩
    case round =>
      obtain ⟨i, m, hi, rfl, rfl, hm2, hP, hB⟩ := hrel
      by_cases hlt : i < n
      · have hltz : (i : Int) < (n : Int) := by omega
        obtain ⟨b, o, rfl, c0, c1⟩ := (H.out.below hB.out).at_ hlt
        go_wp2_with fail
        refine (nszHome_any (B i) m _ (HBD.out i hlt) (by omega)).mono ?_
        rintro e w1 ⟨he, hb⟩
        have HB1 : Hid (Below w.heap.size w w1) := hB.out.trans (hb.mono hB.out.size)
        clear hb hB c0 c1
        rcases he with ⟨k1, rfl⟩ | ⟨k1, rfl⟩
        · have k2 : ¬ (((m - (B i).name.size : Nat) : Int)) < 0 := by omega
          obtain ⟨m2, hm3⟩ : ∃ m2 : Nat, m2 = m - (B i).name.size := ⟨_, rfl⟩
          rw [← hm3] at k2 ⊢
          have HP2 : Hid (∀ j, j < i + 1 → (B j).name.size ≤ 1048576) := fun j hj => by
            by_cases e : j = i
            · subst e; omega
            · exact hP.out j (by omega)
          have hm4 : m2 ≤ l := by omega
          clear hm3 hP k1
          go_wp2_with fail
          go_roundw
          case rel => exact ⟨i + 1, m2, by omega, rfl, by go_num, hm4, HP2, HB1⟩
          case measure => simp [intOf]; omega
        · go_wp2_with fail
          go_ret
          exact ⟨Or.inl ⟨_, rfl, by omega⟩, HB1.out⟩
      · obtain rfl : i = n := by omega
        go_wp2_with fail
        go_ret
        exact ⟨Or.inr ⟨m, rfl, hm2, c, hP.out⟩, hB.out⟩
  · have h1 : ((l : Int) - (n : Int)) < 0 := by omega
    go_enter Try.func6, Try.ntmps6
    go_wp2_with fail
    go_ret
    exact ⟨Or.inl ⟨_, rfl, by omega⟩, Below.refl _ _⟩
/-- What a round of the comparison reads. -/
def EqSHome (w : World) (b1 b2 i : Nat) (B : Nat → No.Ho) (W : World) : Prop := (W.cell? ⟨b1, i * 2, none⟩ = some (.string (B i).name) ∧ W.cell? ⟨b1, i * 2 + 1, none⟩ = some (.int .i64 (B i).area)) ∧ (W.cell? ⟨b2, i * 2, none⟩ = some (.string (B i).name) ∧ W.cell? ⟨b2, i * 2 + 1, none⟩ = some (.int .i64 (B i).area)) ∧ Below w.heap.size w W
theorem EqSHome.below {w : World} {b1 b2 i : Nat} {B : Nat → No.Ho} {W W' : World} (h : EqSHome w b1 b2 i B W) (hb : Below W.heap.size W W') : EqSHome w b1 b2 i B W' := by
  obtain ⟨⟨c0, c1⟩, ⟨d0, d1⟩, h3⟩ := h
  exact ⟨⟨(hb.cell (World.block_lt_of_cell? _ _ c0)).trans c0, (hb.cell (World.block_lt_of_cell? _ _ c1)).trans c1⟩, ⟨(hb.cell (World.block_lt_of_cell? _ _ d0)).trans d0, (hb.cell (World.block_lt_of_cell? _ _ d1)).trans d1⟩, h3.trans (hb.mono h3.size)⟩
set_option maxRecDepth 100000 in
set_option maxHeartbeats 1000000 in
theorem neqHome_same (x0 : ByteArray) (x1 : Int) (w : World) :
    Calls Try.prog 29 #[.agg #[.string x0, .int .i64 x1], .agg #[.string x0, .int .i64 x1]] w fun e w' => e = .returned (.bool true) ∧ Below w.heap.size w w' := by
  go_enter Try.func29, Try.ntmps29
  go_wp2_with fail
  go_ret
  exact ⟨rfl, ((Below.refl _ _).alloc (Nat.le_refl _) _).alloc (by simp) _⟩
set_option maxRecDepth 100000 in
set_option maxHeartbeats 2000000 in
theorem neqHomeS_same (a b : Option Addr) (n ca cb : Nat) (B : Nat → No.Ho) (w : World) (h1 : HosAt a n B w) (h2 : HosAt b n B w) (hn : n ≤ 1048576) :
    Calls Try.prog 10 #[.slice a n ca, .slice b n cb] w fun e w' => e = .returned (.bool true) ∧ Below w.heap.size w w' := by
  have H1 := Lib.hid h1
  have H2 := Lib.hid h2
  clear h1 h2
  go_enter Try.func10, Try.ntmps10
  go_wp2_with fail
  go_loopw [5] (fun iv wr => ∃ (i : Nat), i ≤ n ∧ iv = .int .i64 i ∧ Hid (Below w.heap.size w wr)) (fun iv _ => n - (intOf iv).toNat)
  case atStart => exact ⟨0, Nat.zero_le _, rfl, Below.refl _ _⟩
  case round =>
    obtain ⟨i, hi, rfl, hB⟩ := hrel
    by_cases hlt : i < n
    · have hltz : (i : Int) < (n : Int) := by omega
      obtain ⟨b1, rfl, k1⟩ := (H1.out.below hB.out).at_ hlt
      obtain ⟨b2, rfl, k2⟩ := (H2.out.below hB.out).at_ hlt
      have HE : Hid (EqSHome w b1 b2 i B wr) := ⟨k1, k2, hB.out⟩
      clear k1 k2 hB
      go_wp2_with fail
      refine wp_region_held_drew (S := EqSHome w b1 b2 i B) (by kernel_rfl) (HE.out.below (Below.refl _ _).drew) (fun hHeld => ?_)
      clear HE
      refine take_do (i := 0) (v := (.slice (some ⟨b1, 0, none⟩) n ca)) rfl (by kernel_rfl) (by kernel_rfl) (by kernel_rfl) (fun _ _ _ h => h) (by rfl) ?_ (by assumption) ?_
      · intro w hSw
        obtain ⟨⟨c0, c1⟩, ⟨d0, d1⟩, _⟩ := hSw
        go_simp
      simp only [Act.put, List.setIfInBounds_toArray, List.set_cons_zero, List.set_cons_succ]
      refine take_do (i := 1) (v := (.int .i64 i)) rfl (by kernel_rfl) (by kernel_rfl) (by kernel_rfl) (fun _ _ _ h => h) (by rfl) ?_ (by assumption) ?_
      · intro w hSw
        obtain ⟨⟨c0, c1⟩, ⟨d0, d1⟩, _⟩ := hSw
        go_simp
      simp only [Act.put, List.setIfInBounds_toArray, List.set_cons_zero, List.set_cons_succ]
      refine take_do (i := 2) (v := (.pointer (some ⟨b1, i * 2, none⟩))) rfl (by kernel_rfl) (by kernel_rfl) (by kernel_rfl) (fun _ _ _ h => h) (by rfl) ?_ (by assumption) ?_
      · intro w hSw
        obtain ⟨⟨c0, c1⟩, ⟨d0, d1⟩, _⟩ := hSw
        go_simp
      simp only [Act.put, List.setIfInBounds_toArray, List.set_cons_zero, List.set_cons_succ]
      refine take_do (i := 3) (v := (.agg #[.string (B i).name, .int .i64 (B i).area])) rfl (by kernel_rfl) (by kernel_rfl) (by kernel_rfl) (fun _ _ _ h => h) (by rfl) ?_ (by assumption) ?_
      · intro w hSw
        obtain ⟨⟨c0, c1⟩, ⟨d0, d1⟩, _⟩ := hSw
        go_simp
      simp only [Act.put, List.setIfInBounds_toArray, List.set_cons_zero, List.set_cons_succ]
      refine take_do (i := 4) (v := (.slice (some ⟨b2, 0, none⟩) n cb)) rfl (by kernel_rfl) (by kernel_rfl) (by kernel_rfl) (fun _ _ _ h => h) (by rfl) ?_ (by assumption) ?_
      · intro w hSw
        obtain ⟨⟨c0, c1⟩, ⟨d0, d1⟩, _⟩ := hSw
        go_simp
      simp only [Act.put, List.setIfInBounds_toArray, List.set_cons_zero, List.set_cons_succ]
      refine take_do (i := 5) (v := (.int .i64 i)) rfl (by kernel_rfl) (by kernel_rfl) (by kernel_rfl) (fun _ _ _ h => h) (by rfl) ?_ (by assumption) ?_
      · intro w hSw
        obtain ⟨⟨c0, c1⟩, ⟨d0, d1⟩, _⟩ := hSw
        go_simp
      simp only [Act.put, List.setIfInBounds_toArray, List.set_cons_zero, List.set_cons_succ]
      refine take_do (i := 6) (v := (.pointer (some ⟨b2, i * 2, none⟩))) rfl (by kernel_rfl) (by kernel_rfl) (by kernel_rfl) (fun _ _ _ h => h) (by rfl) ?_ (by assumption) ?_
      · intro w hSw
        obtain ⟨⟨c0, c1⟩, ⟨d0, d1⟩, _⟩ := hSw
        go_simp
      simp only [Act.put, List.setIfInBounds_toArray, List.set_cons_zero, List.set_cons_succ]
      refine take_do (i := 7) (v := (.agg #[.string (B i).name, .int .i64 (B i).area])) rfl (by kernel_rfl) (by kernel_rfl) (by kernel_rfl) (fun _ _ _ h => h) (by rfl) ?_ (by assumption) ?_
      · intro w hSw
        obtain ⟨⟨c0, c1⟩, ⟨d0, d1⟩, _⟩ := hSw
        go_simp
      simp only [Act.put, List.setIfInBounds_toArray, List.set_cons_zero, List.set_cons_succ]
      refine take_call (i := 8) rfl (by kernel_rfl) (fun K2 hK => ?_)
      go_simp
      refine (neqHome_same (B i).name (B i).area _).mono ?_
      rintro e w1 ⟨rfl, hb⟩
      go_wp2_with fail
      refine hK.out _ _ (hHeld.below hb) (fun hHeld2 => ?_)
      clear hK hHeld hb
      have hHeld := hHeld2
      clear hHeld2
      refine take_do (i := 9) (v := (.bool false)) rfl (by kernel_rfl) (by kernel_rfl) (by kernel_rfl) (fun _ _ _ h => h) (by rfl) ?_ (by assumption) ?_
      · intro w hSw
        obtain ⟨⟨c0, c1⟩, ⟨d0, d1⟩, _⟩ := hSw
        go_simp
      simp only [Act.put, List.setIfInBounds_toArray, List.set_cons_zero, List.set_cons_succ]
      refine wpAnyH_done (by kernel_rfl) ?_ _
      have HB1 := Lib.hid hHeld.2.2
      clear hHeld
      go_wp2_with fail
      go_roundw
      case rel => exact ⟨i + 1, by omega, by go_num, HB1⟩
      case measure => simp [intOf]; omega
    · obtain rfl : i = n := by omega
      go_wp2_with fail
      go_ret
      exact ⟨rfl, hB.out⟩
/-- Marks of homes, from k on. -/
def mkHo (k : Nat) (i : Nat) : No.Ho := ⟨markB (k + i * 2), ((k + i * 2 + 1 : Nat) : Int)⟩
set_option maxRecDepth 100000 in
set_option maxHeartbeats 4000000 in
theorem nmarkHomes_any (g n c k : Nat) (B : Nat → No.Ho) (w : World) (h : VsBlk 46 g (n * 2) (hoF B) w) (hn : n ≤ 1048576) (hk : k ≤ 16777216) :
    Calls Try.prog 14 #[.slice (some ⟨g, 0, none⟩) n c, .int .i64 k] w fun e w' => e = .returned (.int .i64 ((k + n * 2 : Nat) : Int)) ∧ VsBlk 46 g (n * 2) (hoF (mkHo k)) w' ∧ Only g w w' := by
  obtain ⟨M, F0, hM, hR, _⟩ := h
  have H : Hid (VsPart 46 g M 0 (hoF (mkHo k)) w) := ⟨F0, hR, fun j hj => absurd hj (Nat.not_lt_zero _)⟩
  clear hR
  go_enter Try.func14, Try.ntmps14
  go_wp2_with fail
  go_loopw [1, 5] (fun kv iv wr => ∃ (i : Nat), i ≤ n ∧ kv = .int .i64 ((k + i * 2 : Nat) : Int) ∧ iv = .int .i64 i ∧ Hid (VsPart 46 g M (i * 2) (hoF (mkHo k)) wr) ∧ Hid (Only g w wr)) (fun _ iv _ => n - (intOf iv).toNat)
  case atStart => exact ⟨0, Nat.zero_le _, by simp, rfl, by simpa using H, Only.refl _ _⟩
  case round =>
    obtain ⟨i, hi, rfl, rfl, hP, hO⟩ := hrel
    clear H
    by_cases hlt : i < n
    · have hltz : (i : Int) < (n : Int) := by omega
      obtain ⟨K, hK⟩ : ∃ K : Nat, K = k + i * 2 := ⟨_, rfl⟩
      rw [← hK]
      have hK2 : K ≤ 25165824 := by omega
      have HKE : Hid (K = k + i * 2) := hK
      clear hK
      go_wp2_with fail
      refine (markText_any K (by omega) _).mono ?_
      rintro e W2 ⟨rfl, hb⟩
      have HP2 := hP.out.block (hb.block _ hP.out.lt)
      have HO2 : Only g w W2 := ⟨hb.os.trans hO.out.os, hb.tape.trans hO.out.tape, hb.output.trans hO.out.output, Nat.le_trans hO.out.size hb.size, fun q hq hne => (hb.block q (Nat.lt_of_lt_of_le hq hO.out.size)).trans (hO.out.block q hq hne)⟩
      obtain ⟨v0, y0⟩ := HP2.cell (j := i * 2) (by omega)
      have z0 := HP2.frozen (i * 2)
      obtain ⟨v1, y1⟩ := HP2.cell (j := i * 2 + 1) (by omega)
      have z1 := HP2.frozen (i * 2 + 1)
      have zg2 : g < W2.heap.size := HP2.lt
      have HP5 := Lib.hid ((HP2.put (.string (markB K)) (by rw [hoF0]; simp [mkHo, HKE.out])).put (.int .i64 ((K : Int) + 1)) (by rw [hoF1]; simp [mkHo, HKE.out]))
      have HO5 := Lib.hid ((HO2.set (i * 2) (.string (markB K))).set (i * 2 + 1) (.int .i64 ((K : Int) + 1)))
      clear HP2 HO2 hb hP hO
      go_wp2_with fail
      go_roundw
      case rel =>
        refine ⟨i + 1, by omega, ?_, by go_num, by rw [Nat.succ_mul]; exact HP5, HO5⟩
        have := HKE.out
        congr 1; omega
      case measure => simp [intOf]; omega
    · obtain rfl : i = n := by omega
      go_wp2_with fail
      go_ret
      exact ⟨rfl, hP.out.full (by omega), hO.out⟩
end Go.Proofs.Ytjfeipgeppegcaa
