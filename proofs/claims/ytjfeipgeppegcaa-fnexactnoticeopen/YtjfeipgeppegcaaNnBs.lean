/-
  The laws' conversions, comparisons and marks of lists of notices.
-/
import Derived.Test.YtjfeipgeppegcaaNnEx
import Derived.Test.YtjfeipgeppegcaaReg
namespace Go.Proofs.Ytjfeipgeppegcaa
open Go.RowKit Go.Deep

def SzNs (m : Nat) (bs : Nat → Ne) (e : Ending) : Prop := ∃ z : Int, e = .returned (.int .i64 z) ∧ (z < 0 ∨ ((¬ z < 0 ∧ z ≤ 1048576) ∧ m + cntN bs m ≤ 1048576))
set_option maxRecDepth 100000 in
set_option maxHeartbeats 2000000 in
theorem szNoticeS_any (a : Option Addr) (m cap : Nat) (bs : Nat → Ne) (w : World) (h : NnsIn a m bs w) (hm : m ≤ 9223372036854775807) :
    Calls Try.prog 17 #[.slice a m cap, .int .i64 1048576] w fun e w' => SzNs m bs e ∧ Below w.heap.size w w' := by
  by_cases hbig : 1048576 < m
  · have h1 : ((1048576 : Int) - (m : Int)) < 0 := by omega
    have h8 : (m : Int) ≤ 9223372036854775807 := by omega
    clear h
    go_enter Try.func17, Try.ntmps17
    go_wp2_with fail
    go_ret
    exact ⟨⟨_, rfl, Or.inl (by omega)⟩, Below.refl _ _⟩
  have h1 : ¬ ((1048576 : Int) - (m : Int)) < 0 := by omega
  have h2 : ((1048576 : Int) - (m : Int)) = ((1048576 - m : Nat) : Int) := by omega
  have h6 : (m : Int) ≤ 1048576 := by omega
  have H := Lib.hid h
  have HM : Hid (m ≤ 1048576) := by show m ≤ _; omega
  clear h
  go_enter Try.func17, Try.ntmps17
  go_wp2_with fail
  go_loopw [1, 5] (fun lv iv wr => ∃ (i L : Nat), i ≤ m ∧ L ≤ 1048576 ∧ iv = .int .i64 i ∧ lv = .int .i64 (L : Int) ∧ Hid (L + m + cntN bs i ≤ 1048576) ∧ Hid (Below w.heap.size w wr)) (fun _ iv _ => m - (intOf iv).toNat)
  case atStart => exact ⟨0, 1048576 - m, Nat.zero_le _, by omega, rfl, by first | rfl | (congr 1; omega), by show 1048576 - m + m + cntN bs 0 ≤ 1048576; simp only [cntN]; omega, Below.refl _ _⟩
  case round =>
    obtain ⟨i, L, hi, hL, rfl, rfl, hP, hB⟩ := hrel
    clear h1 h2
    by_cases hlt : i < m
    · have hltz : (i : Int) < (m : Int) := by omega
      obtain ⟨b, o, rfl, ⟨c0, c1, c2, c3⟩, _, hnn⟩ := (H.out.below hB.out).at_ hlt
      go_wp2_with fail
      refine (szNotice_any (bs i) L _ hL hnn).mono ?_
      rintro e w1 ⟨hz, hb⟩
      have HB1 : Hid (Below w.heap.size w w1) := hB.out.trans (hb.mono hB.out.size)
      clear hb c0 c1 c2 c3
      rcases hz with ⟨z, rfl, hz⟩ | ⟨hn1, rfl⟩
      · go_wp2_with fail
        go_ret
        exact ⟨⟨_, rfl, Or.inl (by omega)⟩, HB1.out⟩
      · have hz : ¬ ((L - (bs i).an : Nat) : Int) < 0 := by omega
        obtain ⟨L', hL'⟩ : ∃ L', L' = L - (bs i).an := ⟨_, rfl⟩
        have HP1 : Hid (L' + m + cntN bs (i + 1) ≤ 1048576) := by
          have := hP.out
          show L' + m + cntN bs (i + 1) ≤ 1048576
          simp only [cntN]; omega
        rw [← hL'] at hz ⊢
        have hL2 : L' ≤ 1048576 := by omega
        clear hL' hn1
        go_wp2_with fail
        go_roundw
        case rel => exact ⟨i + 1, L', by omega, hL2, by go_num, rfl, HP1, HB1⟩
        case measure => simp [intOf]; omega
    · obtain rfl : i = m := by omega
      go_wp2_with fail
      go_ret
      exact ⟨⟨_, rfl, Or.inr ⟨⟨by omega, by omega⟩, by have := hP.out; omega⟩⟩, hB.out⟩
theorem info_Nn : (Try.prog.info? 58).map (fun i => (i.zero, i.size, i.bytes)) = some (some (.agg #[.int .i64 0, .int .i64 0, .slice none 0 0, .bool false]), 4, 48) := by kernel_rfl
abbrev nnZ : Array Value := #[.int .i64 0, .int .i64 0, .slice none 0 0, .bool false]
theorem mk_Nn (n : Nat) (hn : n ≤ 1048576) (w : World) : (Instr.makeSlice 37 (.int .i64 (n : Int)) (.int .i64 (n : Int))).run Try.prog w = .ok (.slice (some ⟨w.heap.size, 0, none⟩) n n) (w.alloc (.cells (madeCells nnZ (n * 4)) 58)) := by
  obtain ⟨i0, hi, hz0, hz1, hz2⟩ := info_parts info_Nn
  have := run_make (P := Try.prog) w 37 58 i0 _ Try.underlying37 hi hz0 .i64 .i64 n n (by omega) (Int.le_refl _) (by rw [hz2]; omega) (by omega)
  rw [hz1] at this
  simp only [Int.toNat_natCast] at this
  exact this
theorem made_nn (w : World) (n : Nat) : ∃ F, (w.alloc (.cells (madeCells nnZ (n * 4)) 58)).rowIs w.heap.size 58 (n * 4) F := by
  refine ⟨fun i => if i % 4 = 0 then .int .i64 0 else if i % 4 = 1 then .int .i64 0 else if i % 4 = 2 then .slice none 0 0 else .bool false, _, blk_alloc_new _ _, size_madeCells _ _, fun i hi => ?_⟩
  have h5 : i % 4 = 0 ∨ i % 4 = 1 ∨ i % 4 = 2 ∨ i % 4 = 3 := by omega
  rcases h5 with e | e | e | e <;> simp [madeCells, nnZ, hi, e]
/-- The first notices are there. -/
structure NxP (lo g m i : Nat) (gs : Nat → Nat) (bs : Nat → Ne) (W : World) : Prop where
  row : ∃ F, W.rowIs g 58 (m * 4) F ∧ ∀ j, j < i → F (j * 4) = .int .i64 (bs j).nu ∧ F (j * 4 + 1) = .int .i64 (bs j).st ∧ F (j * 4 + 2) = .slice (some ⟨gs j, 0, none⟩) (bs j).an (bs j).an ∧ F (j * 4 + 3) = .bool (bs j).fl
  blk : ∀ j, j < i → IsBlk 2 (gs j) (bs j).an (bs j).A W
  bd : lo ≤ g
  gbd : ∀ j, j < i → g < gs j
  up : ∀ j k, j < k → k < i → gs j < gs k
theorem NxP.next {lo g m i : Nat} {gs : Nat → Nat} {bs : Nat → Ne} {W W1 : World} (h : NxP lo g m i gs bs W) (hb : Below W.heap.size W W1) {q : Nat} (hq : W.heap.size ≤ q) (hk : IsBlk 2 q (bs i).an (bs i).A W1) :
    NxP lo g m (i + 1) (fun j => if j = i then q else gs j) bs ((((W1.setCell ⟨g, i * 4, none⟩ (.int .i64 (bs i).nu)).setCell ⟨g, i * 4 + 1, none⟩ (.int .i64 (bs i).st)).setCell ⟨g, i * 4 + 2, none⟩ (.slice (some ⟨q, 0, none⟩) (bs i).an (bs i).an)).setCell ⟨g, i * 4 + 3, none⟩ (.bool (bs i).fl)) := by
  obtain ⟨F, h1, h2⟩ := h.row
  have hg := h1.lt
  have e : ∀ k, k ≠ g → ((((W1.setCell ⟨g, i * 4, none⟩ (.int .i64 (bs i).nu)).setCell ⟨g, i * 4 + 1, none⟩ (.int .i64 (bs i).st)).setCell ⟨g, i * 4 + 2, none⟩ (.slice (some ⟨q, 0, none⟩) (bs i).an (bs i).an)).setCell ⟨g, i * 4 + 3, none⟩ (.bool (bs i).fl)).heap[k]? = W1.heap[k]? := fun k hk => by
    repeat rw [nnhs _ _ _ hk]
  refine ⟨⟨_, ((((nrow_below h1 hb).set (i * 4) _).set (i * 4 + 1) _).set (i * 4 + 2) _).set (i * 4 + 3) _, fun j hj => ?_⟩, fun j hj => ?_, h.bd, fun j hj => ?_, fun j k hjk hk => ?_⟩
  · by_cases e1 : j = i
    · subst e1; simp
    · have a : ∀ c d, c < 4 → d < 4 → j * 4 + c ≠ i * 4 + d := fun c d hc hd => by omega
      have a00 := a 0 0 (by omega) (by omega)
      have a01 := a 0 1 (by omega) (by omega)
      have a02 := a 0 2 (by omega) (by omega)
      have a03 := a 0 3 (by omega) (by omega)
      have a10 := a 1 0 (by omega) (by omega)
      have a11 := a 1 1 (by omega) (by omega)
      have a12 := a 1 2 (by omega) (by omega)
      have a13 := a 1 3 (by omega) (by omega)
      have a20 := a 2 0 (by omega) (by omega)
      have a21 := a 2 1 (by omega) (by omega)
      have a22 := a 2 2 (by omega) (by omega)
      have a23 := a 2 3 (by omega) (by omega)
      have a30 := a 3 0 (by omega) (by omega)
      have a31 := a 3 1 (by omega) (by omega)
      have a32 := a 3 2 (by omega) (by omega)
      have a33 := a 3 3 (by omega) (by omega)
      simp only [Nat.add_zero] at a00 a01 a02 a03 a10 a20 a30
      simp only [a00, a01, a02, a03, a10, a11, a12, a13, a20, a21, a22, a23, a30, a31, a32, a33, e1, if_false]
      exact h2 j (by omega)
  · by_cases e1 : j = i
    · subst e1; simp only [if_true]; exact hk.block (e _ (by omega))
    · simp only [e1, if_false]
      have hj1 := h.blk j (by omega)
      have hj2 := h.gbd j (by omega)
      exact (hj1.below hb).block (e _ (by omega))
  · by_cases e1 : j = i
    · subst e1; simp only [if_true]; omega
    · simp only [e1, if_false]; exact h.gbd j (by omega)
  · have : j ≠ i := by omega
    simp only [this, if_false]
    by_cases e1 : k = i
    · simp only [e1, if_true]
      have := (h.blk j (by omega)).lt
      omega
    · simp only [e1, if_false]; exact h.up j k hjk (by omega)
set_option maxRecDepth 100000 in
set_option maxHeartbeats 4000000 in
theorem toNoticeS_any (a : Option Addr) (m cap : Nat) (bs : Nat → Ne) (w : World) (h : NnsIn a m bs w) (hm : m ≤ 1048576) (hn : NSm m bs) :
    Calls Try.prog 19 #[.slice a m cap] w fun e w' => (∃ gs, e = .returned (.slice (some ⟨w.heap.size, 0, none⟩) m m) ∧ NxM w.heap.size w'.heap.size w.heap.size m gs bs w') ∧ Below w.heap.size w w' := by
  have hmk := mk_Nn m hm
  have H := Lib.hid h
  have HN := Lib.hid hn
  obtain ⟨F0, hF0⟩ := made_nn w m
  have HST : Hid (NxP w.heap.size w.heap.size m 0 (fun _ => 0) bs (w.alloc (.cells (madeCells nnZ (m * 4)) 58))) := ⟨⟨_, hF0, fun j hj => absurd hj (by omega)⟩, fun j hj => absurd hj (by omega), Nat.le_refl _, fun j hj => absurd hj (by omega), fun j k _ hk => absurd hk (by omega)⟩
  clear h hn hF0
  go_enter Try.func19, Try.ntmps19
  go_wp2_with fail
  clear hmk
  go_loopw [4] (fun iv wr => ∃ (i : Nat) (gs : Nat → Nat), i ≤ m ∧ iv = .int .i64 i ∧ Hid (NxP w.heap.size w.heap.size m i gs bs wr) ∧ Hid (Below w.heap.size w wr)) (fun iv _ => m - (intOf iv).toNat)
  case atStart => exact ⟨0, _, Nat.zero_le _, rfl, HST, (Below.refl _ _).alloc (Nat.le_refl _) _⟩
  case round =>
    obtain ⟨i, gs, hi, rfl, hP, hB⟩ := hrel
    clear HST
    by_cases hlt : i < m
    · have hltz : (i : Int) < (m : Int) := by omega
      obtain ⟨b, o, rfl, ⟨c0, c1, c2, c3⟩, hin, _⟩ := (H.out.below hB.out).at_ hlt
      have HIN := Lib.hid hin
      clear hin
      go_wp2_with fail
      refine (toNotice_any (bs i) _ HIN.out (HN.out.2.2 i hlt)).mono ?_
      rintro e w1 ⟨⟨q, rfl, hq, hk⟩, hb⟩
      have HP2 := Lib.hid (hP.out.next hb hq hk)
      have HB1 : Hid (Below w.heap.size w w1) := hB.out.trans (hb.mono hB.out.size)
      obtain ⟨FR, hR0, _⟩ := hP.out.row
      have hR := nrow_below hR0 hb
      have y0 := hR.cell (i := i * 4) (by omega)
      have y1 := hR.cell (i := i * 4 + 1) (by omega)
      have y2 := hR.cell (i := i * 4 + 2) (by omega)
      have y3 := hR.cell (i := i * 4 + 3) (by omega)
      have z0 := hR.frozen (i * 4)
      have z1 := hR.frozen (i * 4 + 1)
      have z2 := hR.frozen (i * 4 + 2)
      have z3 := hR.frozen (i * 4 + 3)
      have hz : w.heap.size < w1.heap.size := hR.lt
      clear hR hR0 hb hP hB c0 c1 c2 c3 hk hq
      go_wp2_with fail
      go_roundw
      case rel => exact ⟨i + 1, _, by omega, by go_num, HP2, (((HB1.out.setCell (p := ⟨w.heap.size, _, none⟩) (Nat.le_refl _) _).setCell (p := ⟨w.heap.size, _, none⟩) (Nat.le_refl _) _).setCell (p := ⟨w.heap.size, _, none⟩) (Nat.le_refl _) _).setCell (p := ⟨w.heap.size, _, none⟩) (Nat.le_refl _) _⟩
      case measure => simp [intOf]; omega
    · obtain rfl : i = m := by omega
      go_wp2_with fail
      go_ret
      refine ⟨⟨gs, rfl, hP.out.row, hP.out.blk, ⟨Nat.le_refl _, ?_⟩, fun j hj => ⟨hP.out.gbd j hj, (hP.out.blk j hj).lt⟩, hP.out.up⟩, hB.out⟩
      obtain ⟨F, h1, _⟩ := hP.out.row
      exact h1.lt
/-- What a round of the comparison reads. -/
def EqN (w : World) (b1 b2 i : Nat) (x y : Ne) (W : World) : Prop := (NeCells b1 (i * 4) x W ∧ NeL x W) ∧ (NeCells b2 (i * 4) y W ∧ NeL y W) ∧ Below w.heap.size w W
theorem EqN.below {w : World} {b1 b2 i : Nat} {x y : Ne} {W W' : World} (h : EqN w b1 b2 i x y W) (hb : Below W.heap.size W W') : EqN w b1 b2 i x y W' := ⟨⟨h.1.1.block (hb.block _ h.1.1.lt), h.1.2.below hb⟩, ⟨h.2.1.1.block (hb.block _ h.2.1.1.lt), h.2.1.2.below hb⟩, h.2.2.trans (hb.mono h.2.2.size)⟩
set_option maxRecDepth 100000 in
set_option maxHeartbeats 4000000 in
theorem eqNoticeS_same (b1 b2 m c1 c2 : Nat) (xs ys : Nat → Ne) (w : World) (h1 : ∀ i, i < m → NeCells b1 (i * 4) (xs i) w ∧ NeL (xs i) w) (h2 : ∀ i, i < m → NeCells b2 (i * 4) (ys i) w ∧ NeL (ys i) w) (he : ∀ i, i < m → (xs i).sameN (ys i)) (hm : m ≤ 1048576) (hn : NSm m xs) :
    Calls Try.prog 21 #[.slice (some ⟨b1, 0, none⟩) m c1, .slice (some ⟨b2, 0, none⟩) m c2] w fun e w' => e = .returned (.bool true) ∧ Below w.heap.size w w' := by
  have H1 := Lib.hid h1
  have H2 := Lib.hid h2
  have HE := Lib.hid he
  have HN := Lib.hid hn
  clear h1 h2 he hn
  go_enter Try.func21, Try.ntmps21
  go_wp2_with fail
  go_loopw [5] (fun iv wr => ∃ (i : Nat), i ≤ m ∧ iv = .int .i64 i ∧ Hid (Below w.heap.size w wr)) (fun iv _ => m - (intOf iv).toNat)
  case atStart => exact ⟨0, Nat.zero_le _, rfl, Below.refl _ _⟩
  case round =>
    obtain ⟨i, hi, rfl, hB⟩ := hrel
    by_cases hlt : i < m
    · have hltz : (i : Int) < (m : Int) := by omega
      have hx := H1.out i hlt
      have hy := H2.out i hlt
      have hE0 := HE.out i hlt
      obtain ⟨x, hxe⟩ : ∃ x, x = xs i := ⟨_, rfl⟩
      obtain ⟨y, hye⟩ : ∃ y, y = ys i := ⟨_, rfl⟩
      have hnx := HN.out.2.2 i hlt
      rw [← hxe] at hx hE0 hnx
      rw [← hye] at hy hE0
      obtain ⟨nu, st, pa, an, ak, A, fl⟩ := x
      obtain ⟨nu2, st2, pb, an2, bk, A2, fl2⟩ := y
      simp only [Ne.sameN] at hE0
      obtain ⟨rfl, rfl, rfl, rfl, rfl⟩ := hE0
      have HX : Hid (EqN w b1 b2 i ⟨nu, st, pa, an, ak, A, fl⟩ ⟨nu, st, pb, an, bk, A, fl⟩ wr) := ⟨⟨hx.1.block (hB.out.block _ hx.1.lt), hx.2.below hB.out⟩, ⟨hy.1.block (hB.out.block _ hy.1.lt), hy.2.below hB.out⟩, hB.out⟩
      have HNX : Hid (an ≤ 1048576) := hnx
      clear hx hy hB hxe hye hnx
      go_wp2_with fail
      refine wp_region_held_drew (S := EqN w b1 b2 i ⟨nu, st, pa, an, ak, A, fl⟩ ⟨nu, st, pb, an, bk, A, fl⟩) (by kernel_rfl) (HX.out.below (Below.refl _ _).drew) (fun hHeld => ?_)
      clear HX
      refine take_do (i := 0) (v := (.slice (some ⟨b1, 0, none⟩) m c1)) rfl (by kernel_rfl) (by kernel_rfl) (by kernel_rfl) (fun _ _ _ h => h) (by rfl) ?_ (by assumption) ?_
      · intro w hSw
        obtain ⟨⟨⟨c0, c1, c2, c3⟩, _⟩, ⟨⟨d0, d1, d2, d3⟩, _⟩, _⟩ := hSw
        go_simp
      simp only [Act.put, List.setIfInBounds_toArray, List.set_cons_zero, List.set_cons_succ]
      refine take_do (i := 1) (v := (.int .i64 i)) rfl (by kernel_rfl) (by kernel_rfl) (by kernel_rfl) (fun _ _ _ h => h) (by rfl) ?_ (by assumption) ?_
      · intro w hSw
        obtain ⟨⟨⟨c0, c1, c2, c3⟩, _⟩, ⟨⟨d0, d1, d2, d3⟩, _⟩, _⟩ := hSw
        go_simp
      simp only [Act.put, List.setIfInBounds_toArray, List.set_cons_zero, List.set_cons_succ]
      refine take_do (i := 2) (v := (.pointer (some ⟨b1, i * 4, none⟩))) rfl (by kernel_rfl) (by kernel_rfl) (by kernel_rfl) (fun _ _ _ h => h) (by rfl) ?_ (by assumption) ?_
      · intro w hSw
        obtain ⟨⟨⟨c0, c1, c2, c3⟩, _⟩, ⟨⟨d0, d1, d2, d3⟩, _⟩, _⟩ := hSw
        go_simp
      simp only [Act.put, List.setIfInBounds_toArray, List.set_cons_zero, List.set_cons_succ]
      refine take_do (i := 3) (v := (nnV ⟨nu, st, pa, an, ak, A, fl⟩)) rfl (by kernel_rfl) (by kernel_rfl) (by kernel_rfl) (fun _ _ _ h => h) (by rfl) ?_ (by assumption) ?_
      · intro w hSw
        obtain ⟨⟨⟨c0, c1, c2, c3⟩, _⟩, ⟨⟨d0, d1, d2, d3⟩, _⟩, _⟩ := hSw
        go_simp
      simp only [Act.put, List.setIfInBounds_toArray, List.set_cons_zero, List.set_cons_succ]
      refine take_do (i := 4) (v := (.slice (some ⟨b2, 0, none⟩) m c2)) rfl (by kernel_rfl) (by kernel_rfl) (by kernel_rfl) (fun _ _ _ h => h) (by rfl) ?_ (by assumption) ?_
      · intro w hSw
        obtain ⟨⟨⟨c0, c1, c2, c3⟩, _⟩, ⟨⟨d0, d1, d2, d3⟩, _⟩, _⟩ := hSw
        go_simp
      simp only [Act.put, List.setIfInBounds_toArray, List.set_cons_zero, List.set_cons_succ]
      refine take_do (i := 5) (v := (.int .i64 i)) rfl (by kernel_rfl) (by kernel_rfl) (by kernel_rfl) (fun _ _ _ h => h) (by rfl) ?_ (by assumption) ?_
      · intro w hSw
        obtain ⟨⟨⟨c0, c1, c2, c3⟩, _⟩, ⟨⟨d0, d1, d2, d3⟩, _⟩, _⟩ := hSw
        go_simp
      simp only [Act.put, List.setIfInBounds_toArray, List.set_cons_zero, List.set_cons_succ]
      refine take_do (i := 6) (v := (.pointer (some ⟨b2, i * 4, none⟩))) rfl (by kernel_rfl) (by kernel_rfl) (by kernel_rfl) (fun _ _ _ h => h) (by rfl) ?_ (by assumption) ?_
      · intro w hSw
        obtain ⟨⟨⟨c0, c1, c2, c3⟩, _⟩, ⟨⟨d0, d1, d2, d3⟩, _⟩, _⟩ := hSw
        go_simp
      simp only [Act.put, List.setIfInBounds_toArray, List.set_cons_zero, List.set_cons_succ]
      refine take_do (i := 7) (v := (nnV ⟨nu, st, pb, an, bk, A, fl⟩)) rfl (by kernel_rfl) (by kernel_rfl) (by kernel_rfl) (fun _ _ _ h => h) (by rfl) ?_ (by assumption) ?_
      · intro w hSw
        obtain ⟨⟨⟨c0, c1, c2, c3⟩, _⟩, ⟨⟨d0, d1, d2, d3⟩, _⟩, _⟩ := hSw
        go_simp
      simp only [Act.put, List.setIfInBounds_toArray, List.set_cons_zero, List.set_cons_succ]
      refine take_call (i := 8) rfl (by kernel_rfl) (fun K2 hK => ?_)
      go_simp
      refine (eqNotice_same nu st pa pb an ak bk A fl _ hHeld.1.2 hHeld.2.1.2 HNX.out).mono ?_
      rintro e w1 ⟨rfl, hb⟩
      go_wp2_with fail
      refine hK.out _ _ (hHeld.below hb) (fun hHeld2 => ?_)
      clear hK hHeld hb
      have hHeld := hHeld2
      clear hHeld2
      refine take_do (i := 9) (v := (.bool false)) rfl (by kernel_rfl) (by kernel_rfl) (by kernel_rfl) (fun _ _ _ h => h) (by rfl) ?_ (by assumption) ?_
      · intro w hSw
        obtain ⟨⟨⟨c0, c1, c2, c3⟩, _⟩, ⟨⟨d0, d1, d2, d3⟩, _⟩, _⟩ := hSw
        go_simp
      simp only [Act.put, List.setIfInBounds_toArray, List.set_cons_zero, List.set_cons_succ]
      refine wpAnyH_done (by kernel_rfl) ?_ _
      have HB1 := Lib.hid hHeld.2.2
      clear hHeld
      go_wp2_with fail
      go_roundw
      case rel => exact ⟨i + 1, by omega, by go_num, HB1⟩
      case measure => simp [intOf]; omega
    · obtain rfl : i = m := by omega
      go_wp2_with fail
      go_ret
      exact ⟨rfl, hB.out⟩
/-- What of a list of one's own the marking needs. -/
structure NxR (lo hi g m : Nat) (gs : Nat → Nat) (bs : Nat → Ne) (W : World) : Prop where
  row : ∃ F, W.rowIs g 58 (m * 4) F ∧ ∀ i, i < m → F (i * 4 + 2) = .slice (some ⟨gs i, 0, none⟩) (bs i).an (bs i).an
  blk : ∀ i, i < m → ∃ F, IsBlk 2 (gs i) (bs i).an F W
  bd : lo ≤ g ∧ g < hi
  gbd : ∀ i, i < m → g < gs i ∧ gs i < hi
theorem NxM.toR {lo hi g m : Nat} {gs : Nat → Nat} {bs : Nat → Ne} {W : World} (h : NxM lo hi g m gs bs W) : NxR lo hi g m gs bs W := by
  obtain ⟨F, h1, h2⟩ := h.row
  exact ⟨⟨F, h1, fun i hi => (h2 i hi).2.2.1⟩, fun i hi => ⟨_, h.blk i hi⟩, h.bd, h.gbd⟩
/-- Blocks of a range alone may have changed. -/
structure OnlyR (lo hi : Nat) (w w' : World) : Prop where
  os : w'.os = w.os
  tape : w'.tape = w.tape
  output : w'.output = w.output
  size : w.heap.size ≤ w'.heap.size
  block : ∀ k, k < w.heap.size → ¬ (lo ≤ k ∧ k < hi) → w'.heap[k]? = w.heap[k]?
theorem OnlyR.refl (lo hi : Nat) (w : World) : OnlyR lo hi w w := ⟨rfl, rfl, rfl, Nat.le_refl _, fun _ _ _ => rfl⟩
theorem OnlyR.only {lo hi g : Nat} {w w' w2 : World} (h : OnlyR lo hi w w') (h2 : Only g w' w2) (hg : lo ≤ g ∧ g < hi) : OnlyR lo hi w w2 :=
  ⟨h2.os.trans h.os, h2.tape.trans h.tape, h2.output.trans h.output, Nat.le_trans h.size h2.size, fun k hk hn => (h2.block k (Nat.lt_of_lt_of_le hk h.size) (fun e => hn (by omega))).trans (h.block k hk hn)⟩
theorem OnlyR.below {B lo hi : Nat} {w w' : World} (h : OnlyR lo hi w w') (h1 : B ≤ lo) (h2 : B ≤ w.heap.size) : Below B w w' := ⟨h.os, h.tape, h.output, h.size, fun k hk => h.block k (by omega) (by omega)⟩
theorem NxR.only {lo hi g m : Nat} {gs : Nat → Nat} {bs : Nat → Ne} {W W' : World} (h : NxR lo hi g m gs bs W) (hu : ∀ i j, i < j → j < m → gs i < gs j) {i : Nat} (hi' : i < m) (ho : Only (gs i) W W') (hk : ∃ F, IsBlk 2 (gs i) (bs i).an F W') : NxR lo hi g m gs bs W' := by
  obtain ⟨F, h1, h2⟩ := h.row
  have hg := h.gbd
  have hgi := hg i hi'
  refine ⟨⟨F, h1.of_block (ho.block _ h1.lt (by omega)), h2⟩, fun j hj => ?_, h.bd, hg⟩
  have hgj := hg j hj
  obtain ⟨F1, b1⟩ := h.blk j hj
  by_cases e : gs j = gs i
  · by_cases ej : j = i
    · subst ej; exact hk
    · exfalso
      rcases Nat.lt_or_gt_of_ne ej with h3 | h3
      · have := hu j i h3 hi'; omega
      · have := hu i j h3 hj; omega
  · exact ⟨F1, b1.block (ho.block _ b1.lt e)⟩
theorem NxR.put {lo hi g m : Nat} {gs : Nat → Nat} {bs : Nat → Ne} {W : World} (h : NxR lo hi g m gs bs W) (i c : Nat) (hc : c < 4) (hc2 : c ≠ 2) (v : Value) : NxR lo hi g m gs bs (W.setCell ⟨g, i * 4 + c, none⟩ v) := by
  obtain ⟨F, h1, h2⟩ := h.row
  refine ⟨⟨_, h1.set (i * 4 + c) _, fun j hj => ?_⟩, fun j hj => ?_, h.bd, h.gbd⟩
  · have e2 : j * 4 + 2 ≠ i * 4 + c := by omega
    simp only [e2, if_false]
    exact h2 j hj
  · have := h.gbd j hj
    obtain ⟨F1, b1⟩ := h.blk j hj
    exact ⟨F1, b1.block (Below.heap_setCell _ _ _ _ (by show gs j ≠ g; omega))⟩
set_option maxRecDepth 100000 in
set_option maxHeartbeats 4000000 in
theorem markNoticeS_any (lo hi g m c : Nat) (gs : Nat → Nat) (bs : Nat → Ne) (w : World) (h : NxR lo hi g m gs bs w) (hu : ∀ i j, i < j → j < m → gs i < gs j) (hsm : m + cntN bs m ≤ 1048576) :
    Calls Try.prog 22 #[.slice (some ⟨g, 0, none⟩) m c, .int .i64 1] w fun e w' => e = .returned (.int .i64 ((1 + m * 3 + cntN bs m : Nat) : Int)) ∧ OnlyR lo hi w w' := by
  have H := Lib.hid h
  have HU := Lib.hid hu
  clear h hu
  go_enter Try.func22, Try.ntmps22
  go_wp2_with fail
  go_loopw [1, 5] (fun kv iv wr => ∃ (i : Nat), i ≤ m ∧ kv = .int .i64 ((1 + i * 3 + cntN bs i : Nat) : Int) ∧ iv = .int .i64 i ∧ Hid (NxR lo hi g m gs bs wr) ∧ Hid (OnlyR lo hi w wr)) (fun _ iv _ => m - (intOf iv).toNat)
  case atStart => exact ⟨0, Nat.zero_le _, by simp [cntN], rfl, H, OnlyR.refl _ _ _⟩
  case round =>
    obtain ⟨i, hi', rfl, rfl, hR, hO⟩ := hrel
    clear H
    by_cases hlt : i < m
    · have hltz : (i : Int) < (m : Int) := by omega
      obtain ⟨F, r1, r2⟩ := hR.out.row
      have c0 := r1.cell (i := i * 4) (by omega)
      have c1 := r1.cell (i := i * 4 + 1) (by omega)
      have z0 := r1.frozen (i * 4)
      have z1 := r1.frozen (i * 4 + 1)
      have hcn := cntN_le bs (show i + 1 ≤ m by omega)
      simp only [cntN] at hcn
      obtain ⟨K, hK⟩ : ∃ K : Nat, K = 1 + i * 3 + cntN bs i := ⟨_, rfl⟩
      have hKb : K ≤ 3145730 := by omega
      have hna : (bs i).an ≤ 1048576 := by omega
      have HK := Lib.hid hK
      rw [← hK]
      obtain ⟨W1, hW1⟩ : ∃ W1, W1 = (wr.setCell ⟨g, i * 4, none⟩ (.int .i64 (K : Int))).setCell ⟨g, i * 4 + 1, none⟩ (.int .i64 ((K : Int) + 1)) := ⟨_, rfl⟩
      have hg := hR.out.gbd
      have hbd := hR.out.bd
      have HR1 : Hid (NxR lo hi g m gs bs W1) := by
        show NxR _ _ _ _ _ _ _
        rw [hW1]; exact (hR.out.put i 0 (by omega) (by omega) _).put i 1 (by omega) (by omega) _
      have HO1 : Hid (OnlyR lo hi w W1) := by
        show OnlyR _ _ _ _
        rw [hW1]
        exact hO.out.only (((Only.refl g wr).set (i * 4) _).set (i * 4 + 1) _) hbd
      obtain ⟨F0, q0⟩ := HR1.out.blk i hlt
      have HQ0 := Lib.hid q0
      have lgr : g < wr.heap.size := r1.lt
      have HW1 := Lib.hid hW1
      have c2' : W1.cell? ⟨g, i * 4 + 2, none⟩ = some (.slice (some ⟨gs i, 0, none⟩) (bs i).an (bs i).an) := by
        obtain ⟨F2, r3, r4⟩ := HR1.out.row
        exact (r3.cell (i := i * 4 + 2) (by omega)).trans (by rw [r4 i hlt])
      have c2 : ((wr.setCell ⟨g, i * 4, none⟩ (.int .i64 (K : Int))).setCell ⟨g, i * 4 + 1, none⟩ (.int .i64 ((K : Int) + 1))).cell? ⟨g, i * 4 + 2, none⟩ = some (.slice (some ⟨gs i, 0, none⟩) (bs i).an (bs i).an) := by rw [← hW1]; exact c2'
      have c2r : wr.cell? ⟨g, i * 4 + 2, none⟩ = some (.slice (some ⟨gs i, 0, none⟩) (bs i).an (bs i).an) := (r1.cell (i := i * 4 + 2) (by omega)).trans (by rw [r2 i hlt])
      clear r1 r2 hK hR hO q0 hW1 c2' c2
      go_wp2_with fail
      rw [← HW1.out]
      have hKe : ((K : Int) + 1 + 1) = ((K + 2 : Nat) : Int) := by omega
      rw [hKe]
      refine (nmarkInt64S_any (gs i) (bs i).an (bs i).an (K + 2) F0 _ HQ0.out hna (by omega)).mono ?_
      rintro e W2 ⟨rfl, hmk, ho⟩
      have HR2 : Hid (NxR lo hi g m gs bs W2) := HR1.out.only HU.out hlt ho ⟨_, hmk⟩
      have HO2 : Hid (OnlyR lo hi w W2) := HO1.out.only ho (by have := hg i hlt; omega)
      clear hmk ho c0 c1 z0 z1 c2r lgr hKe HQ0 HW1 HR1 HO1
      obtain ⟨F2, r3, _⟩ := HR2.out.row
      have c3 := r3.cell (i := i * 4 + 3) (by omega)
      have z3 := r3.frozen (i * 4 + 3)
      have lgr : g < W2.heap.size := r3.lt
      obtain ⟨K2, hK2⟩ : ∃ K2 : Nat, K2 = K + 2 + (bs i).an := ⟨_, rfl⟩
      have hK2b : K2 ≤ 5242880 := by omega
      have hK2z : ¬ (K2 : Int) < 0 := by omega
      rw [← hK2]
      have HK2 := Lib.hid hK2
      have HR3 : ∀ v, Hid (NxR lo hi g m gs bs (W2.setCell ⟨g, i * 4 + 3, none⟩ v)) := fun v => HR2.out.put i 3 (by omega) (by omega) v
      have HO3 : ∀ v, Hid (OnlyR lo hi w (W2.setCell ⟨g, i * 4 + 3, none⟩ v)) := fun v => HO2.out.only ((Only.refl g W2).set (i * 4 + 3) v) hbd
      clear hK2 r3 HR2 HO2 hg
      go_wp2_with fail
      go_roundw
      case rel =>
        refine ⟨i + 1, by omega, ?_, by go_num, HR3 _, HO3 _⟩
        have := HK.out
        have := HK2.out
        simp only [cntN]
        congr 1; omega
      case measure => simp [intOf]; omega
    · obtain rfl : i = m := by omega
      go_wp2_with fail
      go_ret
      exact ⟨rfl, hO.out⟩
end Go.Proofs.Ytjfeipgeppegcaa
