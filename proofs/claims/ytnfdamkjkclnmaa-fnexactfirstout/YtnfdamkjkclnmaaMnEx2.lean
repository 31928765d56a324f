/-
  The laws' conversions, comparisons and marks of lists of lists of numbers.
-/
import Derived.Test.YtnfdamkjkclnmaaMnMath
import Derived.Test.YtnfdamkjkclnmaaNtEx1
namespace Go.Proofs.Ytnfdamkjkclnmaa
open Go.RowKit Go.Deep

theorem minfo_ss : (Try.prog.info? 60).map (fun i => (i.zero, i.size, i.bytes)) = some (some (.slice none 0 0), 1, 24) := by kernel_rfl
/-- The first lists have been copied. -/
def TSS (B n i : Nat) (LN : Nat → Nat) (L : Nat → Nat → Int) (wr : World) : Prop := ∃ (F : Nat → Value) (h : Nat → Nat), wr.rowIs B 60 n F ∧ (∀ j, j < i → F j = .slice (some ⟨h j, 0, none⟩) (LN j) (LN j) ∧ IsBlk 2 (h j) (LN j) (L j) wr ∧ B < h j) ∧ ∀ a b, a < b → b < i → h a < h b
theorem TSS.lt {B n i : Nat} {LN : Nat → Nat} {L : Nat → Nat → Int} {wr : World} (h : TSS B n i LN L wr) : B < wr.heap.size := by obtain ⟨F, _, h, _⟩ := h; exact h.lt
theorem TSS.cell {B n i j : Nat} {LN : Nat → Nat} {L : Nat → Nat → Int} {wr : World} (h : TSS B n i LN L wr) (hj : j < n) : ∃ v, wr.cell? ⟨B, j, none⟩ = some v := by obtain ⟨F, _, h, _⟩ := h; exact ⟨_, h.cell hj⟩
theorem TSS.frozen {B n i j : Nat} {LN : Nat → Nat} {L : Nat → Nat → Int} {wr : World} (h : TSS B n i LN L wr) : wr.frozen? ⟨B, j, none⟩ = false := by obtain ⟨F, _, h, _⟩ := h; exact h.frozen j
theorem TSS.below {B n i : Nat} {LN : Nat → Nat} {L : Nat → Nat → Int} {w wr : World} (h : TSS B n i LN L w) (hb : Below w.heap.size w wr) : TSS B n i LN L wr := by
  obtain ⟨F, h, h1, h2, h3⟩ := h
  exact ⟨F, h, nrow_below h1 hb, fun j hj => ⟨(h2 j hj).1, (h2 j hj).2.1.below hb, (h2 j hj).2.2⟩, h3⟩
theorem TSS.put {B n i : Nat} {LN : Nat → Nat} {L : Nat → Nat → Int} {w wr : World} (h : TSS B n i LN L w) (hb : Below w.heap.size w wr) (hk : IsBlk 2 w.heap.size (LN i) (L i) wr) : TSS B n (i + 1) LN L (wr.setCell ⟨B, i, none⟩ (.slice (some ⟨w.heap.size, 0, none⟩) (LN i) (LN i))) := by
  have hB := h.lt
  obtain ⟨F, h, h1, h2, h3⟩ := h
  refine ⟨_, fun j => if j = i then w.heap.size else h j, (nrow_below h1 hb).set i _, fun j hj => ?_, fun a b hab hb2 => ?_⟩
  · by_cases e : j = i
    · subst e
      simp only [if_true]
      exact ⟨trivial, hk.block (Below.heap_setCell _ _ _ _ (by show w.heap.size ≠ B; omega)), hB⟩
    · simp only [e, if_false]
      obtain ⟨q1, q2, q3⟩ := h2 j (by omega)
      exact ⟨q1, (q2.below hb).block (Below.heap_setCell _ _ _ _ (by show h j ≠ B; omega)), q3⟩
  · by_cases e : b = i
    · subst e
      have : a ≠ b := by omega
      simp only [this, if_false, if_true]
      exact (h2 a (by omega)).2.1.lt
    · have : a ≠ i := by omega
      simp only [this, e, if_false]
      exact h3 a b hab (by omega)
set_option maxRecDepth 100000 in
set_option maxHeartbeats 2000000 in
theorem mtoSS_any (a : Option Addr) (n cap : Nat) (LN : Nat → Nat) (L : Nat → Nat → Int) (w : World) (h : LsIn a n LN L w) (hn : n ≤ 1048576) (hl : ∀ i, i < n → LN i ≤ 1048576) :
    Calls Try.prog 18 #[.slice a n cap] w fun e w' => (e = .returned (.slice (some ⟨w.heap.size, 0, none⟩) n n) ∧ TSS w.heap.size n n LN L w') ∧ Below w.heap.size w w' := by
  have hmk := run_make_row' (P := Try.prog) 36 60 (.slice none 0 0) 24 Try.underlying36 minfo_ss rfl .i64 .i64 n (by omega) (by omega)
  have H := Lib.hid h
  have HL := Lib.hid hl
  have HST : Hid (TSS w.heap.size n 0 LN L (w.alloc (.cells (madeCells #[.slice none 0 0] n) 60))) := ⟨_, fun _ => 0, World.rowIs_made w (.slice none 0 0) n 60, fun j hj => absurd hj (by omega), fun a b _ hj => absurd hj (by omega)⟩
  clear h hl
  go_enter Try.func18, Try.ntmps18
  go_wp2_with fail
  clear hmk
  go_loopw [4] (fun iv wr => ∃ (i : Nat), i ≤ n ∧ iv = .int .i64 i ∧ Hid (TSS w.heap.size n i LN L wr) ∧ Hid (Below w.heap.size w wr)) (fun iv _ => n - (intOf iv).toNat)
  case atStart => exact ⟨0, Nat.zero_le _, rfl, HST, (Below.refl _ _).alloc (Nat.le_refl _) _⟩
  case round =>
    obtain ⟨i, hi, rfl, hP, hB⟩ := hrel
    clear HST
    by_cases hlt : i < n
    · have hltz : (i : Int) < (n : Int) := by omega
      obtain ⟨b, o, rfl, ai, ci, c0, ki⟩ := (H.out.below hB.out).one hlt
      have KI := Lib.hid ki
      clear ki
      go_wp2_with fail
      refine (ntoInt64S_any ai (LN i) ci (L i) _ KI.out (HL.out i hlt)).mono ?_
      rintro e w1 ⟨⟨rfl, hk⟩, hb⟩
      have HP2 := Lib.hid (hP.out.put hb hk)
      have HP1 := hP.out.below hb
      have HB1 : Hid (Below w.heap.size w w1) := hB.out.trans (hb.mono hB.out.size)
      obtain ⟨v0, y0⟩ := HP1.cell (j := i) (by omega)
      have z0 := HP1.frozen (j := i)
      have hz : w.heap.size < w1.heap.size := HP1.lt
      clear hP hB hb hk HP1 KI c0
      go_wp2_with fail
      go_roundw
      case rel => exact ⟨i + 1, by omega, by go_num, HP2, HB1.out.setCell (p := ⟨w.heap.size, i, none⟩) (Nat.le_refl _) _⟩
      case measure => simp [intOf]; omega
    · obtain rfl : i = n := by omega
      go_wp2_with fail
      go_ret
      exact ⟨⟨rfl, hP.out⟩, hB.out⟩
/-- What is left behind a list of lists: below nought, or all of it was counted. -/
def SzSS (n l : Nat) (LN : Nat → Nat) (e : Ending) : Prop := ∃ z : Int, e = .returned (.int .i64 z) ∧ (z < 0 ∨ (n + Mn.tot LN n ≤ l ∧ z = ((l - (n + Mn.tot LN n) : Nat) : Int)))
set_option maxRecDepth 100000 in
set_option maxHeartbeats 2000000 in
theorem mszSS_any (a : Option Addr) (n cap : Nat) (LN : Nat → Nat) (L : Nat → Nat → Int) (l : Nat) (w : World) (h : LsIn a n LN L w) (hn : n ≤ 9223372036854775807) (hl : l ≤ 1048576) (hL : ∀ i, i < n → LN i ≤ 9223372036854775807) :
    Calls Try.prog 15 #[.slice a n cap, .int .i64 l] w fun e w' => SzSS n l LN e ∧ w' = w := by
  have H := Lib.hid h
  have HL := Lib.hid hL
  have h7 : (l : Int) ≤ 1048576 := by omega
  have h8 : (n : Int) ≤ 9223372036854775807 := by omega
  clear h hL
  by_cases h1 : l < n
  · have h2 : ((l : Int) - (n : Int)) < 0 := by omega
    go_enter Try.func15, Try.ntmps15
    go_wp2_with fail
    go_ret
    exact ⟨⟨_, rfl, Or.inl (by omega)⟩, rfl⟩
  · have h2 : ¬ ((l : Int) - (n : Int)) < 0 := by omega
    go_enter Try.func15, Try.ntmps15
    go_wp2_with fail
    go_loopw [1, 5] (fun kv iv wr => ∃ (i : Nat) (k : Nat), i ≤ n ∧ kv = .int .i64 k ∧ iv = .int .i64 i ∧ k ≤ 1048576 ∧ Hid (n + Mn.tot LN i ≤ l ∧ k = l - (n + Mn.tot LN i)) ∧ Hid (wr = w)) (fun _ iv _ => n - (intOf iv).toNat)
    case atStart => exact ⟨0, l - n, Nat.zero_le _, by congr 1; omega, rfl, by omega, ⟨by simp only [Mn.tot]; omega, by simp only [Mn.tot]; omega⟩, rfl⟩
    case round =>
      obtain ⟨i, k, hi, rfl, rfl, hk, hK, hW⟩ := hrel
      obtain rfl := hW.out
      clear hW
      by_cases hlt : i < n
      · have hltz : (i : Int) < (n : Int) := by omega
        obtain ⟨b, o, rfl, ai, ci, c0, _⟩ := H.out.one hlt
        by_cases h3 : LN i ≤ k
        · go_wp2_with fail
          refine (nszInt64_in ai (LN i) ci k _ h3 (by omega)).mono ?_
          rintro e w1 ⟨rfl, rfl⟩
          have h4 : ¬ ((k - LN i : Nat) : Int) < 0 := by omega
          go_wp2_with fail
          go_roundw
          case rel => exact ⟨i + 1, k - LN i, by omega, rfl, by go_num, by omega, ⟨by have := hK.out; simp only [Mn.tot]; omega, by have := hK.out; simp only [Mn.tot]; omega⟩, by first | exact rfl | exact (trivial : True)⟩
          case measure => simp [intOf]; omega
        · go_wp2_with fail
          refine (nszInt64_over ai (LN i) ci k _ (by omega) (by omega) (HL.out i hlt)).mono ?_
          rintro e w1 ⟨rfl, rfl⟩
          go_wp2_with fail
          go_ret
          exact ⟨⟨_, rfl, Or.inl (by omega)⟩, rfl⟩
      · obtain rfl : i = n := by omega
        go_wp2_with fail
        go_ret
        exact ⟨⟨_, rfl, Or.inr ⟨hK.out.1, by rw [← hK.out.2]⟩⟩, rfl⟩
/-- What a round of the comparison reads. -/
def EqSS (w : World) (b1 b2 i : Nat) (a1 : Option Addr) (n1 c1 : Nat) (a2 : Option Addr) (c2 : Nat) (W : World) : Prop := W.cell? ⟨b1, i, none⟩ = some (.slice a1 n1 c1) ∧ W.cell? ⟨b2, i, none⟩ = some (.slice a2 n1 c2) ∧ Below w.heap.size w W
theorem EqSS.below {w : World} {b1 b2 i : Nat} {a1 : Option Addr} {n1 c1 : Nat} {a2 : Option Addr} {c2 : Nat} {W W' : World} (h : EqSS w b1 b2 i a1 n1 c1 a2 c2 W) (hb : Below W.heap.size W W') : EqSS w b1 b2 i a1 n1 c1 a2 c2 W' := by
  obtain ⟨q1, q2, h3⟩ := h
  exact ⟨(hb.cell (World.block_lt_of_cell? _ _ q1)).trans q1, (hb.cell (World.block_lt_of_cell? _ _ q2)).trans q2, h3.trans (hb.mono h3.size)⟩
set_option maxRecDepth 100000 in
set_option maxHeartbeats 2000000 in
theorem meqSS_same (a b : Option Addr) (n ca cb : Nat) (LN : Nat → Nat) (L : Nat → Nat → Int) (w : World) (h1 : LsAt a n LN L w) (h2 : LsAt b n LN L w) (hn : n ≤ 1048576) (hl : ∀ i, i < n → LN i ≤ 1048576) :
    Calls Try.prog 21 #[.slice a n ca, .slice b n cb] w fun e w' => e = .returned (.bool true) ∧ Below w.heap.size w w' := by
  have H1 := Lib.hid h1
  have H2 := Lib.hid h2
  have HL := Lib.hid hl
  clear h1 h2 hl
  go_enter Try.func21, Try.ntmps21
  go_wp2_with fail
  go_loopw [5] (fun iv wr => ∃ (i : Nat), i ≤ n ∧ iv = .int .i64 i ∧ Hid (Below w.heap.size w wr)) (fun iv _ => n - (intOf iv).toNat)
  case atStart => exact ⟨0, Nat.zero_le _, rfl, Below.refl _ _⟩
  case round =>
    obtain ⟨i, hi, rfl, hB⟩ := hrel
    by_cases hlt : i < n
    · have hltz : (i : Int) < (n : Int) := by omega
      obtain ⟨b1, rfl, a1, c1, k1, K1⟩ := (H1.out.below hB.out).one hlt
      obtain ⟨b2, rfl, a2, c2, k2, K2⟩ := (H2.out.below hB.out).one hlt
      have HK1 := Lib.hid K1
      have HK2 := Lib.hid K2
      have HE : Hid (EqSS w b1 b2 i a1 (LN i) c1 a2 c2 wr) := ⟨k1, k2, hB.out⟩
      clear k1 k2 hB K1 K2
      go_wp2_with fail
      obtain ⟨W0, hW0⟩ : ∃ W0, W0 = wr := ⟨_, rfl⟩
      refine wp_region_held_drew (S := fun V => EqSS w b1 b2 i a1 (LN i) c1 a2 c2 V ∧ Below wr.heap.size wr V) (by kernel_rfl) ⟨HE.out.below (Below.refl _ _).drew, (Below.refl _ _).drew⟩ (fun hHeld => ?_)
      clear HE hW0 W0
      refine take_do (i := 0) (v := (.slice (some ⟨b1, 0, none⟩) n ca)) rfl (by kernel_rfl) (by kernel_rfl) (by kernel_rfl) (fun _ _ _ h => h) (by rfl) ?_ (by assumption) ?_
      · intro w hSw
        obtain ⟨⟨c0, d0, _⟩, _⟩ := hSw
        go_simp
      simp only [Act.put, List.setIfInBounds_toArray, List.set_cons_zero, List.set_cons_succ]
      refine take_do (i := 1) (v := (.int .i64 i)) rfl (by kernel_rfl) (by kernel_rfl) (by kernel_rfl) (fun _ _ _ h => h) (by rfl) ?_ (by assumption) ?_
      · intro w hSw
        obtain ⟨⟨c0, d0, _⟩, _⟩ := hSw
        go_simp
      simp only [Act.put, List.setIfInBounds_toArray, List.set_cons_zero, List.set_cons_succ]
      refine take_do (i := 2) (v := (.pointer (some ⟨b1, i, none⟩))) rfl (by kernel_rfl) (by kernel_rfl) (by kernel_rfl) (fun _ _ _ h => h) (by rfl) ?_ (by assumption) ?_
      · intro w hSw
        obtain ⟨⟨c0, d0, _⟩, _⟩ := hSw
        go_simp
      simp only [Act.put, List.setIfInBounds_toArray, List.set_cons_zero, List.set_cons_succ]
      refine take_do (i := 3) (v := (.slice a1 (LN i) c1)) rfl (by kernel_rfl) (by kernel_rfl) (by kernel_rfl) (fun _ _ _ h => h) (by rfl) ?_ (by assumption) ?_
      · intro w hSw
        obtain ⟨⟨c0, d0, _⟩, _⟩ := hSw
        go_simp
      simp only [Act.put, List.setIfInBounds_toArray, List.set_cons_zero, List.set_cons_succ]
      refine take_do (i := 4) (v := (.slice (some ⟨b2, 0, none⟩) n cb)) rfl (by kernel_rfl) (by kernel_rfl) (by kernel_rfl) (fun _ _ _ h => h) (by rfl) ?_ (by assumption) ?_
      · intro w hSw
        obtain ⟨⟨c0, d0, _⟩, _⟩ := hSw
        go_simp
      simp only [Act.put, List.setIfInBounds_toArray, List.set_cons_zero, List.set_cons_succ]
      refine take_do (i := 5) (v := (.int .i64 i)) rfl (by kernel_rfl) (by kernel_rfl) (by kernel_rfl) (fun _ _ _ h => h) (by rfl) ?_ (by assumption) ?_
      · intro w hSw
        obtain ⟨⟨c0, d0, _⟩, _⟩ := hSw
        go_simp
      simp only [Act.put, List.setIfInBounds_toArray, List.set_cons_zero, List.set_cons_succ]
      refine take_do (i := 6) (v := (.pointer (some ⟨b2, i, none⟩))) rfl (by kernel_rfl) (by kernel_rfl) (by kernel_rfl) (fun _ _ _ h => h) (by rfl) ?_ (by assumption) ?_
      · intro w hSw
        obtain ⟨⟨c0, d0, _⟩, _⟩ := hSw
        go_simp
      simp only [Act.put, List.setIfInBounds_toArray, List.set_cons_zero, List.set_cons_succ]
      refine take_do (i := 7) (v := (.slice a2 (LN i) c2)) rfl (by kernel_rfl) (by kernel_rfl) (by kernel_rfl) (fun _ _ _ h => h) (by rfl) ?_ (by assumption) ?_
      · intro w hSw
        obtain ⟨⟨c0, d0, _⟩, _⟩ := hSw
        go_simp
      simp only [Act.put, List.setIfInBounds_toArray, List.set_cons_zero, List.set_cons_succ]
      refine take_call (i := 8) rfl (by kernel_rfl) (fun K2 hK => ?_)
      go_simp
      refine (neqInt64S_same a1 a2 (LN i) c1 c2 (L i) _ (HK1.out.below hHeld.2) (HK2.out.below hHeld.2) (HL.out i hlt)).mono ?_
      rintro e w1 ⟨rfl, hb⟩
      go_wp2_with fail
      refine hK.out _ _ ⟨hHeld.1.below hb, hHeld.2.trans (hb.mono hHeld.2.size)⟩ (fun hHeld2 => ?_)
      clear hK hHeld hb
      have hHeld := hHeld2
      clear hHeld2
      refine take_do (i := 9) (v := (.bool false)) rfl (by kernel_rfl) (by kernel_rfl) (by kernel_rfl) (fun _ _ _ h => h) (by rfl) ?_ (by assumption) ?_
      · intro w hSw
        obtain ⟨⟨c0, d0, _⟩, _⟩ := hSw
        go_simp
      simp only [Act.put, List.setIfInBounds_toArray, List.set_cons_zero, List.set_cons_succ]
      refine wpAnyH_done (by kernel_rfl) ?_ _
      have HB1 := Lib.hid hHeld.1.2.2
      clear hHeld
      go_wp2_with fail
      go_roundw
      case rel => exact ⟨i + 1, by omega, by go_num, HB1⟩
      case measure => simp [intOf]; omega
    · obtain rfl : i = n := by omega
      go_wp2_with fail
      go_ret
      exact ⟨rfl, hB.out⟩
end Go.Proofs.Ytnfdamkjkclnmaa
