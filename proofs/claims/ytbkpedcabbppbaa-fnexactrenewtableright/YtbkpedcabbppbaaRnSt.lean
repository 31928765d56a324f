/-
  The laws' copies of lists of lists of numbers, and their size.
-/
import Derived.Test.YtbkpedcabbppbaaMnMem
import Derived.Test.YtbkpedcabbppbaaNtEx1
namespace Go.Proofs.Ytbkpedcabbppbaa
open Go.RowKit Go.Deep

theorem minfo_ss : (Try.prog.info? 38).map (fun i => (i.zero, i.size, i.bytes)) = some (some (.slice none 0 0), 1, 24) := by kernel_rfl
/-- The first lists have been copied. -/
def TSS (B n i : Nat) (LN : Nat → Nat) (L : Nat → Nat → Int) (wr : World) : Prop := ∃ (F : Nat → Value) (h : Nat → Nat), wr.rowIs B 38 n F ∧ (∀ j, j < i → F j = .slice (some ⟨h j, 0, none⟩) (LN j) (LN j) ∧ IsBlk 2 (h j) (LN j) (L j) wr ∧ B < h j) ∧ ∀ a b, a < b → b < i → h a < h b
theorem TSS.lt {B n i : Nat} {LN : Nat → Nat} {L : Nat → Nat → Int} {wr : World} (h : TSS B n i LN L wr) : B < wr.heap.size := by obtain ⟨F, _, h, _⟩ := h; exact h.lt
theorem TSS.cell {B n i j : Nat} {LN : Nat → Nat} {L : Nat → Nat → Int} {wr : World} (h : TSS B n i LN L wr) (hj : j < n) : ∃ v, wr.cell? ⟨B, j, none⟩ = some v := by obtain ⟨F, _, h, _⟩ := h; exact ⟨_, h.cell hj⟩
theorem TSS.frozen {B n i j : Nat} {LN : Nat → Nat} {L : Nat → Nat → Int} {wr : World} (h : TSS B n i LN L wr) : wr.frozen? ⟨B, j, none⟩ = false := by obtain ⟨F, _, h, _⟩ := h; exact h.frozen j
theorem TSS.below {B n i : Nat} {LN : Nat → Nat} {L : Nat → Nat → Int} {w wr : World} (h : TSS B n i LN L w) (hb : Below w.heap.size w wr) : TSS B n i LN L wr := by
  obtain ⟨F, h, h1, h2, h3⟩ := h
  exact ⟨F, h, nrow_below h1 hb, fun j hj => ⟨(h2 j hj).1, (h2 j hj).2.1.below hb, (h2 j hj).2.2⟩, h3⟩
theorem TSS.put {B n i : Nat} {LN : Nat → Nat} {L : Nat → Nat → Int} {w wr : World} (h : TSS B n i LN L w) (hb : Below w.heap.size w wr) (hk : IsBlk 2 w.heap.size (LN i) (L i) wr) : TSS B n (i + 1) LN L (wr.setCell ⟨B, i, none⟩ (.slice (some ⟨w.heap.size, 0, none⟩) (LN i) (LN i))) := by
  have hB := h.lt
  obtain ⟨F, h, h1, h2, h3⟩ := h
  refine ⟨_, fun j => if j = i then w.heap.size else h j, (nrow_below h1 hb).set i _, fun j hj => ?_, fun a b hab hb2 => ?_⟩
  · by_cases e : j = i
    · subst e
      simp only [if_true]
      exact ⟨trivial, hk.block (Below.heap_setCell _ _ _ _ (by show w.heap.size ≠ B; omega)), hB⟩
    · simp only [e, if_false]
      obtain ⟨q1, q2, q3⟩ := h2 j (by omega)
      exact ⟨q1, (q2.below hb).block (Below.heap_setCell _ _ _ _ (by show h j ≠ B; omega)), q3⟩
  · by_cases e : b = i
    · subst e
      have : a ≠ b := by omega
      simp only [this, if_false, if_true]
      exact (h2 a (by omega)).2.1.lt
    · have : a ≠ i := by omega
      simp only [this, e, if_false]
      exact h3 a b hab (by omega)
set_option maxRecDepth 100000 in
set_option maxHeartbeats 2000000 in
theorem mtoSS_any (a : Option Addr) (n cap : Nat) (LN : Nat → Nat) (L : Nat → Nat → Int) (w : World) (h : LsIn a n LN L w) (hn : n ≤ 1048576) (hl : ∀ i, i < n → LN i ≤ 1048576) :
    Calls Try.prog 20 #[.slice a n cap] w fun e w' => (e = .returned (.slice (some ⟨w.heap.size, 0, none⟩) n n) ∧ TSS w.heap.size n n LN L w') ∧ Below w.heap.size w w' := by
  have hmk := run_make_row' (P := Try.prog) 29 38 (.slice none 0 0) 24 Try.underlying29 minfo_ss rfl .i64 .i64 n (by omega) (by omega)
  have H := Lib.hid h
  have HL := Lib.hid hl
  have HST : Hid (TSS w.heap.size n 0 LN L (w.alloc (.cells (madeCells #[.slice none 0 0] n) 38))) := ⟨_, fun _ => 0, World.rowIs_made w (.slice none 0 0) n 38, fun j hj => absurd hj (by omega), fun a b _ hj => absurd hj (by omega)⟩
  clear h hl
  go_enter Try.func20, Try.ntmps20
  go_wp2_with fail
  clear hmk
  go_loopw [4] (fun iv wr => ∃ (i : Nat), i ≤ n ∧ iv = .int .i64 i ∧ Hid (TSS w.heap.size n i LN L wr) ∧ Hid (Below w.heap.size w wr)) (fun iv _ => n - (intOf iv).toNat)
  case atStart => exact ⟨0, Nat.zero_le _, rfl, HST, (Below.refl _ _).alloc (Nat.le_refl _) _⟩
  case round =>
    obtain ⟨i, hi, rfl, hP, hB⟩ := hrel
    clear HST
    by_cases hlt : i < n
    · have hltz : (i : Int) < (n : Int) := by omega
      obtain ⟨b, o, rfl, ai, ci, c0, ki⟩ := (H.out.below hB.out).one hlt
      have KI := Lib.hid ki
      clear ki
      go_wp2_with fail
      refine (ntoInt64S_any ai (LN i) ci (L i) _ KI.out (HL.out i hlt)).mono ?_
      rintro e w1 ⟨⟨rfl, hk⟩, hb⟩
      have HP2 := Lib.hid (hP.out.put hb hk)
      have HP1 := hP.out.below hb
      have HB1 : Hid (Below w.heap.size w w1) := hB.out.trans (hb.mono hB.out.size)
      obtain ⟨v0, y0⟩ := HP1.cell (j := i) (by omega)
      have z0 := HP1.frozen (j := i)
      have hz : w.heap.size < w1.heap.size := HP1.lt
      clear hP hB hb hk HP1 KI c0
      go_wp2_with fail
      go_roundw
      case rel => exact ⟨i + 1, by omega, by go_num, HP2, HB1.out.setCell (p := ⟨w.heap.size, i, none⟩) (Nat.le_refl _) _⟩
      case measure => simp [intOf]; omega
    · obtain rfl : i = n := by omega
      go_wp2_with fail
      go_ret
      exact ⟨⟨rfl, hP.out⟩, hB.out⟩
/-- What is left behind a list of lists: below nought, or all of it was counted. -/
def SzSS (n l : Nat) (LN : Nat → Nat) (e : Ending) : Prop := ∃ z : Int, e = .returned (.int .i64 z) ∧ (z < 0 ∨ (n + Mn.tot LN n ≤ l ∧ z = ((l - (n + Mn.tot LN n) : Nat) : Int)))
set_option maxRecDepth 100000 in
set_option maxHeartbeats 2000000 in
theorem mszSS_any (a : Option Addr) (n cap : Nat) (LN : Nat → Nat) (L : Nat → Nat → Int) (l : Nat) (w : World) (h : LsIn a n LN L w) (hn : n ≤ 9223372036854775807) (hl : l ≤ 1048576) (hL : ∀ i, i < n → LN i ≤ 9223372036854775807) :
    Calls Try.prog 18 #[.slice a n cap, .int .i64 l] w fun e w' => SzSS n l LN e ∧ w' = w := by
  have H := Lib.hid h
  have HL := Lib.hid hL
  have h7 : (l : Int) ≤ 1048576 := by omega
  have h8 : (n : Int) ≤ 9223372036854775807 := by omega
  clear h hL
  by_cases h1 : l < n
  · have h2 : ((l : Int) - (n : Int)) < 0 := by omega
    go_enter Try.func18, Try.ntmps18
    go_wp2_with fail
    go_ret
    exact ⟨⟨_, rfl, Or.inl (by omega)⟩, rfl⟩
  · have h2 : ¬ ((l : Int) - (n : Int)) < 0 := by omega
    go_enter Try.func18, Try.ntmps18
    go_wp2_with fail
    go_loopw [1, 5] (fun kv iv wr => ∃ (i : Nat) (k : Nat), i ≤ n ∧ kv = .int .i64 k ∧ iv = .int .i64 i ∧ k ≤ 1048576 ∧ Hid (n + Mn.tot LN i ≤ l ∧ k = l - (n + Mn.tot LN i)) ∧ Hid (wr = w)) (fun _ iv _ => n - (intOf iv).toNat)
    case atStart => exact ⟨0, l - n, Nat.zero_le _, by congr 1; omega, rfl, by omega, ⟨by simp only [Mn.tot]; omega, by simp only [Mn.tot]; omega⟩, rfl⟩
    case round =>
      obtain ⟨i, k, hi, rfl, rfl, hk, hK, hW⟩ := hrel
      obtain rfl := hW.out
      clear hW
      by_cases hlt : i < n
      · have hltz : (i : Int) < (n : Int) := by omega
        obtain ⟨b, o, rfl, ai, ci, c0, _⟩ := H.out.one hlt
        by_cases h3 : LN i ≤ k
        · go_wp2_with fail
          refine (nszInt64_in ai (LN i) ci k _ h3 (by omega)).mono ?_
          rintro e w1 ⟨rfl, rfl⟩
          have h4 : ¬ ((k - LN i : Nat) : Int) < 0 := by omega
          go_wp2_with fail
          go_roundw
          case rel => exact ⟨i + 1, k - LN i, by omega, rfl, by go_num, by omega, ⟨by have := hK.out; simp only [Mn.tot]; omega, by have := hK.out; simp only [Mn.tot]; omega⟩, by first | exact rfl | exact (trivial : True)⟩
          case measure => simp [intOf]; omega
        · go_wp2_with fail
          refine (nszInt64_over ai (LN i) ci k _ (by omega) (by omega) (HL.out i hlt)).mono ?_
          rintro e w1 ⟨rfl, rfl⟩
          go_wp2_with fail
          go_ret
          exact ⟨⟨_, rfl, Or.inl (by omega)⟩, rfl⟩
      · obtain rfl : i = n := by omega
        go_wp2_with fail
        go_ret
        exact ⟨⟨_, rfl, Or.inr ⟨hK.out.1, by rw [← hK.out.2]⟩⟩, rfl⟩
theorem TSS.at_ {g n : Nat} {LN : Nat → Nat} {L : Nat → Nat → Int} {w : World} (h : TSS g n n LN L w) : LsAt (some ⟨g, 0, none⟩) n LN L w := by
  obtain ⟨F, hs, h1, h2, h3⟩ := h
  exact Or.inr ⟨g, rfl, fun i hi => ⟨_, _, (h1.cell hi).trans (by rw [(h2 i hi).1]), (h2 i hi).2.1.at_⟩⟩
end Go.Proofs.Ytbkpedcabbppbaa
