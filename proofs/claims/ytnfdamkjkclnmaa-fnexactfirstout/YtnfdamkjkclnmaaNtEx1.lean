/-
  The laws' conversions, comparisons and marks of links, fixed heads, fractions and numbers.
-/
import Derived.Test.YtnfdamkjkclnmaaNtMem
import Derived.Test.YtnfdamkjkclnmaaReg
namespace Go.Proofs.Ytnfdamkjkclnmaa
open Go.RowKit Go.Deep





theorem ninfo_i64 : (Try.prog.info? 2).map (fun i => (i.zero, i.size, i.bytes)) = some (some (.int .i64 0), 1, 8) := by kernel_rfl
abbrev nmkO (n : Nat) : Obj := .cells (madeCells #[.int .i64 0] n) 2
set_option maxRecDepth 100000 in
set_option maxHeartbeats 2000000 in
theorem ntoInt64S_any (a : Option Addr) (n cap : Nat) (f : Nat → Int) (w : World) (h : IsIn a n f w) (hn : n ≤ 1048576) :
    Calls Try.prog 36 #[.slice a n cap] w fun e w' => (e = .returned (.slice (some ⟨w.heap.size, 0, none⟩) n n) ∧ IsBlk 2 w.heap.size n f w') ∧ Below w.heap.size w w' := by
  have hmk := run_make_row' (P := Try.prog) 60 2 (.int .i64 0) 8 Try.underlying60 ninfo_i64 rfl .i64 .i64 n (by omega) (by omega)
  have H := Lib.hid h
  have HST : Hid (IsPart 2 w.heap.size n 0 f (w.alloc (nmkO n))) := ⟨_, World.rowIs_made w (.int .i64 0) n 2, fun j hj => absurd hj (by omega)⟩
  clear h
  go_enter Try.func36, Try.ntmps36
  go_wp2_with fail
  clear hmk
  go_loopw [4] (fun iv wr => ∃ (i : Nat), i ≤ n ∧ iv = .int .i64 i ∧ Hid (IsPart 2 w.heap.size n i f wr) ∧ Hid (Below w.heap.size w wr)) (fun iv _ => n - (intOf iv).toNat)
  case atStart => exact ⟨0, Nat.zero_le _, rfl, HST, (Below.refl _ _).alloc (Nat.le_refl _) _⟩
  case round =>
    obtain ⟨i, hi, rfl, hP, hB⟩ := hrel
    clear HST
    by_cases hlt : i < n
    · have hltz : (i : Int) < (n : Int) := by omega
      obtain ⟨b, o, rfl, c0⟩ := (H.out.below hB.out).at1 hlt
      have HP2 := Lib.hid (hP.out.put (f i) rfl)
      obtain ⟨v0, y0⟩ := hP.out.cell (j := i) (by omega)
      have z0 := hP.out.frozen i
      have hz : w.heap.size < wr.heap.size := hP.out.lt
      clear hP
      go_wp2_with fail
      go_roundw
      case rel => exact ⟨i + 1, by omega, by go_num, HP2, hB.out.setCell (p := ⟨w.heap.size, i, none⟩) (Nat.le_refl _) _⟩
      case measure => simp [intOf]; omega
    · obtain rfl : i = n := by omega
      go_wp2_with fail
      go_ret
      exact ⟨⟨rfl, hP.out.full (Nat.le_refl _)⟩, hB.out⟩
theorem nszInt64_in (a : Option Addr) (n cap : Nat) (l : Nat) (w : World) (hn : n ≤ l) (hl : l ≤ 1048576) :
    Calls Try.prog 34 #[.slice a n cap, .int .i64 l] w fun e w' => e = .returned (.int .i64 ((l - n : Nat) : Int)) ∧ w' = w := by
  have h1 : ¬ ((l : Int) - (n : Int)) < 0 := by omega
  have h2 : ((l : Int) - (n : Int)) = ((l - n : Nat) : Int) := by omega
  have h3 : ¬ (((l - n : Nat) : Int)) < 0 := by omega
  have h4 : ((l - n : Nat) : Int) ≤ 1048576 := by omega
  have h5 : 0 ≤ ((l - n : Nat) : Int) := by omega
  have h6 : (n : Int) ≤ 1048576 := by omega
  have h7 : (l : Int) ≤ 1048576 := by omega
  go_enter Try.func34, Try.ntmps34
  go_wp2_with fail
  go_ret
  exact ⟨ret_int (by omega), rfl⟩
theorem nszInt64_over (a : Option Addr) (n cap : Nat) (l : Nat) (w : World) (hn : l < n) (hl : l ≤ 1048576) (hm : n ≤ 9223372036854775807) :
    Calls Try.prog 34 #[.slice a n cap, .int .i64 l] w fun e w' => e = .returned (.int .i64 (-1)) ∧ w' = w := by
  have h1 : ((l : Int) - (n : Int)) < 0 := by omega
  have h7 : (l : Int) ≤ 1048576 := by omega
  have h8 : (n : Int) ≤ 9223372036854775807 := by omega
  go_enter Try.func34, Try.ntmps34
  go_wp2_with fail
  go_ret
  exact ⟨rfl, rfl⟩
set_option maxRecDepth 100000 in
set_option maxHeartbeats 2000000 in
theorem neqInt64S_same (a b : Option Addr) (n ca cb : Nat) (f : Nat → Int) (w : World) (h1 : IsAt a n f w) (h2 : IsAt b n f w) (hn : n ≤ 1048576) :
    Calls Try.prog 40 #[.slice a n ca, .slice b n cb] w fun e w' => e = .returned (.bool true) ∧ Below w.heap.size w w' := by
  have H1 := Lib.hid h1
  have H2 := Lib.hid h2
  clear h1 h2
  go_enter Try.func40, Try.ntmps40
  go_wp2_with fail
  go_loopw [5] (fun iv wr => ∃ (i : Nat), i ≤ n ∧ iv = .int .i64 i ∧ Hid (Below w.heap.size w wr)) (fun iv _ => n - (intOf iv).toNat)
  case atStart => exact ⟨0, Nat.zero_le _, rfl, Below.refl _ _⟩
  case round =>
    obtain ⟨i, hi, rfl, hB⟩ := hrel
    by_cases hlt : i < n
    · have hltz : (i : Int) < (n : Int) := by omega
      obtain ⟨b1, rfl, k1⟩ := (H1.out.below hB.out).at1 hlt
      obtain ⟨b2, rfl, k2⟩ := (H2.out.below hB.out).at1 hlt
      go_wp2_with fail
      go_region
      go_wp2_with fail
      go_roundw
      case rel => exact ⟨i + 1, by omega, by go_num, hB.out.drew⟩
      case measure => simp [intOf]; omega
    · obtain rfl : i = n := by omega
      go_wp2_with fail
      go_ret
      exact ⟨rfl, hB.out⟩
end Go.Proofs.Ytnfdamkjkclnmaa
