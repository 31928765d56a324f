/-
  Lists of floats: the laws' conversion and comparison, the program's test of measures.
-/
import Derived.Test.YtlipgnjknfmikaaLpFn
import Derived.Test.YtlipgnjknfmikaaLpMem
import Derived.Test.YtlipgnjknfmikaaKeep
namespace Go.Proofs.Ytlipgnjknfmikaa
open Go.RowKit Go.Deep

attribute [local go_sem] lrun_store_float lrun_store_complex
theorem linfo_f64 : (Try.prog.info? 27).map (fun i => (i.zero, i.size, i.bytes)) = some (some (.float .f64 0), 1, 8) := by kernel_rfl

set_option maxHeartbeats 1000000 in
theorem toFl_any (a : Option Addr) (n cap : Nat) (f : Nat → Nat) (w : World) (h : FlIn a n f w) (hn : n ≤ 1048576) :
    Calls Try.prog 21 #[.slice a n cap] w fun e w' => e = .returned (.slice (some ⟨w.heap.size, 0, none⟩) n n) ∧ FlBlk w.heap.size n f w' ∧ Below w.heap.size w w' := by
  have hmk := run_make_row' (P := Try.prog) 23 27 (.float .f64 0) 8 Try.underlying23 linfo_f64 rfl .i64 .i64 n (by omega) (by omega)
  have H := Lib.hid h
  clear h
  go_enter Try.func21, Try.ntmps21
  go_wp2
  clear hmk
  go_loopw [4] (fun i wx => ∃ k : Nat, k ≤ n ∧ i = .int .i64 k ∧ wx.rowIs w.heap.size 27 n (fun j => .float .f64 (if j < k then f j else 0)) ∧ Below w.heap.size w wx) (fun i _ => n - (intOf i).toNat)
  case atStart => exact ⟨0, Nat.zero_le _, rfl, (World.rowIs_made w (.float .f64 0) n 27).congr (fun i _ => by simp), (Below.refl _ _).alloc (Nat.le_refl _) _⟩
  case round =>
    obtain ⟨k, hk, rfl, hrow, hbel⟩ := hrel
    by_cases hlt : k < n
    · have hltz : (k : Int) < (n : Int) := by omega
      rcases H.out with h0 | ⟨b, off, rfl, hc⟩
      · omega
      have hblt : b < w.heap.size := World.block_lt_of_cell? _ _ (hc k hlt)
      have c0 := (hbel.cell (p := ⟨b, off + k, none⟩) hblt).trans (hc k hlt)
      have c1 := hrow.cell hlt
      have c2 := hrow.frozen k
      have Hrow : Hid (World.rowIs _ w.heap.size 27 n _) := hrow
      clear hrow hc
      go_wp2
      go_roundw
      case rel => exact ⟨k + 1, by omega, by go_num, (Hrow.out.set k _).congr (fun j hj => by
        by_cases e : j = k
        · subst e; simp
        · rw [if_neg e]; congr 1; by_cases e2 : j < k
          · rw [if_pos e2, if_pos (by omega)]
          · rw [if_neg e2, if_neg (by omega)]), hbel.setCell (Nat.le_refl _) _⟩
      case measure => simp [intOf]; omega
    · obtain rfl : k = n := by omega
      have Hrow : Hid (World.rowIs _ w.heap.size 27 k _) := hrow
      clear hrow
      go_wp2
      go_ret
      exact ⟨rfl, ⟨k, _, Nat.le_refl _, Hrow.out, fun j hj => by rw [if_pos hj]⟩, hbel⟩
set_option maxHeartbeats 1000000 in
theorem eqFl_same (a b : Option Addr) (n c1 c2 : Nat) (f : Nat → Nat) (w : World) (h1 : FlAt a n f w) (h2 : FlAt b n f w) (hn : n ≤ 1048576) :
    Calls Try.prog 23 #[.slice a n c1, .slice b n c2] w fun e w' => e = .returned (.bool true) ∧ Below w.heap.size w w' := by
  have hne : ((n : Int) != (n : Int)) = false := by simp
  have H1 := Lib.hid h1
  have H2 := Lib.hid h2
  clear h1 h2
  go_enter Try.func23, Try.ntmps23
  go_wp2
  go_loopw [5] (fun i wx => ∃ k : Nat, k ≤ n ∧ i = .int .i64 k ∧ Hid (Below w.heap.size w wx)) (fun i _ => n - (intOf i).toNat)
  case atStart => exact ⟨0, Nat.zero_le _, rfl, Below.refl _ _⟩
  case round =>
    obtain ⟨k, hk, rfl, hB⟩ := hrel
    by_cases hlt : k < n
    · have hltz : (k : Int) < (n : Int) := by omega
      have hk0 : (0 : Int) ≤ (k : Int) := by omega
      obtain ⟨g1, rfl, k1⟩ := (H1.out.below hB.out).at_ hlt
      obtain ⟨g2, rfl, k2⟩ := (H2.out.below hB.out).at_ hlt
      go_wp2_with fail
      go_quiet ((go_at_call 22; exact Calls.quiet_of_same (same_any _ _)))
      go_wp2
      go_roundw
      case rel => exact ⟨k + 1, by omega, by go_num, below_drewN hB.out _⟩
      case measure => simp [intOf]; omega
    · go_wp2
      go_ret
      exact ⟨rfl, hB.out⟩
namespace Fl
/-- The first n are measures. -/
def allB (f : Nat → Nat) : Nat → Bool
  | 0 => true
  | n + 1 => allB f n && measB (f n)
theorem allB_at {f : Nat → Nat} : ∀ {n : Nat}, allB f n = true → ∀ i, i < n → measB (f i) = true
  | 0, _, i, hi => absurd hi (Nat.not_lt_zero _)
  | n + 1, h, i, hi => by
    have h2 := Bool.and_eq_true_iff.1 h
    by_cases e : i = n
    · subst e; exact h2.2
    · exact allB_at h2.1 i (by omega)
theorem allB_no {f : Nat → Nat} {n i : Nat} (hi : i < n) (h : measB (f i) = false) : allB f n = false := by
  cases hh : allB f n with
  | false => rfl
  | true => rw [allB_at hh i hi] at h; cases h
theorem allB_of {f : Nat → Nat} : ∀ {n : Nat}, (∀ i, i < n → measB (f i) = true) → allB f n = true
  | 0, _ => rfl
  | n + 1, h => by
    show (allB f n && measB (f n)) = true
    rw [allB_of (fun i hi => h i (by omega)), h n (by omega)]; rfl
end Fl
end Go.Proofs.Ytlipgnjknfmikaa
