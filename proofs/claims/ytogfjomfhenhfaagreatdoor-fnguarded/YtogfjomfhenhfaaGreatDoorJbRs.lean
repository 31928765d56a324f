/-
  Rising numbers: the program's test and the model's.
-/
import Derived.Test.YtogfjomfhenhfaaGreatDoorPlMath
import Derived.Deep.QuietTactic
namespace Go.Proofs.YtogfjomfhenhfaaGreatDoor
open Go.RowKit Go.Deep

/-- The number behind which the next must come. -/
def Pl.lastOf (f : Nat → Int) (i : Nat) : Int := if i = 0 then -1 else f (i - 1)
set_option maxHeartbeats 1000000 in
theorem prising_any (a : Option Addr) (n cap : Nat) (f : Nat → Int) (top : Nat) (w : World) (h : IsAt a n f w) (hn : n ≤ 1048576) (ht : top ≤ 1048576) :
    Calls Tryz.prog 69 #[.slice a n cap, .int .i64 top] w fun e w' => e = .returned (.bool (dB (Pl.Rising n f top))) ∧ w' = w := by
  have H := Lib.hid h
  clear h
  go_enter Tryz.func69, Tryz.ntmps69
  go_wp2_with fail
  go_loopw [5, 7, 10] (fun lv _ iv wr => ∃ (i : Nat), i ≤ n ∧ iv = .int .i64 i ∧ lv = .int .i64 (Pl.lastOf f i) ∧ wr = w ∧ Hid (∀ j, j < i → (0 ≤ f j ∧ f j < top) ∧ (0 < j → f (j - 1) < f j))) (fun _ _ iv _ => n - (intOf iv).toNat)
  case atStart => exact ⟨0, Nat.zero_le _, rfl, rfl, rfl, fun j hj => absurd hj (Nat.not_lt_zero _)⟩
  case round =>
    obtain ⟨i, hi, rfl, rfl, rfl, hP⟩ := hrel
    by_cases hlt : i < n
    · have hltz : (i : Int) < (n : Int) := by omega
      obtain ⟨b, rfl, c0⟩ := H.out.at1 hlt
      have HL : Hid (-1 ≤ Pl.lastOf f i ∧ (0 < i → Pl.lastOf f i = f (i - 1)) ∧ (i = 0 → Pl.lastOf f i = -1)) := by
        unfold Pl.lastOf
        by_cases e : i = 0
        · subst e; exact ⟨by simp, fun h => absurd h (by omega), fun _ => by simp⟩
        · rw [if_neg e]
          exact ⟨by have := (hP.out (i - 1) (by omega)).1.1; omega, fun _ => rfl, fun h => absurd h e⟩
      generalize Pl.lastOf f i = lv at HL ⊢
      by_cases c1 : f i ≤ lv
      · have HE : Hid (dB (Pl.Rising n f top) = false) := dB_ff (fun h => by
          have := h i hlt
          have k := HL.out
          by_cases e : i = 0
          · have := k.2.2 e; omega
          · have := k.2.1 (by omega); omega)
        go_wp2_with fail
        go_ret
        exact ⟨by rw [HE.out]; rfl, rfl⟩
      · by_cases c2 : (top : Int) ≤ f i
        · have HE : Hid (dB (Pl.Rising n f top) = false) := dB_ff (fun h => by have := h i hlt; omega)
          go_wp2_with fail
          go_ret
          exact ⟨by rw [HE.out]; rfl, rfl⟩
        · have HC : Hid ((0 ≤ f i ∧ f i < top) ∧ (0 < i → f (i - 1) < f i)) := by
            have k := HL.out
            exact ⟨by omega, fun h => by have := k.2.1 h; omega⟩
          go_wp2_with fail
          go_roundw
          case rel => exact ⟨i + 1, by omega, by go_num, by simp [Pl.lastOf], by trivial, fun j hj => by
            by_cases e : j = i
            · subst e; exact HC.out
            · exact hP.out j (by omega)⟩
          case measure => simp [intOf]; omega
    · obtain rfl : i = n := by omega
      go_wp2_with fail
      go_ret
      exact ⟨by rw [dB_tt (show Pl.Rising i f top from hP.out)]; rfl, rfl⟩
set_option maxRecDepth 100000 in
set_option maxHeartbeats 1000000 in
theorem srising_any (a : Option Addr) (n cap : Nat) (f : Nat → Int) (top : Nat) (w : World) (h : IsAt a n f w) (hn : n ≤ 1048576) (_ht : top ≤ 1048576) :
    Calls Tryz.prog 47 #[.slice a n cap, .int .i64 top] w fun e w' => e = .returned (.bool (dB (Pl.Rising n f top))) ∧ Below w.heap.size w w' := by
  have H := Lib.hid h
  clear h
  go_enter Tryz.func47, Tryz.ntmps47
  go_wp2_with fail
  go_loopw [5] (fun iv wr => ∃ (i : Nat), i ≤ n ∧ iv = .int .i64 i ∧ Hid (Below w.heap.size w wr) ∧ Hid (∀ j, j < i → (0 ≤ f j ∧ f j < top) ∧ (0 < j → f (j - 1) < f j))) (fun iv _ => n - (intOf iv).toNat)
  case atStart => exact ⟨0, Nat.zero_le _, rfl, Below.refl _ _, fun j hj => absurd hj (Nat.not_lt_zero _)⟩
  case round =>
    obtain ⟨i, hi, rfl, hB, hP⟩ := hrel
    by_cases hlt : i < n
    · have hltz : (i : Int) < (n : Int) := by omega
      obtain ⟨b, e, c0⟩ := (H.out.below hB.out).at1 hlt
      subst e
      by_cases h4 : f i < 0
      · have HE : Hid (dB (Pl.Rising n f top) = false) := dB_ff (fun k => by have := (k i hlt).1.1; omega)
        have e4 : decide (f i < 0) = true := by simpa using h4
        clear h4
        go_wp2_with fail
        go_quiet (fail)
        go_wp2_with fail
        go_ret
        exact ⟨by rw [HE.out]; rfl, ndrewN hB.out _⟩
      have e4 : decide (f i < 0) = false := by simpa using h4
      by_cases h5 : (top : Int) ≤ f i
      · have HE : Hid (dB (Pl.Rising n f top) = false) := dB_ff (fun k => by have := (k i hlt).1.2; omega)
        have e5 : decide ((top : Int) ≤ f i) = true := by simpa using h5
        clear h4 h5
        go_wp2_with fail
        go_quiet (fail)
        go_wp2_with fail
        go_ret
        exact ⟨by rw [HE.out]; rfl, ndrewN hB.out _⟩
      have e5 : decide ((top : Int) ≤ f i) = false := by simpa using h5
      have HOK : Hid (0 ≤ f i ∧ f i < top) := ⟨by omega, by omega⟩
      clear h4 h5
      by_cases h6 : i = 0
      · subst h6
        go_wp2_with fail
        go_quiet (fail)
        go_wp2_with fail
        go_roundw
        case rel =>
          refine ⟨1, by omega, by go_num, ndrewN hB.out _, fun j hj => ?_⟩
          obtain rfl : j = 0 := by omega
          exact ⟨HOK.out, fun x => absurd x (by omega)⟩
        case measure => simp [intOf]; omega
      obtain ⟨j, rfl⟩ : ∃ j, i = j + 1 := ⟨i - 1, by omega⟩
      obtain ⟨b2, e, c1⟩ := (H.out.below hB.out).at1 (i := j) (by omega)
      simp at e
      subst e
      have e6 : decide ((0 : Int) < ((j + 1 : Nat) : Int)) = true := by simp
      clear h6
      by_cases h7 : f (j + 1) ≤ f j
      · have HE : Hid (dB (Pl.Rising n f top) = false) := dB_ff (fun k => by have := (k (j + 1) hlt).2 (by omega); simp only [Nat.add_sub_cancel] at this; omega)
        have e7 : decide (f (j + 1) ≤ f j) = true := by simpa using h7
        clear h7
        go_wp2_with fail
        go_quiet (fail)
        go_wp2_with fail
        go_ret
        exact ⟨by rw [HE.out]; rfl, ndrewN hB.out _⟩
      have e7 : decide (f (j + 1) ≤ f j) = false := by simpa using h7
      have HLT : Hid (f j < f (j + 1)) := by show f j < f (j + 1); omega
      clear h7
      go_wp2_with fail
      go_quiet (fail)
      go_wp2_with fail
      go_roundw
      case rel =>
        refine ⟨j + 1 + 1, by omega, by go_num, ndrewN hB.out _, fun t ht => ?_⟩
        by_cases et : t = j + 1
        · subst et; exact ⟨HOK.out, fun _ => by simp only [Nat.add_sub_cancel]; exact HLT.out⟩
        · exact hP.out t (by omega)
      case measure => simp [intOf]; omega
    · obtain rfl : i = n := by omega
      go_wp2_with fail
      go_ret
      exact ⟨by rw [dB_tt (show Pl.Rising i f top from hP.out)]; rfl, hB.out⟩
end Go.Proofs.YtogfjomfhenhfaaGreatDoor
