/-
  The model's tests of names and words.
-/
import Derived.Test.YtogfjomfhenhfaaGreatDoorPgMem
import Derived.Test.YtogfjomfhenhfaaGreatDoorPgI1
import Derived.Test.YtogfjomfhenhfaaGreatDoorJbRs
import Derived.Deep.QuietTactic
namespace Go.Proofs.YtogfjomfhenhfaaGreatDoor
open Go.RowKit Go.Deep

set_option maxRecDepth 100000 in
set_option maxHeartbeats 4000000 in
theorem sIsName_any (s : ByteArray) (w : World) (hs : s.size ≤ 9223372036854775807) :
    Calls Tryz.prog 98 #[.string s] w fun e w' => e = .returned (.bool (dB (Pg.NameOk s))) ∧ Below w.heap.size w w' := by
  by_cases h0 : s.size = 0
  · have HN : Hid (dB (Pg.NameOk s) = false) := dB_ff (fun k => by have := k.1; omega)
    have h1 : (s.size : Int) < 1 := by omega
    clear h0
    go_enter Tryz.func98, Tryz.ntmps98
    go_wp2_with fail
    go_ret
    exact ⟨by rw [HN.out]; rfl, Below.refl _ _⟩
  · have h1 : ¬ (s.size : Int) < 1 := by omega
    by_cases h20 : 20 < s.size
    · have HN : Hid (dB (Pg.NameOk s) = false) := dB_ff (fun k => by have := k.2.1; omega)
      have h2 : (20 : Int) < (s.size : Int) := by omega
      clear h0
      go_enter Tryz.func98, Tryz.ntmps98
      go_wp2_with fail
      go_ret
      exact ⟨by rw [HN.out]; rfl, Below.refl _ _⟩
    · have h2 : ¬ (20 : Int) < (s.size : Int) := by omega
      have hp : 0 < s.size := by omega
      have hpz : (0 : Int) < (s.size : Int) := by omega
      have H0 : Hid (1 ≤ s.size ∧ s.size ≤ 20) := by show _ ∧ _; omega
      clear h0 h20
      by_cases c0 : 97 ≤ (s[0]'hp).toNat ∧ (s[0]'hp).toNat ≤ 122
      · have d1 : ¬ ((s[0]'hp).toNat : Int) < 97 := by omega
        have d2 : ¬ (122 : Int) < ((s[0]'hp).toNat : Int) := by omega
        have HL0 : Hid (Pg.Let (s[0]'hp)) := c0
        clear c0
        go_enter Tryz.func98, Tryz.ntmps98
        go_wp2_with fail
        clear d1 d2
        go_loopw [3] (fun iv wr => ∃ (i : Nat), i ≤ s.size ∧ iv = .int .i64 i ∧ Hid (∀ j (hj : j < s.size), j < i → Pg.Let (s[j]'hj) ∨ (0 < j ∧ Pg.Beh (s[j]'hj))) ∧ wr = w) (fun iv _ => s.size - (intOf iv).toNat)
        case atStart => exact ⟨0, Nat.zero_le _, rfl, fun i _ hi => absurd hi (Nat.not_lt_zero _), rfl⟩
        case round =>
          obtain ⟨i, hi, rfl, hP, rfl⟩ := hrel
          by_cases hlt : i < s.size
          · have hltz : (i : Int) < (s.size : Int) := by omega
            have HC : Hid (∀ q, Pg.Let (s[i]'hlt) ∨ Pg.Beh (s[i]'hlt) → q < i + 1 → ∀ hj : q < s.size, Pg.Let (s[q]'hj) ∨ (0 < q ∧ Pg.Beh (s[q]'hj))) := fun q hc hq hj => by
              by_cases e : q = i
              · subst e
                by_cases e0 : q = 0
                · subst e0; exact Or.inl HL0.out
                · rcases hc with hc | hc
                  · exact Or.inl hc
                  · exact Or.inr ⟨by omega, hc⟩
              · exact hP.out q hj (by omega)
            have HX : Hid (¬ (Pg.Let (s[i]'hlt) ∨ Pg.Beh (s[i]'hlt)) → dB (Pg.NameOk s) = false) := fun hc => dB_ff (fun k => by
              rcases k.2.2 i hlt with k1 | k1
              · exact hc (Or.inl k1)
              · exact hc (Or.inr k1.2))
            by_cases f1 : 97 ≤ (s[i]'hlt).toNat
            · have e1 : (97 : Int) ≤ ((s[i]'hlt).toNat : Int) := by omega
              by_cases f2 : (s[i]'hlt).toNat ≤ 122
              · have e2 : ((s[i]'hlt).toNat : Int) ≤ 122 := by omega
                have HQ : Hid (Pg.Let (s[i]'hlt) ∨ Pg.Beh (s[i]'hlt)) := Or.inl ⟨f1, f2⟩
                clear f1 f2
                go_wp2_with fail
                go_roundw
                case rel => exact ⟨i + 1, by omega, by go_num, fun q hj hq => HC.out q HQ.out hq hj, by trivial⟩
                case measure => simp [intOf]; omega
              · have e2 : ¬ ((s[i]'hlt).toNat : Int) ≤ 122 := by omega
                have e3 : (48 : Int) ≤ ((s[i]'hlt).toNat : Int) := by omega
                have e4 : ¬ ((s[i]'hlt).toNat : Int) ≤ 57 := by omega
                have e5 : (((s[i]'hlt).toNat : Int) == 45) = false := by simp; omega
                have HQ : Hid (dB (Pg.NameOk s) = false) := HX.out (fun k => by
                  rcases k with k | k
                  · unfold Pg.Let at k; omega
                  · unfold Pg.Beh at k; omega)
                clear f1 f2
                go_wp2_with fail
                go_ret
                exact ⟨by rw [HQ.out]; rfl, Below.refl _ _⟩
            · have e1 : ¬ (97 : Int) ≤ ((s[i]'hlt).toNat : Int) := by omega
              by_cases f3 : 48 ≤ (s[i]'hlt).toNat
              · have e3 : (48 : Int) ≤ ((s[i]'hlt).toNat : Int) := by omega
                by_cases f4 : (s[i]'hlt).toNat ≤ 57
                · have e4 : ((s[i]'hlt).toNat : Int) ≤ 57 := by omega
                  have HQ : Hid (Pg.Let (s[i]'hlt) ∨ Pg.Beh (s[i]'hlt)) := Or.inr (Or.inl ⟨f3, f4⟩)
                  clear f1 f3 f4
                  go_wp2_with fail
                  go_roundw
                  case rel => exact ⟨i + 1, by omega, by go_num, fun q hj hq => HC.out q HQ.out hq hj, by trivial⟩
                  case measure => simp [intOf]; omega
                · have e4 : ¬ ((s[i]'hlt).toNat : Int) ≤ 57 := by omega
                  have e5 : (((s[i]'hlt).toNat : Int) == 45) = false := by simp; omega
                  have HQ : Hid (dB (Pg.NameOk s) = false) := HX.out (fun k => by
                  rcases k with k | k
                  · unfold Pg.Let at k; omega
                  · unfold Pg.Beh at k; omega)
                  clear f1 f3 f4
                  go_wp2_with fail
                  go_ret
                  exact ⟨by rw [HQ.out]; rfl, Below.refl _ _⟩
              · have e3 : ¬ (48 : Int) ≤ ((s[i]'hlt).toNat : Int) := by omega
                by_cases f5 : (s[i]'hlt).toNat = 45
                · have e5 : (((s[i]'hlt).toNat : Int) == 45) = true := by simp; omega
                  have HQ : Hid (Pg.Let (s[i]'hlt) ∨ Pg.Beh (s[i]'hlt)) := Or.inr (Or.inr f5)
                  clear f1 f3 f5
                  go_wp2_with fail
                  go_roundw
                  case rel => exact ⟨i + 1, by omega, by go_num, fun q hj hq => HC.out q HQ.out hq hj, by trivial⟩
                  case measure => simp [intOf]; omega
                · have e5 : (((s[i]'hlt).toNat : Int) == 45) = false := by simp; omega
                  have HQ : Hid (dB (Pg.NameOk s) = false) := HX.out (fun k => by
                  rcases k with k | k
                  · unfold Pg.Let at k; omega
                  · unfold Pg.Beh at k; omega)
                  clear f1 f3 f5
                  go_wp2_with fail
                  go_ret
                  exact ⟨by rw [HQ.out]; rfl, Below.refl _ _⟩
          · have HK : Hid (dB (Pg.NameOk s) = true) := dB_tt ⟨H0.out.1, H0.out.2, fun j hj => hP.out j hj (by omega)⟩
            go_wp2_with fail
            go_ret
            exact ⟨by rw [HK.out]; rfl, Below.refl _ _⟩
      · have HN : Hid (dB (Pg.NameOk s) = false) := dB_ff (fun k => by
          rcases k.2.2 0 hp with k1 | k1
          · exact c0 k1
          · omega)
        by_cases f1 : (s[0]'hp).toNat < 97
        · have d1 : ((s[0]'hp).toNat : Int) < 97 := by omega
          clear c0 f1
          go_enter Tryz.func98, Tryz.ntmps98
          go_wp2_with fail
          go_ret
          exact ⟨by rw [HN.out]; rfl, Below.refl _ _⟩
        · have d1 : ¬ ((s[0]'hp).toNat : Int) < 97 := by omega
          have d2 : (122 : Int) < ((s[0]'hp).toNat : Int) := by omega
          clear c0 f1
          go_enter Tryz.func98, Tryz.ntmps98
          go_wp2_with fail
          go_ret
          exact ⟨by rw [HN.out]; rfl, Below.refl _ _⟩
/-- The model's list of words. -/
def wdCells : List Value := (List.range 10).map fun k => Value.string (Pg.wd k)
set_option maxRecDepth 100000 in
theorem sWords_any (w : World) :
    Calls Tryz.prog 120 #[] w fun e w' => e = .returned (.slice (some ⟨w.heap.size, 0, none⟩) 10 10) ∧ w' = w.alloc (.cells ⟨wdCells⟩ 9) := by
  go_enter Tryz.func120, Tryz.ntmps120
  go_wp2_with fail
  exact bodyPost_ret (v := .slice (some ⟨w.heap.size, 0, none⟩) 10 10) (by simp [results, Tryz.results120, go_sem]) rfl ⟨rfl, rfl⟩
theorem wdCells_at {k : Nat} (h : k < 10) (w : World) : (w.alloc (.cells ⟨wdCells⟩ 9)).cell? ⟨w.heap.size, k, none⟩ = some (.string (Pg.wd k)) := by
  have hr := rowN_alloc w wdCells 9
  have h2 := hr.cell (i := k) (by simpa [wdCells] using h)
  rw [h2]
  unfold rowN wdCells
  simp [h]
set_option maxRecDepth 100000 in
set_option maxHeartbeats 4000000 in
theorem sWord_any (s : ByteArray) (w : World) :
    Calls Tryz.prog 99 #[.string s] w fun e w' => e = .returned (.int .i64 (Pg.wordI s)) ∧ Below w.heap.size w w' := by
  go_enter Tryz.func99, Tryz.ntmps99
  go_wp2_with fail
  refine (sWords_any _).mono ?_
  rintro e w1 ⟨rfl, hw1⟩
  obtain ⟨W, hW⟩ : ∃ W, W = w.alloc (.cells ⟨wdCells⟩ 9) := ⟨_, rfl⟩
  have HC : Hid (∀ k, k < 10 → W.cell? ⟨w.heap.size, k, none⟩ = some (.string (Pg.wd k))) := fun k hk => by rw [hW]; exact wdCells_at hk w
  have HB : Hid (Below w.heap.size w W) := by show Below _ _ _; rw [hW]; exact nbel_alloc _ _
  rw [hw1, ← hW]
  clear hw1 hW w1
  go_wp2_with fail
  go_loopw [4] (fun iv wr => ∃ (i : Nat), (1 ≤ i ∧ i ≤ 10) ∧ iv = .int .i64 i ∧ wr = W ∧ Hid (∀ j, 1 ≤ j → j < i → Pg.wd j ≠ s)) (fun iv _ => 10 - (intOf iv).toNat)
  case atStart => exact ⟨1, by omega, rfl, rfl, fun j h1 h2 => absurd h2 (by omega)⟩
  case round =>
    obtain ⟨i, hi, rfl, rfl, hP⟩ := hrel
    by_cases hlt : i < 10
    · have hltz : (i : Int) < 10 := by omega
      have c0 := HC.out i hlt
      by_cases k : Pg.wd i = s
      · subst k
        have HK : Hid (Pg.wordI (Pg.wd i) = i) := Pg.wordI_wd (by omega)
        have q : ((Pg.wd i).toList == (Pg.wd i).toList) = true := by simp
        go_wp2_with fail
        go_ret
        exact ⟨by rw [HK.out]; rfl, HB.out⟩
      · have q := gstr_ne k
        have HP2 : Hid (∀ j, 1 ≤ j → j < i + 1 → Pg.wd j ≠ s) := fun j h1 h2 => by
          by_cases e : j = i
          · subst e; exact k
          · exact hP.out j h1 (by omega)
        clear k
        go_wp2_with fail
        go_roundw
        case rel => exact ⟨i + 1, by omega, by go_num, by trivial, HP2⟩
        case measure => simp [intOf]; omega
    · obtain rfl : i = 10 := by omega
      have HK : Hid (Pg.wordI s = -1) := Pg.wordI_no (fun ⟨k, hk, e⟩ => hP.out k hk.1 (by omega) e)
      go_wp2_with fail
      go_ret
      exact ⟨by rw [HK.out]; rfl, HB.out⟩
set_option maxRecDepth 100000 in
set_option maxHeartbeats 4000000 in
theorem sFree_any (s : ByteArray) (w : World) (hs : s.size ≤ 9223372036854775807) :
    Calls Tryz.prog 79 #[.string s] w fun e w' => e = .returned (.bool (dB (Pg.Free s))) ∧ Below w.heap.size w w' := by
  go_enter Tryz.func79, Tryz.ntmps79
  go_wp2_with fail
  refine (sIsName_any s _ hs).mono ?_
  rintro e w1 ⟨rfl, hb1⟩
  have HB := Lib.hid hb1
  clear hb1
  by_cases k : Pg.NameOk s
  · rw [dB_tt k]
    have K := Lib.hid k
    clear k
    go_wp2_with fail
    refine (sWord_any s _).mono ?_
    rintro e w2 ⟨rfl, hb2⟩
    have HB2 : Hid (Below w.heap.size w w2) := HB.out.trans (hb2.mono HB.out.size)
    clear hb2 HB
    by_cases k2 : Pg.wordI s < 0
    · have HK : Hid (dB (Pg.Free s) = true) := dB_tt ⟨K.out, Pg.wordI_lt.1 k2⟩
      go_wp2_with fail
      go_ret
      exact ⟨by rw [HK.out]; rfl, HB2.out⟩
    · have HK : Hid (dB (Pg.Free s) = false) := dB_ff (fun q => k2 (Pg.wordI_lt.2 q.2))
      have HZ := Lib.hid k2
      go_wp2_with fail
      go_ret
      exact ⟨by rw [HK.out]; first | rfl | simp [HZ.out], HB2.out⟩
  · rw [dB_ff k]
    have HK : Hid (dB (Pg.Free s) = false) := dB_ff (fun q => k q.1)
    clear k
    go_wp2_with fail
    go_ret
    exact ⟨by rw [HK.out]; rfl, HB.out⟩
end Go.Proofs.YtogfjomfhenhfaaGreatDoor
