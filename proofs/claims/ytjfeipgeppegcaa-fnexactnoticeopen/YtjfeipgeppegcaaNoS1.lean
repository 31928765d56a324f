/-
  The model's test of homes.
-/
import Derived.Test.YtjfeipgeppegcaaNoI1
import Derived.Test.YtjfeipgeppegcaaPgS1
namespace Go.Proofs.Ytjfeipgeppegcaa
open Go.RowKit Go.Deep

set_option maxRecDepth 100000 in
set_option maxHeartbeats 8000000 in
theorem specHomes_any (la : Option Addr) (n lk : Nat) (B : Nat → No.Ho) (w : World) (h : HosAt la n B w) (hs : n ≤ 1048576) (hnm : HoNames 1048576 n B) :
    Calls Try.prog 7 #[.slice la n lk] w fun e w' => e = .returned (.bool (dB (No.Right n B))) ∧ Below w.heap.size w w' := by
  by_cases hbig : 60 < n
  · have HE := Lib.hid (dB_ff (show ¬ No.Right n B from fun k => by have := k.1; omega))
    have h1 : (60 : Int) < (n : Int) := by omega
    clear h hbig
    go_enter Try.func7, Try.ntmps7
    go_wp2_with fail
    go_ret
    exact ⟨by rw [HE.out]; rfl, Below.refl _ _⟩
  have h1 : ¬ (60 : Int) < (n : Int) := by omega
  have HN60 : Hid (n ≤ 60) := by show n ≤ 60; omega
  have H := Lib.hid h
  have HNM := Lib.hid hnm
  clear h hbig hnm
  go_enter Try.func7, Try.ntmps7
  go_wp2_with fail
  clear h1
  go_loopw [3, 4] (fun iv _ wr => ∃ (i : Nat), i ≤ n ∧ iv = .int .i64 i ∧ Hid (Below w.heap.size w wr) ∧ Hid (∀ j, j < i → No.HoOk (B j) ∧ ∀ k, k < j → (B j).name ≠ (B k).name)) (fun iv _ _ => n - (intOf iv).toNat)
  case atStart => exact ⟨0, Nat.zero_le _, rfl, Below.refl _ _, fun j hj => absurd hj (Nat.not_lt_zero _)⟩
  case round =>
    obtain ⟨i, hi, rfl, hB, hP⟩ := hrel
    by_cases hlt : i < n
    · have hltz : (i : Int) < (n : Int) := by omega
      obtain ⟨b, e, hall⟩ := H.out.all (by omega)
      have HC2 : Hid (∀ W, Below w.heap.size w W → ∀ q, q < n → HoC b (q * 2) (B q) W) := fun W hW q hq => (hall q hq).below hW
      subst e
      clear hall
      obtain ⟨s, hsx⟩ : ∃ s, s = (B i).name := ⟨_, rfl⟩
      obtain ⟨a, hax⟩ : ∃ a, a = (B i).area := ⟨_, rfl⟩
      have HEL : Hid (B i = ⟨s, a⟩) := by show B i = _; rw [hsx, hax]
      have HSN : Hid (s.size ≤ 1048576) := by show s.size ≤ _; rw [hsx]; exact HNM.out i hlt
      have HCI : Hid (∀ W, Below w.heap.size w W → W.cell? ⟨b, i * 2, none⟩ = some (.string s) ∧ W.cell? ⟨b, i * 2 + 1, none⟩ = some (.int .i64 a)) := fun W hW => by
        have := HC2.out W hW i hlt
        rw [HEL.out] at this
        exact this
      clear hsx hax
      obtain ⟨c0, c1⟩ := HCI.out wr hB.out
      go_wp2_with fail
      refine (sIsName_any s _ (Nat.le_trans HSN.out (by decide))).mono ?_
      rintro e w1 ⟨rfl, hb⟩
      have HB1 : Hid (Below w.heap.size w w1) := hB.out.trans (hb.mono hB.out.size)
      clear hb hB c0 c1
      obtain ⟨c0, c1⟩ := HCI.out w1 HB1.out
      by_cases c : Pg.NameOk s
      case neg =>
        have HE := Lib.hid (dB_ff (No.right_not (H := B) hlt (by rw [HEL.out]; exact fun k => c k.1)))
        rw [dB_ff c]
        clear c
        go_wp2_with fail
        go_ret
        exact ⟨by rw [HE.out]; rfl, HB1.out⟩
      rw [dB_tt c]
      have HC := Lib.hid c
      clear c
      by_cases h4 : a < 0
      · have HE := Lib.hid (dB_ff (No.right_not (H := B) hlt (by rw [HEL.out]; exact fun k => by have := k.2.1; simp only at this; omega)))
        go_wp2_with fail
        go_ret
        exact ⟨by rw [HE.out]; rfl, HB1.out⟩
      by_cases h5 : 99 < a
      · have HE := Lib.hid (dB_ff (No.right_not (H := B) hlt (by rw [HEL.out]; exact fun k => by have := k.2.2; simp only at this; omega)))
        go_wp2_with fail
        go_ret
        exact ⟨by rw [HE.out]; rfl, HB1.out⟩
      have HOK : Hid (No.HoOk (B i)) := by show No.HoOk _; rw [HEL.out]; exact ⟨HC.out, by show 0 ≤ a; omega, by show a ≤ 99; omega⟩
      go_wp2_with fail
      clear h4 h5 c0 c1 HC
      go_loopw [4] (fun iv wr2 => ∃ (k : Nat), k ≤ i ∧ iv = .int .i64 k ∧ Hid (Below w.heap.size w wr2) ∧ Hid (∀ q, q < k → (B i).name ≠ (B q).name)) (fun iv _ => i - (intOf iv).toNat)
      case atStart => exact ⟨0, Nat.zero_le _, rfl, HB1, fun q hq => absurd hq (Nat.not_lt_zero _)⟩
      case round =>
        obtain ⟨k, hk, rfl, hB2, hP2⟩ := hrel
        clear HB1
        by_cases hlt2 : k < i
        · have hltz2 : (k : Int) < (i : Int) := by omega
          have hltz3 : (k : Int) < (n : Int) := by omega
          obtain ⟨c0, _⟩ := HCI.out _ hB2.out
          obtain ⟨d0, _⟩ := HC2.out _ hB2.out k (by omega)
          obtain ⟨t, ht⟩ : ∃ t, t = (B k).name := ⟨_, rfl⟩
          rw [← ht] at d0
          by_cases c : t = s
          · subst c
            have HE := Lib.hid (dB_ff (No.right_not2 (H := B) hlt ⟨k, hlt2, by rw [HEL.out]; exact ht⟩))
            have hne : (t.toList == t.toList) = true := by simp
            clear ht
            go_wp2_with fail
            go_quiet (fail)
            go_wp2_with fail
            go_ret
            exact ⟨by rw [HE.out]; rfl, ndrewN hB2.out _⟩
          · have hne := gstr_ne c
            have HNE : Hid ((B i).name ≠ (B k).name) := by show _ ≠ _; rw [HEL.out, ← ht]; exact fun e => c e.symm
            clear c ht
            go_wp2_with fail
            go_quiet (fail)
            go_wp2_with fail
            go_roundw
            case rel => exact ⟨k + 1, by omega, by go_num, ndrewN hB2.out _, fun q hq => by
              by_cases e : q = k
              · subst e; exact HNE.out
              · exact hP2.out q (by omega)⟩
            case measure => simp [intOf]; omega
        · obtain rfl : k = i := by omega
          go_wp2_with fail
          go_roundw
          case rel => exact ⟨k + 1, by omega, by go_num, hB2, fun q hq => by
            by_cases e : q = k
            · subst e; exact ⟨HOK.out, hP2.out⟩
            · exact hP.out q (by omega)⟩
          case measure => simp [intOf]; omega
    · obtain rfl : i = n := by omega
      have HE := Lib.hid (dB_tt (show No.Right i B from ⟨HN60.out, hP.out⟩))
      go_wp2_with fail
      go_ret
      exact ⟨by rw [HE.out]; rfl, hB.out⟩
end Go.Proofs.Ytjfeipgeppegcaa
