/-
  The contracts of the model's tests of rivers and rain.
-/
import Derived.Test.YtdpghhmcibiplaaDoorRvI2
namespace Go.Proofs.YtdpghhmcibiplaaDoor
open Go.RowKit Go.Deep

set_option maxHeartbeats 400000 in
theorem specMin (a b : Int) (w : World) : Calls Tryd.prog 58 #[.int .i64 a, .int .i64 b] w fun e w' => e = .returned (.int .i64 (min a b)) ∧ w' = w := by
  by_cases h : a < b
  · go_enter Tryd.func58, Tryd.ntmps58
    go_wp2_with fail
    go_ret
    exact ⟨ret_int (by omega), rfl⟩
  · go_enter Tryd.func58, Tryd.ntmps58
    go_wp2_with fail
    go_ret
    exact ⟨ret_int (by omega), rfl⟩
set_option maxHeartbeats 400000 in
theorem specMax (a b : Int) (w : World) : Calls Tryd.prog 59 #[.int .i64 a, .int .i64 b] w fun e w' => e = .returned (.int .i64 (max b a)) ∧ w' = w := by
  by_cases h : b < a
  · go_enter Tryd.func59, Tryd.ntmps59
    go_wp2_with fail
    go_ret
    exact ⟨ret_int (by omega), rfl⟩
  · go_enter Tryd.func59, Tryd.ntmps59
    go_wp2_with fail
    go_ret
    exact ⟨ret_int (by omega), rfl⟩

set_option maxRecDepth 100000 in
set_option maxHeartbeats 4000000 in
theorem specRight_any (a : Option Addr) (n cap : Nat) (rs : Nat → Rv.Rc) (w : World) (h : RcsAt a n rs w) :
    Calls Tryd.prog 56 #[.slice a n cap] w fun e w' => BoolEnd (Rv.Right n rs) e ∧ Below w.heap.size w w' := by
  by_cases hn1 : n < 1
  · have hz : (n : Int) < 1 := by omega
    go_enter Tryd.func56, Tryd.ntmps56
    go_wp2_with fail
    go_ret
    exact ⟨.ff (fun h => by have := h.1; omega), Below.refl _ _⟩
  by_cases hn2 : 40 < n
  · have hz : ¬ (n : Int) < 1 := by omega
    have hz2 : (40 : Int) < (n : Int) := by omega
    go_enter Tryd.func56, Tryd.ntmps56
    go_wp2_with fail
    go_ret
    exact ⟨.ff (fun h => by have := h.1; omega), Below.refl _ _⟩
  have hz : ¬ (n : Int) < 1 := by omega
  have hz2 : ¬ (40 : Int) < (n : Int) := by omega
  have H := Lib.hid h
  clear h
  go_enter Tryd.func56, Tryd.ntmps56
  go_wp2_with fail
  go_loopw [3] (fun iv wr => ∃ (i : Nat), i ≤ n ∧ iv = .int .i64 i ∧ Hid (Below w.heap.size w wr) ∧ Hid (∀ j, j < i → Rv.Amounts (rs j) ∧ Rv.DownOk n j (rs j).dn)) (fun iv _ => n - (intOf iv).toNat)
  case atStart => exact ⟨0, Nat.zero_le _, rfl, Below.refl _ _, fun j hj => absurd hj (Nat.not_lt_zero _)⟩
  case round =>
    obtain ⟨i, hi, rfl, hB, hP⟩ := hrel
    by_cases hlt : i < n
    · have hltz : (i : Int) < (n : Int) := by omega
      obtain ⟨b, rfl, c0, c1, c2, c3, c4⟩ := (H.out.below hB.out).at_ hlt
      have HB1 : Hid (∀ o, Below w.heap.size w (wr.alloc o)) := fun o => hB.out.alloc hB.out.size o
      by_cases g0 : (rs i).st < 0
      · go_wp2_with fail
        go_ret
        exact ⟨BoolEnd.ff (P := Rv.Right n rs) (fun h => by obtain ⟨⟨a0, a1⟩, ⟨b0, b1⟩, ⟨d0, d1⟩, ⟨e0, e1⟩⟩ := (h.2 i hlt).1; omega), HB1.out _⟩
      by_cases g1 : (1000000000 : Int) < (rs i).st
      · go_wp2_with fail
        go_ret
        exact ⟨BoolEnd.ff (P := Rv.Right n rs) (fun h => by obtain ⟨⟨a0, a1⟩, ⟨b0, b1⟩, ⟨d0, d1⟩, ⟨e0, e1⟩⟩ := (h.2 i hlt).1; omega), HB1.out _⟩
      by_cases g2 : (rs i).kp < 0
      · go_wp2_with fail
        go_ret
        exact ⟨BoolEnd.ff (P := Rv.Right n rs) (fun h => by obtain ⟨⟨a0, a1⟩, ⟨b0, b1⟩, ⟨d0, d1⟩, ⟨e0, e1⟩⟩ := (h.2 i hlt).1; omega), HB1.out _⟩
      by_cases g3 : (1000 : Int) < (rs i).kp
      · go_wp2_with fail
        go_ret
        exact ⟨BoolEnd.ff (P := Rv.Right n rs) (fun h => by obtain ⟨⟨a0, a1⟩, ⟨b0, b1⟩, ⟨d0, d1⟩, ⟨e0, e1⟩⟩ := (h.2 i hlt).1; omega), HB1.out _⟩
      by_cases g4 : (rs i).tk < 0
      · go_wp2_with fail
        go_ret
        exact ⟨BoolEnd.ff (P := Rv.Right n rs) (fun h => by obtain ⟨⟨a0, a1⟩, ⟨b0, b1⟩, ⟨d0, d1⟩, ⟨e0, e1⟩⟩ := (h.2 i hlt).1; omega), HB1.out _⟩
      by_cases g5 : (1000000 : Int) < (rs i).tk
      · go_wp2_with fail
        go_ret
        exact ⟨BoolEnd.ff (P := Rv.Right n rs) (fun h => by obtain ⟨⟨a0, a1⟩, ⟨b0, b1⟩, ⟨d0, d1⟩, ⟨e0, e1⟩⟩ := (h.2 i hlt).1; omega), HB1.out _⟩
      by_cases g6 : (rs i).ls < 0
      · go_wp2_with fail
        go_ret
        exact ⟨BoolEnd.ff (P := Rv.Right n rs) (fun h => by obtain ⟨⟨a0, a1⟩, ⟨b0, b1⟩, ⟨d0, d1⟩, ⟨e0, e1⟩⟩ := (h.2 i hlt).1; omega), HB1.out _⟩
      by_cases g7 : (1000000 : Int) < (rs i).ls
      · go_wp2_with fail
        go_ret
        exact ⟨BoolEnd.ff (P := Rv.Right n rs) (fun h => by obtain ⟨⟨a0, a1⟩, ⟨b0, b1⟩, ⟨d0, d1⟩, ⟨e0, e1⟩⟩ := (h.2 i hlt).1; omega), HB1.out _⟩
      have HA : Hid (Rv.Amounts (rs i)) := ⟨⟨by omega, by omega⟩, ⟨by omega, by omega⟩, ⟨by omega, by omega⟩, ⟨by omega, by omega⟩⟩
      by_cases d1 : (rs i).dn = -1
      · have HDn : Hid ((rs i).dn = -1) := d1
        have e1 : ((rs i).dn == -1) = true := by simp [d1]
        rw [d1] at c2
        clear d1 e1
        go_wp2_with fail
        go_roundw
        case rel =>
          refine ⟨i + 1, by omega, by go_num, HB1.out _, fun j hj => ?_⟩
          by_cases e : j = i
          · subst e; exact ⟨HA.out, Or.inl HDn.out⟩
          · exact hP.out j (by omega)
        case measure => simp [intOf]; omega
      · have e1 : ((rs i).dn == -1) = false := by simp [d1]
        by_cases d2 : (rs i).dn ≤ (i : Int)
        · go_wp2_with fail
          go_ret
          exact ⟨BoolEnd.ff (P := Rv.Right n rs) (fun h => by rcases (h.2 i hlt).2 with k | k <;> omega), HB1.out _⟩
        · by_cases d3 : (n : Int) ≤ (rs i).dn
          · go_wp2_with fail
            go_ret
            exact ⟨BoolEnd.ff (P := Rv.Right n rs) (fun h => by rcases (h.2 i hlt).2 with k | k <;> omega), HB1.out _⟩
          · have HDn : Hid (Rv.DownOk n i (rs i).dn) := Or.inr ⟨by omega, by omega⟩
            go_wp2_with fail
            go_roundw
            case rel =>
              refine ⟨i + 1, by omega, by go_num, HB1.out _, fun j hj => ?_⟩
              by_cases e : j = i
              · subst e; exact ⟨HA.out, HDn.out⟩
              · exact hP.out j (by omega)
            case measure => simp [intOf]; omega
    · obtain rfl : i = n := by omega
      go_wp2_with fail
      go_ret
      exact ⟨.tt ⟨⟨by omega, by omega⟩, hP.out⟩, hB.out⟩

set_option maxRecDepth 100000 in
set_option maxHeartbeats 2000000 in
theorem all_ok (a : Option Addr) (m cap : Nat) (f : Nat → Int) (w : World) (h : IntsAt a m f w) (hm : m ≤ 4194304) :
    Calls Tryd.prog 57 #[.slice a m cap, .int .i64 0, .int .i64 1000000] w fun e w' => BoolEnd (Rv.RainOk m f) e ∧ w' = w := by
  have H := Lib.hid h
  clear h
  go_enter Tryd.func57, Tryd.ntmps57
  go_wp2_with fail
  go_loopw [7] (fun iv wr => ∃ (i : Nat), i ≤ m ∧ iv = .int .i64 i ∧ Hid (wr = w) ∧ Hid (∀ j, j < i → 0 ≤ f j ∧ f j ≤ 1000000)) (fun iv _ => m - (intOf iv).toNat)
  case atStart => exact ⟨0, Nat.zero_le _, rfl, rfl, fun j hj => absurd hj (Nat.not_lt_zero _)⟩
  case round =>
    obtain ⟨i, hi, rfl, hW, hP⟩ := hrel
    obtain rfl := hW.out
    clear hW
    by_cases hlt : i < m
    · have hltz : (i : Int) < (m : Int) := by omega
      obtain ⟨b, rfl, c0⟩ := H.out.at_ hlt
      by_cases g1 : f i < 0
      · go_wp2_with fail
        go_ret
        exact ⟨BoolEnd.ff (P := Rv.RainOk m f) (fun h => by have := h i hlt; omega), rfl⟩
      by_cases g2 : (1000000 : Int) < f i
      · go_wp2_with fail
        go_ret
        exact ⟨BoolEnd.ff (P := Rv.RainOk m f) (fun h => by have := h i hlt; omega), rfl⟩
      have HG : Hid (0 ≤ f i ∧ f i ≤ 1000000) := ⟨by omega, by omega⟩
      go_wp2_with fail
      go_roundw
      case rel =>
        refine ⟨i + 1, by omega, by go_num, by first | exact rfl | exact (trivial : True), fun j hj => ?_⟩
        by_cases e : j = i
        · subst e; exact HG.out
        · exact hP.out j (by omega)
      case measure => simp [intOf]; omega
    · obtain rfl : i = m := by omega
      go_wp2_with fail
      go_ret
      exact ⟨.tt hP.out, rfl⟩
end Go.Proofs.YtdpghhmcibiplaaDoor
