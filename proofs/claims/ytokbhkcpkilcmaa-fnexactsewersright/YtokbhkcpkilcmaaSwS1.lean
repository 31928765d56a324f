/-
  The contracts of the model's tests of rivers and rain.
-/
import Derived.Test.YtokbhkcpkilcmaaSwI2
import Derived.Test.YtokbhkcpkilcmaaReg
namespace Go.Proofs.Ytokbhkcpkilcmaa
open Go.RowKit Go.Deep


set_option maxRecDepth 100000 in
set_option maxHeartbeats 4000000 in
theorem specRight_any (a : Option Addr) (n cap : Nat) (rs : Nat → Sw.Rc) (w : World) (h : RcsAt a n rs w) :
    Calls Try.prog 5 #[.slice a n cap] w fun e w' => BoolEnd (Sw.Right n rs) e ∧ Below w.heap.size w w' := by
  by_cases hn1 : n < 1
  · have hz : (n : Int) < 1 := by omega
    go_enter Try.func5, Try.ntmps5
    go_wp2_with fail
    go_ret
    exact ⟨.ff (fun h => by have := h.1; omega), Below.refl _ _⟩
  by_cases hn2 : 40 < n
  · have hz : ¬ (n : Int) < 1 := by omega
    have hz2 : (40 : Int) < (n : Int) := by omega
    go_enter Try.func5, Try.ntmps5
    go_wp2_with fail
    go_ret
    exact ⟨.ff (fun h => by have := h.1; omega), Below.refl _ _⟩
  have hz : ¬ (n : Int) < 1 := by omega
  have hz2 : ¬ (40 : Int) < (n : Int) := by omega
  have H := Lib.hid h
  clear h
  go_enter Try.func5, Try.ntmps5
  go_wp2_with fail
  go_loopw [3] (fun iv wr => ∃ (i : Nat), i ≤ n ∧ iv = .int .i64 i ∧ Hid (Below w.heap.size w wr) ∧ Hid (∀ j, j < i → Sw.Amounts (rs j) ∧ Sw.DownOk n j (rs j).dn)) (fun iv _ => n - (intOf iv).toNat)
  case atStart => exact ⟨0, Nat.zero_le _, rfl, Below.refl _ _, fun j hj => absurd hj (Nat.not_lt_zero _)⟩
  case round =>
    obtain ⟨i, hi, rfl, hB, hP⟩ := hrel
    by_cases hlt : i < n
    · have hltz : (i : Int) < (n : Int) := by omega
      obtain ⟨b, rfl, c0, c1, c2, c3, c4, c5⟩ := (H.out.below hB.out).at_ hlt
      have HB1 : Hid (∀ o, Below w.heap.size w (wr.alloc o)) := fun o => hB.out.alloc hB.out.size o
      by_cases g0 : (rs i).kd < 1
      · go_wp2_with fail
        go_ret
        exact ⟨BoolEnd.ff (P := Sw.Right n rs) (fun h => by obtain ⟨⟨a0, a1⟩, ⟨b0, b1⟩, ⟨d0, d1⟩, ⟨e0, e1⟩, ⟨j0, j1⟩⟩ := (h.2 i hlt).1; omega), HB1.out _⟩
      by_cases g1 : (3 : Int) < (rs i).kd
      · go_wp2_with fail
        go_ret
        exact ⟨BoolEnd.ff (P := Sw.Right n rs) (fun h => by obtain ⟨⟨a0, a1⟩, ⟨b0, b1⟩, ⟨d0, d1⟩, ⟨e0, e1⟩, ⟨j0, j1⟩⟩ := (h.2 i hlt).1; omega), HB1.out _⟩
      by_cases g2 : (rs i).rm < 0
      · go_wp2_with fail
        go_ret
        exact ⟨BoolEnd.ff (P := Sw.Right n rs) (fun h => by obtain ⟨⟨a0, a1⟩, ⟨b0, b1⟩, ⟨d0, d1⟩, ⟨e0, e1⟩, ⟨j0, j1⟩⟩ := (h.2 i hlt).1; omega), HB1.out _⟩
      by_cases g3 : (1000000 : Int) < (rs i).rm
      · go_wp2_with fail
        go_ret
        exact ⟨BoolEnd.ff (P := Sw.Right n rs) (fun h => by obtain ⟨⟨a0, a1⟩, ⟨b0, b1⟩, ⟨d0, d1⟩, ⟨e0, e1⟩, ⟨j0, j1⟩⟩ := (h.2 i hlt).1; omega), HB1.out _⟩
      by_cases g4 : (rs i).fw < 0
      · go_wp2_with fail
        go_ret
        exact ⟨BoolEnd.ff (P := Sw.Right n rs) (fun h => by obtain ⟨⟨a0, a1⟩, ⟨b0, b1⟩, ⟨d0, d1⟩, ⟨e0, e1⟩, ⟨j0, j1⟩⟩ := (h.2 i hlt).1; omega), HB1.out _⟩
      by_cases g5 : (1000000 : Int) < (rs i).fw
      · go_wp2_with fail
        go_ret
        exact ⟨BoolEnd.ff (P := Sw.Right n rs) (fun h => by obtain ⟨⟨a0, a1⟩, ⟨b0, b1⟩, ⟨d0, d1⟩, ⟨e0, e1⟩, ⟨j0, j1⟩⟩ := (h.2 i hlt).1; omega), HB1.out _⟩
      by_cases g6 : (rs i).lp < 0
      · go_wp2_with fail
        go_ret
        exact ⟨BoolEnd.ff (P := Sw.Right n rs) (fun h => by obtain ⟨⟨a0, a1⟩, ⟨b0, b1⟩, ⟨d0, d1⟩, ⟨e0, e1⟩, ⟨j0, j1⟩⟩ := (h.2 i hlt).1; omega), HB1.out _⟩
      by_cases g7 : (1000000 : Int) < (rs i).lp
      · go_wp2_with fail
        go_ret
        exact ⟨BoolEnd.ff (P := Sw.Right n rs) (fun h => by obtain ⟨⟨a0, a1⟩, ⟨b0, b1⟩, ⟨d0, d1⟩, ⟨e0, e1⟩, ⟨j0, j1⟩⟩ := (h.2 i hlt).1; omega), HB1.out _⟩
      by_cases g8 : (rs i).st < 0
      · go_wp2_with fail
        go_ret
        exact ⟨BoolEnd.ff (P := Sw.Right n rs) (fun h => by obtain ⟨⟨a0, a1⟩, ⟨b0, b1⟩, ⟨d0, d1⟩, ⟨e0, e1⟩, ⟨j0, j1⟩⟩ := (h.2 i hlt).1; omega), HB1.out _⟩
      by_cases g9 : (rs i).rm < (rs i).st
      · go_wp2_with fail
        go_ret
        exact ⟨BoolEnd.ff (P := Sw.Right n rs) (fun h => by obtain ⟨⟨a0, a1⟩, ⟨b0, b1⟩, ⟨d0, d1⟩, ⟨e0, e1⟩, ⟨j0, j1⟩⟩ := (h.2 i hlt).1; omega), HB1.out _⟩
      have HA : Hid (Sw.Amounts (rs i)) := ⟨⟨by omega, by omega⟩, ⟨by omega, by omega⟩, ⟨by omega, by omega⟩, ⟨by omega, by omega⟩, ⟨by omega, by omega⟩⟩
      by_cases d1 : (rs i).dn = -1
      · have HDn : Hid ((rs i).dn = -1) := d1
        have e1 : ((rs i).dn == -1) = true := by simp [d1]
        rw [d1] at c5
        clear d1 e1
        go_wp2_with fail
        go_roundw
        case rel =>
          refine ⟨i + 1, by omega, by go_num, HB1.out _, fun j hj => ?_⟩
          by_cases e : j = i
          · subst e; exact ⟨HA.out, Or.inl HDn.out⟩
          · exact hP.out j (by omega)
        case measure => simp [intOf]; omega
      · have e1 : ((rs i).dn == -1) = false := by simp [d1]
        by_cases d2 : (rs i).dn ≤ (i : Int)
        · go_wp2_with fail
          go_ret
          exact ⟨BoolEnd.ff (P := Sw.Right n rs) (fun h => by rcases (h.2 i hlt).2 with k | k <;> omega), HB1.out _⟩
        · by_cases d3 : (n : Int) ≤ (rs i).dn
          · go_wp2_with fail
            go_ret
            exact ⟨BoolEnd.ff (P := Sw.Right n rs) (fun h => by rcases (h.2 i hlt).2 with k | k <;> omega), HB1.out _⟩
          · have HDn : Hid (Sw.DownOk n i (rs i).dn) := Or.inr ⟨by omega, by omega⟩
            go_wp2_with fail
            go_roundw
            case rel =>
              refine ⟨i + 1, by omega, by go_num, HB1.out _, fun j hj => ?_⟩
              by_cases e : j = i
              · subst e; exact ⟨HA.out, HDn.out⟩
              · exact hP.out j (by omega)
            case measure => simp [intOf]; omega
    · obtain rfl : i = n := by omega
      go_wp2_with fail
      go_ret
      exact ⟨.tt ⟨⟨by omega, by omega⟩, hP.out⟩, hB.out⟩

end Go.Proofs.Ytokbhkcpkilcmaa
