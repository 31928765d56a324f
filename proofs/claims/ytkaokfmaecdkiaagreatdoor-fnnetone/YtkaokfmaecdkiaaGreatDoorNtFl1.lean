/-
  The program's flows of a net.
-/
import Derived.Test.YtkaokfmaecdkiaaGreatDoorNtCatch
import Derived.Test.YtkaokfmaecdkiaaGreatDoorNtFlM
import Derived.Test.YtkaokfmaecdkiaaGreatDoorNtI1
import Derived.Test.YtkaokfmaecdkiaaGreatDoorNtEx1
import Derived.Deep.DeepCutAuto
namespace Go.Proofs.YtkaokfmaecdkiaaGreatDoor
open Go.RowKit Go.Deep

set_option maxRecDepth 100000 in
set_option maxHeartbeats 4000000 in
theorem heads_any (a : Option Addr) (n cap : Nat) (f : Nat → Int) (z : Int) (w : World) (h : IsAt a (n * 2) f w) (hb : NBd f) (hn : n ≤ 1048576) :
    Calls Tryz.prog 91 #[.slice a n cap, .int .i64 z] w fun e w' => BoolEnd (Nt.headsOk n f ∧ (n : Int) = z) e ∧ Below w.heap.size w w' := by
  have H := Lib.hid h
  have HBD := Lib.hid hb
  clear h hb
  go_enter Tryz.func91, Tryz.ntmps91
  go_wp2_with fail
  go_loopw [9] (fun iv wr => ∃ (i : Nat), i ≤ n ∧ iv = .int .i64 i ∧ Hid (Below w.heap.size w wr) ∧ Hid (Nt.headsOk i f)) (fun iv _ => n - (intOf iv).toNat)
  case atStart => exact ⟨0, Nat.zero_le _, rfl, Below.refl _ _, fun j hj => absurd hj (Nat.not_lt_zero _)⟩
  case round =>
    obtain ⟨i, hi, rfl, hB, hP⟩ := hrel
    by_cases hlt : i < n
    · have hltz : (i : Int) < (n : Int) := by omega
      obtain ⟨b, e, c0, c1⟩ := (H.out.below hB.out).at2 hlt
      subst e
      have zb : b < wr.heap.size := World.block_lt_of_cell? _ _ c0
      go_wp2_with fail
      refine (implRight_any (f (i * 2)) (f (i * 2 + 1)) _ (HBD.out _).1 (HBD.out _).2 (HBD.out _).1 (HBD.out _).2).mono ?_
      rintro e w1 ⟨rfl, hb1⟩
      have B1 : Hid (Below w.heap.size w w1) := (hB.out.alloc hB.out.size _).trans (hb1.mono (by have := hB.out.size; simp; omega))
      clear hb1
      cases hr : M.rightB (f (i * 2)) (f (i * 2 + 1)) with
      | false =>
        have HR := Lib.hid hr
        clear hr
        go_wp2_with fail
        go_ret
        exact ⟨BoolEnd.ff (fun k => by have h1 := k.1 i hlt; have h2 := HR.out; unfold Fq.R Nt.hd at h1; simp only at h1; rw [h2] at h1; cases h1), B1.out⟩
      | true =>
        have HR := Lib.hid hr
        clear hr
        go_wp2_with fail
        go_roundw
        case rel =>
          refine ⟨i + 1, by omega, by go_num, B1, fun j hj => ?_⟩
          by_cases ej : j = i
          · subst ej; exact HR.out
          · exact hP.out j (by omega)
        case measure => simp [intOf]; omega
    · obtain rfl : i = n := by omega
      by_cases hz : (i : Int) = z
      · have hz' : ((i : Int) == z) = true := by simp [hz]
        have HZ := Lib.hid hz
        clear hz
        go_wp2_with fail
        go_ret
        exact ⟨BoolEnd.tt ⟨hP.out, HZ.out⟩, hB.out⟩
      · have hz' : ((i : Int) == z) = false := by simp [hz]
        have HZ := Lib.hid hz
        clear hz
        go_wp2_with fail
        go_ret
        exact ⟨BoolEnd.ff (fun k => HZ.out k.2), hB.out⟩
end Go.Proofs.YtkaokfmaecdkiaaGreatDoor
